/-
  A record's sectors written to a disk, one behind the other, around.
-/
import Derived.Test.YtegdlpllljccgaaDoorPrSect
set_option linter.unusedSimpArgs false
set_option linter.unusedVariables false
namespace Go.Proofs.YtegdlpllljccgaaDoor
open Go.RowKit Sh

def writesOf (first n : Nat) : St → Nat → List (List UInt8) → St × Int
  | S, _, [] => (S, 0)
  | S, pl, p :: ps => if (writeOf S ((first + pl % n : Nat) : Int) (p.map cu8)).2 = 0 then writesOf first n (writeOf S ((first + pl % n : Nat) : Int) (p.map cu8)).1 (pl + 1) ps else writeOf S ((first + pl % n : Nat) : Int) (p.map cu8)
theorem writesOf_firm (first n : Nat) : ∀ (ps : List (List UInt8)) (S : St) (pl : Nat), (writesOf first n S pl ps).1.firm = S.firm
  | [], _, _ => rfl
  | p :: ps, S, pl => by
    unfold writesOf
    split
    · rw [writesOf_firm first n ps, write_firm]
    · exact write_firm _ _ _
theorem writesOf_good (first n : Nat) : ∀ (ps : List (List UInt8)) (S : St) (pl : Nat), Good S → Good (writesOf first n S pl ps).1
  | [], _, _, h => h
  | p :: ps, S, pl, h => by
    unfold writesOf
    split
    · exact writesOf_good first n ps _ _ (good_write h _ _)
    · exact good_write h _ _
theorem writesOf_byt (first n : Nat) : ∀ (ps : List (List UInt8)) (S : St) (pl : Nat), (∀ p ∈ ps, p.length = 64) → Byt S → Byt (writesOf first n S pl ps).1
  | [], _, _, _, h => h
  | p :: ps, S, pl, hp, h => by
    have hb := byt_write h ((first + pl % n : Nat) : Int) (p := p.map cu8) ⟨p, hp p (by simp), rfl⟩
    unfold writesOf
    split
    · exact writesOf_byt first n ps _ _ (fun q hq => hp q (by simp [hq])) hb
    · exact hb
theorem writesOf_count (first n : Nat) : ∀ (ps : List (List UInt8)) (S : St) (pl : Nat), (writesOf first n S pl ps).1.ats.length ≤ S.ats.length + ps.length
  | [], _, _ => by simp [writesOf]
  | p :: ps, S, pl => by
    have := write_count S ((first + pl % n : Nat) : Int) (p.map cu8)
    unfold writesOf
    rw [List.length_cons]
    split
    · have := writesOf_count first n ps (writeOf S ((first + pl % n : Nat) : Int) (p.map cu8)).1 (pl + 1); omega
    · omega
/-- A disk that is on, with fuel without end. -/
structure Lit (S : St) : Prop where
  on : S.off = false
  fuel : S.fuel = -1
theorem lit_new (n : Nat) : Lit (newS n) := ⟨rfl, rfl⟩
theorem Lit.write {S : St} (h : Lit S) {i : Nat} (hi : i < S.firm.length) (p : List Value) : writeOf S (i : Int) p = ({ S with ats := S.ats ++ [(i : Int)], what := S.what ++ [p] }, 0) ∧ Lit (writeOf S (i : Int) p).1 := by
  have hi2 : ¬ ((i : Int) < 0 ∨ (S.firm.length : Int) ≤ (i : Int)) := by omega
  have hno : noWrite S.firm S.fuel S.off (i : Int) = none := by
    unfold noWrite
    rw [h.on, h.fuel, if_neg (by simp), if_neg hi2, if_neg (by omega)]
  have e : writeOf S (i : Int) p = ({ S with ats := S.ats ++ [(i : Int)], what := S.what ++ [p] }, 0) := by
    unfold writeOf
    rw [hno]
    simp only [h.fuel, stepS]
    have h1 := h.fuel; have h2 := h.on
    cases S
    simp_all
  exact ⟨e, by rw [e]; exact ⟨h.on, h.fuel⟩⟩
theorem imgB_write {S : St} (hG : Good S) {i : Nat} (p : List UInt8) : imgB { S with ats := S.ats ++ [(i : Int)], what := S.what ++ [p.map cu8] } = (imgB S).set i p := by
  have : ∀ (xs : List Int) (ys firm : List (List Value)), ys.length = xs.length → flushS firm (xs ++ [(i : Int)]) (ys ++ [p.map cu8]) = (flushS firm xs ys).set i (p.map cu8) := by
    intro xs
    induction xs with
    | nil => intro ys firm h; cases ys with
      | nil => simp [flushS]
      | cons => simp at h
    | cons a xs ih => intro ys firm h; cases ys with
      | nil => simp at h
      | cons q ys => simp only [List.cons_append, flushS]; exact ih ys _ (by simpa using h)
  unfold imgB St.newest
  show (flushS S.firm (S.ats ++ [(i : Int)]) (S.what ++ [p.map cu8])).map bytesOf = _
  rw [this _ _ _ hG.same, List.map_set, bytesOf_cu8]
/-- All sectors are written. -/
theorem writes_lit {first n : Nat} (hn : 0 < n) : ∀ (ps : List (List UInt8)) (S : St) (pl : Nat), Lit S → Good S → first + n ≤ S.firm.length →
    (writesOf first n S pl ps).2 = 0 ∧ Lit (writesOf first n S pl ps).1 ∧ imgB (writesOf first n S pl ps).1 = putAll first n (imgB S) pl ps ∧
    (writesOf first n S pl ps).1.ats = S.ats ++ (List.range ps.length).map fun i => ((first + (pl + i) % n : Nat) : Int)
  | [], S, pl, h, _, _ => ⟨rfl, h, rfl, by simp [writesOf]⟩
  | p :: ps, S, pl, h, hG, hin => by
    have hm := Nat.mod_lt pl hn
    obtain ⟨e, hl⟩ := h.write (i := first + pl % n) (by omega) (p.map cu8)
    have hG' := good_write hG ((first + pl % n : Nat) : Int) (p.map cu8)
    rw [e] at hl hG'
    unfold writesOf
    rw [e, if_pos rfl]
    obtain ⟨h1, h2, h3, h4⟩ := writes_lit hn ps _ (pl + 1) hl hG' (by exact hin)
    refine ⟨h1, h2, ?_, ?_⟩
    · rw [h3, imgB_write hG]; rfl
    · rw [h4, List.length_cons, List.range_succ_eq_map, List.map_cons, List.map_map, List.append_assoc]
      congr 1
      show _ :: _ = _
      rw [Nat.add_zero]
      congr 1
      apply List.map_congr_left
      intro i _
      show _ = ((first + (pl + (i + 1)) % n : Nat) : Int)
      rw [show pl + 1 + i = pl + (i + 1) from by omega]
end Go.Proofs.YtegdlpllljccgaaDoor
