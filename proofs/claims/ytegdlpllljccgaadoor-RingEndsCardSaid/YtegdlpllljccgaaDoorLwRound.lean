/-
  'RingRounds': what holds before each round: the records since the last cut are what is found.
-/
import Derived.Test.YtegdlpllljccgaaDoorLwOne
set_option linter.unusedSimpArgs false
set_option linter.unusedVariables false
namespace Go.Proofs.YtegdlpllljccgaaDoor
open Go.RowKit Sh Go.Extern.Stop Go.Stop Go.Extern

theorem putAll_mem (first n : Nat) : ∀ (ps : List (List UInt8)) (img : List (List UInt8)) (pl : Nat), ∀ p ∈ putAll first n img pl ps, p ∈ img ∨ p ∈ ps
  | [], _, _, _, h => .inl h
  | q :: ps, img, pl, p, h => by
    rw [putAll] at h
    rcases putAll_mem first n ps _ _ p h with h | h
    · rcases List.mem_or_eq_of_mem_set h with h | h
      · exact .inl h
      · exact .inr (by rw [h]; simp)
    · exact .inr (List.mem_cons_of_mem _ h)
/-- Before a round, B records having been added. -/
structure Rnd (B : Nat) (S : St) (m0 : Mk) (rs : List (List Chg)) : Prop where
  lit : Lit S
  good : Good S
  byt : Byt S
  firm : S.firm.length = 100
  ats : S.ats.length ≤ 65 * B
  last : m0.last.length = 32
  place : m0.place < 100
  num : m0.num + rs.length = 7 + B
  laid : LaidR 100 (pgOf (imgB S) 0 100) m0 rs
  fit : ∀ l ∈ rs, Fit l
  room : takesAll rs ≤ 100
  old : ∀ p ∈ imgB S, Old (7 + B) p
theorem lastOf_last {n : Nat} : ∀ (a : List (List Chg)) {m : Mk}, m.last.length = 32 → (lastOf n m a).last.length = 32
  | [], _, h => h
  | l :: a, m, _ => lastOf_last a (by show (dig _).length = 32; exact dig_len _)
theorem lastOf_place_lt {n : Nat} (hn : 0 < n) : ∀ (a : List (List Chg)) {m : Mk}, m.place < n → (lastOf n m a).place < n
  | [], _, h => h
  | l :: a, m, _ => lastOf_place_lt hn a (Nat.mod_lt _ hn)
def m07 : Mk := ⟨0, 7, List.replicate 32 0⟩
theorem Rnd.new : Rnd 0 (newS 100) m07 [] where
  lit := lit_new 100
  good := good_new 100 (by omega) (by omega)
  byt := byt_new 100
  firm := newS_len 100
  ats := by rw [newS_ats]; omega
  last := by decide
  place := by decide
  num := rfl
  laid := trivial
  fit := fun l h => by simp at h
  room := by simp [takesAll]
  old := fun p hp => by rw [imgB_new] at hp; rw [(List.mem_replicate.1 hp).2]; exact old_zero _
section
variable {B : Nat} {S : St} {m0 : Mk} {rs : List (List Chg)}
theorem Rnd.headNum (h : Rnd B S m0 rs) (hB : B ≤ 200) : (lastOf 100 m0 rs).num = 7 + B := by
  rw [lastOf_num 100 rs m0 (by have := h.num; omega)]; exact h.num
theorem Rnd.ring (h : Rnd B S m0 rs) (hB : B ≤ 200) : RingOk 0 100 (lastOf 100 m0 rs) (takesAll rs) :=
  ⟨by omega, by omega, by omega, lastOf_place_lt (by omega) rs h.place, by rw [h.headNum hB]; omega, h.room⟩
/-- What Open finds. -/
theorem Rnd.found (h : Rnd B S m0 rs) (hB : B ≤ 200) : openAll 100 (pgOf (imgB S) 0 100) 100 100 m0 = (rs, lastOf 100 m0 rs, 100 - takesAll rs) := by
  refine open_laid (pgOf_mod_add _ _ _) h.laid h.fit h.room (old_begins ?_ (by rw [h.headNum hB]; omega))
  rw [h.headNum hB]
  have hp := lastOf_place_lt (n := 100) (by omega) rs h.place
  have hl : (imgB S).length = 100 := by rw [imgB_length, h.firm]
  unfold pgOf
  rw [List.getD_eq_getElem?_getD, List.getElem?_eq_getElem (by omega)]
  exact h.old _ (List.getElem_mem _)
/-- A cut. -/
theorem Rnd.cut (h : Rnd B S m0 rs) (hB : B ≤ 200) (d : List UInt8) (hd : d.length = 32) : Rnd B S ⟨(lastOf 100 m0 rs).place, (lastOf 100 m0 rs).num, d⟩ [] :=
  ⟨h.lit, h.good, h.byt, h.firm, h.ats, hd, lastOf_place_lt (by omega) rs h.place, by show (lastOf 100 m0 rs).num + 0 = _; rw [h.headNum hB]; rfl, trivial, fun l hl => by simp at hl, by simp [takesAll], h.old⟩
/-- A record more. -/
theorem Rnd.add (h : Rnd B S m0 rs) (hB : B ≤ 200) {n x : Nat} (h1 : 1 ≤ n) (h2 : n ≤ 60) (hx : x < 16777216) (ht : takesAll rs + takes n ≤ 100) :
    (writesOf 0 100 S (lastOf 100 m0 rs).place (sectors (lastOf 100 m0 rs) (chgs n x))).2 = 0 ∧ Rnd (B + 1) (writesOf 0 100 S (lastOf 100 m0 rs).place (sectors (lastOf 100 m0 rs) (chgs n x))).1 m0 (rs ++ [chgs n x]) := by
  have hin : 0 + 100 ≤ S.firm.length := by rw [h.firm]; omega
  obtain ⟨e1, e2, e3, _⟩ := writes_lit (first := 0) (n := 100) (by omega) (sectors (lastOf 100 m0 rs) (chgs n x)) S (lastOf 100 m0 rs).place h.lit h.good hin
  have hf := chgs_fit n x h1 h2 hx
  have htt : takesAll (rs ++ [chgs n x]) ≤ 100 := by rw [takesAll_append, takesAll_cons, chgs_length]; simpa [takesAll] using ht
  have hi : 0 + 100 ≤ (imgB S).length := by rw [imgB_length, h.firm]; omega
  refine ⟨e1, ⟨e2, writesOf_good _ _ _ _ _ h.good, writesOf_byt _ _ _ _ _ (fun p hp => ?_) h.byt, by rw [writesOf_firm]; exact h.firm, ?_, h.last, h.place, ?_, ?_, fun l hl => ?_, htt, fun p hp => ?_⟩⟩
  · rcases List.mem_cons.1 hp with rfl | hp
    · simp [firstOf, head10_length, dig_len]
    · exact body_pages hf p hp
  · have hc := writesOf_count 0 100 (sectors (lastOf 100 m0 rs) (chgs n x)) S (lastOf 100 m0 rs).place
    rw [sectors_length, chgs_length] at hc
    have ha := h.ats
    have : takes n ≤ 65 := by unfold takes; omega
    omega
  · rw [List.length_append, List.length_singleton]; have := h.num; omega
  · rw [e3]; exact laid_add (by omega) hi h.laid htt
  · rcases List.mem_append.1 hl with hl | hl
    · exact h.fit l hl
    · rw [List.mem_singleton.1 hl]; exact hf
  · rw [e3] at hp
    have hnum := h.headNum hB
    rcases putAll_mem _ _ _ _ _ p hp with hp | hp
    · exact (h.old p hp).mono (by omega)
    · exact old_sectors (by rw [hnum]; omega) (by rw [hnum]; omega) hx h2 p hp
end
end Go.Proofs.YtegdlpllljccgaaDoor
