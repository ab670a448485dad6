/-
  Images of new, flushed, crashed disks; what is found on them.
-/
import Derived.Test.YtegdlpllljccgaaDoorLwSame
set_option linter.unusedSimpArgs false
set_option linter.unusedVariables false
namespace Go.Proofs.YtegdlpllljccgaaDoor
open Go.RowKit Sh

theorem imgB_new (D : Nat) : imgB (newS D) = List.replicate D z64 := by
  unfold imgB St.newest newS
  show (flushS (List.replicate D zeroPage) [] []).map bytesOf = _
  have : flushS (List.replicate D zeroPage) [] [] = List.replicate D zeroPage := rfl
  rw [this, List.map_replicate]
  have e : bytesOf zeroPage = z64 := by
    have h : zeroPage = z64.map cu8 := by unfold z64; rw [List.map_replicate]; rfl
    rw [h, bytesOf_cu8]
  rw [e]
theorem clean_new {D first n : Nat} (m : Mk) (h : first + n ≤ D) (hn : 0 < n) : Clean n (pgOf (imgB (newS D)) first n) m [] := fun d _ _ => by
  have := Nat.mod_lt (m.place + d) hn
  rw [imgB_new]
  unfold pgOf
  rw [List.getD_eq_getElem?_getD, List.getElem?_replicate, if_pos (by omega)]
  rfl
theorem open_laid {n : Nat} {pg : Nat → List UInt8} (hp : ∀ i d, pg (i % n + d) = pg (i + d)) {m : Mk} {a : List (List Chg)} (h : LaidR n pg m a) (hf : ∀ l ∈ a, Fit l) (ht : takesAll a ≤ n) (he : ¬ begins pg (n - takesAll a) (lastOf n m a)) :
    openAll n pg n n m = (a, lastOf n m a, n - takesAll a) := by
  rw [openAll_laid h hf ht (Nat.le_refl _), openAll_stop (fun hh => he hh.1)]
  simp
theorem open_new {D first n : Nat} (m : Mk) (h : first + n ≤ D) (hn : 0 < n) : openAll n (pgOf (imgB (newS D)) first n) n n m = ([], m, n) := by
  have hc := clean_new m h hn
  have := open_laid (n := n) (pg := pgOf (imgB (newS D)) first n) (pgOf_mod_add _ _ _) (m := m) (a := []) trivial (fun l h => by simp at h) (by simp [takesAll]) (clean_ends (pgOf_mod_add _ _ _) hc (by simp [takesAll]))
  simpa [takesAll, lastOf] using this
theorem flush_lit {S : St} (h : Lit S) : (flushOf S).2 = 0 ∧ Lit (flushOf S).1 ∧ imgB (flushOf S).1 = imgB S ∧ (flushOf S).1.ats = [] := by
  have hno : ¬ (S.off = true ∨ S.fuel = 0) := by rw [h.on, h.fuel]; simp
  unfold flushOf
  rw [if_neg hno]
  refine ⟨rfl, ⟨rfl, ?_⟩, rfl, rfl⟩
  show (stepS S.fuel false).1 = -1
  rw [h.fuel]; rfl
theorem crash_flushed {S : St} (h : S.ats = []) (pick : List Int) : imgB (crashOf S pick) = imgB S ∧ Lit (crashOf S pick) := by
  refine ⟨?_, rfl, rfl⟩
  unfold imgB St.newest crashOf
  rw [h]
  show (flushS (crashS 0 S.firm [] S.what pick) [] []).map bytesOf = (flushS S.firm [] S.what).map bytesOf
  cases S.what <;> simp [crashS, flushS]
theorem crash_lit (S : St) (pick : List Int) : Lit (crashOf S pick) := ⟨rfl, rfl⟩
def m00 : Mk := ⟨0, 0, List.replicate 32 0⟩
theorem zMark_m00 : zMark = markCells m00 := rfl
theorem fit_found {n : Nat} {pg : Nat → List UInt8} (hp : ∀ i, (pg i).length = 64) : ∀ (f free : Nat) (m : Mk), ∀ l ∈ (openAll n pg f free m).1, (∀ c ∈ l, c.what.length = 64) ∧ l.length ≤ 60
  | 0, _, _, l, h => by simp [openAll] at h
  | f + 1, free, m, l, h => by
    unfold openAll at h
    split at h
    · rename_i hh
      rcases List.mem_cons.1 h with rfl | h
      · refine ⟨decode_what (fun p hq => by obtain ⟨i, _, rfl⟩ := List.mem_map.1 hq; exact hp _) (by simp [rest, takes]; omega), ?_⟩
        unfold found decode
        rw [List.length_map, List.length_range]
        exact hh.1.2.2.1
      · exact fit_found hp f _ _ l h
    · simp at h
theorem recsV_found {w : World} {B C n : Nat} {pg : Nat → List UInt8} (hp : ∀ i, (pg i).length = 64) {ap : Option Addr} {cp : Nat} {vs : List Value} {m : Mk} {f free : Nat}
    (ho : w.ownsRow B 50 1 (.slice ap (openAll n pg f free m).1.length cp) (openAll n pg f free m).1.length vs) (hr : RecsOk C w vs (openAll n pg f free m).1) : RecsV w.heap.size w ap (openAll n pg f free m).1 :=
  recsV_of (fun l hl => (fit_found hp f free m l hl).1) (fun l hl => by have := (fit_found hp f free m l hl).2; omega) ho hr
/-- What Open answers, as the laws use it. -/
def OpenV (gd first n : Nat) (a : List (List Chg)) (m : Mk) (used : Nat) (w : World) (e : Ending) (w' : World) : Prop :=
  ∃ g ap cp, e = .returned (.tuple #[.pointer (some ⟨g, 0, none⟩), .slice ap a.length cp, .nilIface]) ∧ w.heap.size ≤ g ∧ PrAt g gd first n m used w' ∧ RingOk first n m used ∧ RecsV w'.heap.size w' ap a ∧ Below w.heap.size w w'
theorem openv_any {gd first n : Nat} {m : Mk} {S : St} {F : Nat → Prop} {w : World} (hD : PD S F gd w) (hG : Good S) (hB : Byt S) (ho : S.off = false) (hin : first + n ≤ S.firm.length) (hn0 : 96 ≤ n) (hn1 : n ≤ 4096) (hpl : m.place < n) (hnum : m.num < 18446744073709551616) (hlast : m.last.length = 32)
    {a : List (List Chg)} {m2 : Mk} {free used : Nat} (hop : openAll n (pgOf (imgB S) first n) n n m = (a, m2, free)) (hu : n - used = free) (hu2 : used ≤ n) :
    Calls Tryd.prog 14 #[.pointer (some ⟨gd, 0, none⟩), .int .i64 first, .int .i64 n, .agg (markCells m).toArray] w (OpenV gd first n a m2 used w) := by
  refine (open_any hD hG hB ho hin hn0 hn1 hpl hnum hlast).mono ?_
  rintro e w' ⟨g, v, vs, used', rfl, hg, hring, hok, hfr, hown, hrecs, hbel⟩
  obtain ⟨ap, cp, rfl⟩ := row_form hown
  have hrv := recsV_found (fun i => pg_len hB hin (by omega) i) hown hrecs
  rw [hop] at hring hok hfr hrv
  have hfr2 : n - used' = free := hfr
  have hu3 := hok.used
  obtain rfl : used' = used := by omega
  have hlen : (openAll n (pgOf (imgB S) first n) n n m).1.length = a.length := by rw [hop]
  exact ⟨g, ap, cp, by rw [hlen], hg, hring, hok, hrv, hbel⟩
end Go.Proofs.YtegdlpllljccgaaDoor
