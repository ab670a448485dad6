/-
  One record on a new disk.
-/
import Derived.Test.YtegdlpllljccgaaDoorLwImg
set_option linter.unusedSimpArgs false
set_option linter.unusedVariables false
namespace Go.Proofs.YtegdlpllljccgaaDoor
open Go.RowKit Sh Go.Extern.Stop Go.Stop Go.Extern

theorem newS_len (n : Nat) : (newS n).firm.length = n := List.length_replicate
theorem newS_ats (n : Nat) : (newS n).ats.length = 0 := rfl
def c9 : Chg := ⟨7, 9 :: List.replicate 63 0⟩
theorem fit_c9 : Fit [c9] := ⟨by simp, by simp, fun c hc => by rw [List.mem_singleton.1 hc]; decide, fun c hc => by rw [List.mem_singleton.1 hc]; simp [c9]⟩
theorem takes_one : takes [c9].length = 3 := rfl
theorem built_c9 : Tryd.prog.built 63 [(0, .int .u8 9)] = some (page1 9).toArray := built_one 9
theorem chgC_c9 : chgC c9 = .int .i64 (7 : Int) :: page1 9 := by simp [chgC, c9, page1]
theorem page1_ok (a : UInt8) : IsPage (page1 a) := (page1_bytes a).page
/-- What one add and a flush leave. -/
theorem one_laid {S : St} (hS : S = (writesOf 2 100 (newS 200) 0 (sectors m00 [c9])).1) (pick : List Int) :
    (writesOf 2 100 (newS 200) 0 (sectors m00 [c9])).2 = 0 ∧ Lit S ∧ (flushOf S).2 = 0 ∧ openAll 100 (pgOf (imgB (crashOf (flushOf S).1 pick)) 2 100) 100 100 m00 = ([[c9]], endM 100 m00 [c9], 97) := by
  obtain ⟨h1, h2, h3, h4⟩ := writes_lit (first := 2) (n := 100) (by omega) (sectors m00 [c9]) (newS 200) 0 (lit_new 200) (good_new 200 (by omega) (by omega)) (by rw [newS_len]; omega)
  rw [← hS] at h2 h3 h4
  obtain ⟨f1, f2, f3, f4⟩ := flush_lit h2
  obtain ⟨g1, g2⟩ := crash_flushed f4 pick
  refine ⟨h1, h2, f1, ?_⟩
  rw [g1, f3, h3]
  have hi : 2 + 100 ≤ (imgB (newS 200)).length := by rw [imgB_length, newS_len]; omega
  have ht : takesAll ([] ++ [[c9]]) ≤ 100 := by decide
  have hl := laid_add (first := 2) (n := 100) (by omega) hi (m := m00) (a := []) (l := [c9]) trivial ht
  have hc := clean_add (first := 2) (n := 100) (by omega) hi (m := m00) (a := []) (l := [c9]) (clean_new m00 (by omega) (by omega)) ht
  have hlast : lastOf 100 m00 [] = m00 := rfl
  rw [hlast, List.nil_append] at hl hc
  have := open_laid (n := 100) (pgOf_mod_add _ _ _) hl (fun l hl => by rw [List.mem_singleton.1 hl]; exact fit_c9) (by decide) (clean_ends (pgOf_mod_add _ _ _) hc (by decide))
  exact this
end Go.Proofs.YtegdlpllljccgaaDoor
