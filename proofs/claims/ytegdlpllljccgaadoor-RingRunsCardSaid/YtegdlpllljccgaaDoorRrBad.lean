/-
  The reference's Open, where it is refused.
-/
import Derived.Test.YtegdlpllljccgaaDoorRrOpen
set_option linter.unusedSimpArgs false
set_option linter.unusedVariables false
namespace Go.Proofs.YtegdlpllljccgaaDoor
open Go.RowKit Sh Go.Extern.Stop Go.Stop Go.Extern

def RBadP (w : World) (e : Ending) (w' : World) : Prop := e = .returned (.tuple #[.pointer none, .slice none 0 0, .int .i64 1]) ∧ Below w.heap.size w w'
section
variable {gd : Nat} {S : St} {F : Nat → Prop} {w : World}
set_option maxRecDepth 100000 in
set_option maxHeartbeats 8000000 in
theorem ropen_bad (hD : RD S F gd w) (hG : Good S) (first n pl : Int) (num : Nat) (last : List UInt8) (hfi : 0 ≤ first ∧ first ≤ 9223372036854775807)
    (hbad : n < 96 ∨ 4096 < n ∨ (S.firm.length : Int) - n < first ∨ pl < 0 ∨ n ≤ pl) :
    Calls Tryd.prog 15 #[.pointer (some ⟨gd, 0, none⟩), .int .i64 first, .int .i64 n, .agg (markI pl num last).toArray] w (RBadP w) := by
  have hle := hG.le
  obtain ⟨D, hDl⟩ : ∃ D, S.firm.length = D := ⟨_, rfl⟩
  rw [hDl] at hbad hle
  obtain ⟨mv, Hmv⟩ : ∃ mv : List Value, Hid (mv = markI pl num last) := ⟨_, rfl⟩
  rw [← Hmv.out]
  have hbA : Below w.heap.size w (w.alloc (.cells mv.toArray 46)) := (Below.refl _ _).alloc (Nat.le_refl _) _
  have hxA : (w.alloc (.cells mv.toArray 46)).heap[w.heap.size]? = some (.cells mv.toArray 46 (0, 0)) := heap_alloc_new w _
  have hDA := hD.below hbA
  obtain ⟨fp, fc, cF⟩ := rfirm_len hDA
  rw [hDl] at cF
  clear hD hDA hDl
  go_enter Tryd.func15, Tryd.ntmps15
  go_upto_region 1 with (fail)
  generalize w.alloc (.cells mv.toArray 46) = wa at hbA hxA cF ⊢
  obtain ⟨x, hx⟩ : ∃ x, w.heap.size = x := ⟨_, rfl⟩
  rw [hx] at hxA ⊢
  have cpl : wa.cell? ⟨x, 0, none⟩ = some (.int .i64 pl) := by rw [cell_of_row wa x _ _ _ _ hxA, Hmv.out]; rfl
  have Hx := Lib.hid hx
  clear hx hxA
  have g1 : ¬ first < 0 := by omega
  by_cases h2 : n < 96
  case' neg =>
    by_cases h3 : 4096 < n
    case' neg =>
      obtain ⟨dn, hdn⟩ : ∃ dn, (D : Int) - n = dn := ⟨_, rfl⟩
      have wS : IntKind.i64.wrap ((D : Int) - n) = dn := by rw [IntWalk.i64_in _ (by omega)]; exact hdn
      have wSb : IntKind.i64.wrap dn = dn := IntWalk.i64_in _ (by omega)
      by_cases h4 : dn < first
      case' neg =>
        by_cases h5 : pl < 0
        case' neg =>
          have h6 : n ≤ pl := by omega
  all_goals
    go_wp2
    first | go_ret2 | (refine bodyPost_ret (v := .tuple #[.pointer none, .slice none 0 0, .int .i64 1]) (by simp [results, Tryd.results15, go_sem]) rfl ?_)
    exact ⟨rfl, hbA⟩
end
end Go.Proofs.YtegdlpllljccgaaDoor
