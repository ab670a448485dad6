/-
  num, of the other laws.
-/
import Derived.Test.YtopjhgpgompenaaGreatDoorJDisk
set_option linter.unusedSimpArgs false
set_option linter.unusedVariables false
namespace Go.Proofs.YtopjhgpgompenaaGreatDoor
open Go.RowKit Go.Extern.Stop Go.Stop Go.Extern
/-- num. -/
theorem num_any08 (n : Int) (v : Value) (w : World) (hL : Laid w) (hE : ErrV w n v) :
    Calls Tryz.prog 41 #[v] w fun e w' => e = .returned (.int .i64 n) ∧ Below w.heap.size w w' := by
  rcases hE with ⟨rfl, rfl⟩ | ⟨h0, ss, hC⟩
  · go_enter Tryz.func41, Tryz.ntmps41
    go_wp2
    go_ret
    exact ⟨rfl, Below.refl _ _⟩
  · obtain ⟨tv, xv, rfl⟩ := hC.iface
    have hnn := hC.notNil
    have hng := hC.guard
    have hb1 := (Below.refl w.heap.size w).alloc (Nat.le_refl _) (.cells #[.int .i64 0] 108)
    go_enter Tryz.func41, Tryz.ntmps41
    go_wp2_with (go_at_call 59; refine (as_number n ss _ (.int .i64 0) ⟨w.heap.size, 0, none⟩ _ (hL.below hL.pos hb1) ((hC.below hb1).mono hb1.size) (by simp) (by simp)).mono ?_; rintro e w1 ⟨rfl, hS⟩; have hr := hS.cell)
    go_ret
    exact ⟨rfl, hb1.trans (hS.below (by simp) (by simp))⟩
end Go.Proofs.YtopjhgpgompenaaGreatDoor
