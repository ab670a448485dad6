/-
  Errors of the disk, and num: what a law's num answers of them.
-/
import Derived.Test.YtbmpbcnoclhhgaaDoorDiskAs
import Derived.Test.YtbmpbcnoclhhgaaDoorDiskNew
namespace Go.Proofs.YtbmpbcnoclhhgaaDoor
open Go.RowKit Go.Extern.Stop Go.Stop Go.Extern

theorem Chain.iface {N : Nat} {w : World} {n : Int} {ss : List ByteArray} {v : Value} (h : Chain N w n ss v) : ∃ t x, v = .iface t x := by
  rcases h.kind with ⟨a, rfl⟩ | ⟨b, rfl⟩
  · exact ⟨_, _, rfl⟩
  · exact ⟨_, _, rfl⟩
theorem in_more (s : ByteArray) (n : Int) (ss : List ByteArray) (v : Value) (w : World) (h : Chain w.heap.size w n ss v) :
    Calls Tryd.prog 23 #[.string s, v] w fun e w' => e = .returned (.iface 77 (.pointer (some ⟨w.heap.size, 0, none⟩))) ∧ Chain w'.heap.size w' n (s :: ss) (.iface 77 (.pointer (some ⟨w.heap.size, 0, none⟩))) ∧ Below w.heap.size w w' := by
  obtain ⟨t, x, rfl⟩ := h.iface
  refine (in_held s t x w).mono ?_
  rintro e w' ⟨rfl, rfl⟩
  have hb : Below w.heap.size w (w.alloc (.cells #[.string s, .iface t x] 79)) := (Below.refl _ w).alloc (Nat.le_refl _) _
  exact ⟨rfl, ⟨w.heap.size, _, rfl, by simp, by simp, by simp, (h.below hb).mono hb.size⟩, hb⟩

/-- v is an error of number n, or none (0). -/
def ErrV (w : World) (n : Int) (v : Value) : Prop := (n = 0 ∧ v = .nilIface) ∨ (n ≠ 0 ∧ ∃ ss, Chain w.heap.size w n ss v)
theorem ErrV.below {w w' : World} {n : Int} {v : Value} (h : ErrV w n v) (hb : Below w.heap.size w w') : ErrV w' n v :=
  h.imp id (fun ⟨h0, ss, hC⟩ => ⟨h0, ss, (hC.below hb).mono hb.size⟩)
theorem ErrV.nil {w : World} : ErrV w 0 .nilIface := .inl ⟨rfl, rfl⟩
/-- An error is nil just if its number is 0: what '==' and '!=' with nil answer. -/
theorem ErrV.eqNil {w : World} {n : Int} {v : Value} (h : ErrV w n v) (W : World) : (binOp .eql 26 v .nilIface).run Tryd.prog W = .ok (.bool (decide (n = 0))) W := by
  rcases h with ⟨rfl, rfl⟩ | ⟨h0, ss, hC⟩
  · kernel_rfl
  · rw [decide_eq_false h0]; exact hC.notNil W
theorem ErrV.neqNil {w : World} {n : Int} {v : Value} (h : ErrV w n v) (W : World) : (binOp .neq 26 v .nilIface).run Tryd.prog W = .ok (.bool (!decide (n = 0))) W := by
  rcases h with ⟨rfl, rfl⟩ | ⟨h0, ss, hC⟩
  · kernel_rfl
  · obtain ⟨t, x, rfl⟩ := hC.iface
    rw [decide_eq_false h0]; exact run_neq_held_nil W 26 t x Tryd.methodsError
/-- num. -/
theorem num_any (n : Int) (v : Value) (w : World) (hL : Laid w) (hE : ErrV w n v) :
    Calls Tryd.prog 12 #[v] w fun e w' => e = .returned (.int .i64 n) ∧ Below w.heap.size w w' := by
  rcases hE with ⟨rfl, rfl⟩ | ⟨h0, ss, hC⟩
  · go_enter Tryd.func12, Tryd.ntmps12
    go_wp2
    go_ret
    exact ⟨rfl, Below.refl _ _⟩
  · obtain ⟨tv, xv, rfl⟩ := hC.iface
    have hnn := hC.notNil
    have hng := hC.guard
    have hb1 := (Below.refl w.heap.size w).alloc (Nat.le_refl _) (.cells #[.int .i64 0] 61)
    go_enter Tryd.func12, Tryd.ntmps12
    go_wp2_with (go_at_call 25; refine (as_number n ss _ (.int .i64 0) ⟨w.heap.size, 0, none⟩ _ (hL.below hL.pos hb1) ((hC.below hb1).mono hb1.size) (by simp) (by simp)).mono ?_; rintro e w1 ⟨rfl, hS⟩; have hr := hS.cell)
    go_ret
    exact ⟨rfl, hb1.trans (hS.below (by simp) (by simp))⟩
end Go.Proofs.YtbmpbcnoclhhgaaDoor
