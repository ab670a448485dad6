/-
  What In makes of an Errno: a chain in memory; In, Unwrap, errors.Unwrap by their contracts.
-/
import Derived.Test.YtbmpbcnoclhhgaaDoorDiskFacts
import Derived.Below
namespace Go.Proofs.YtbmpbcnoclhhgaaDoor
open Go.RowKit Go.Extern.Stop Go.Stop Go.Extern

/-- v is the error that was made of the Errno n in the places ss, the outermost first; all of it lies below block N. -/
def Chain (N : Nat) (w : World) (n : Int) : List ByteArray → Value → Prop
  | [], v => v = .iface 61 (.int .i64 n)
  | s :: r, v => ∃ (b : Nat) (x : Value), v = .iface 77 (.pointer (some ⟨b, 0, none⟩)) ∧ b < N ∧ w.cell? ⟨b, 0, none⟩ = some (.string s) ∧ w.cell? ⟨b, 1, none⟩ = some x ∧ Chain N w n r x

theorem Chain.below {N : Nat} {w w' : World} {n : Int} (hb : Below N w w') : ∀ {ss : List ByteArray} {v : Value}, Chain N w n ss v → Chain N w' n ss v
  | [], _, h => h
  | _ :: _, _, ⟨b, x, hv, hlt, h0, h1, hr⟩ => ⟨b, x, hv, hlt, by rw [hb.cell (p := ⟨b, 0, none⟩) hlt]; exact h0, by rw [hb.cell (p := ⟨b, 1, none⟩) hlt]; exact h1, Chain.below hb hr⟩
theorem Chain.mono {N N' : Nat} {w : World} {n : Int} (hN : N ≤ N') : ∀ {ss : List ByteArray} {v : Value}, Chain N w n ss v → Chain N' w n ss v
  | [], _, h => h
  | _ :: _, _, ⟨b, x, hv, hlt, h0, h1, hr⟩ => ⟨b, x, hv, by omega, h0, h1, Chain.mono hN hr⟩
/-- An error is one or the other. -/
theorem Chain.kind {N : Nat} {w : World} {n : Int} {ss : List ByteArray} {v : Value} (h : Chain N w n ss v) : (∃ a, v = .iface 61 (.int .i64 a)) ∨ ∃ b, v = .iface 77 (.pointer (some ⟨b, 0, none⟩)) := by
  cases ss with
  | nil => exact .inl ⟨n, h⟩
  | cons s r => obtain ⟨b, x, hv, _⟩ := h; exact .inr ⟨b, hv⟩

theorem Tryd.methodsError : Tryd.prog.underlying 26 = some (.interface (Tryd.prog.methodsAt 26)) := by kernel_rfl

theorem in_nil (s : ByteArray) (w : World) : Calls Tryd.prog 23 #[.string s, .nilIface] w fun e w' => e = .returned .nilIface ∧ w' = w := by
  go_enter Tryd.func23, Tryd.ntmps23
  go_wp2
  go_ret
  exact ⟨rfl, rfl⟩

/-- What was made, once more. -/
def MorePost (N : Nat) (n : Int) (ss : List ByteArray) (w : World) (e : Ending) (w' : World) : Prop := ∃ v, e = .returned v ∧ Chain w'.heap.size w' n ss v ∧ Below N w w'

theorem in_held (s : ByteArray) (t : TypeId) (x : Value) (w : World) : Calls Tryd.prog 23 #[.string s, .iface t x] w fun e w' => e = .returned (.iface 77 (.pointer (some ⟨w.heap.size, 0, none⟩))) ∧ w' = w.alloc (.cells #[.string s, .iface t x] 79) := by
  have hq : ∀ w : World, (binOp .eql 26 (.iface t x) .nilIface).run Tryd.prog w = .ok (.bool false) w := fun w => run_eql_held_nil w 26 t x Tryd.methodsError
  go_enter Tryd.func23, Tryd.ntmps23
  go_wp2
  go_ret
  exact ⟨rfl, rfl⟩

theorem in_chain (s : ByteArray) (n : Int) (ss : List ByteArray) (v : Value) (w : World) (h : Chain w.heap.size w n ss v) : Calls Tryd.prog 23 #[.string s, v] w (MorePost w.heap.size n (s :: ss) w) := by
  have key : ∀ (t : TypeId) (x : Value), v = .iface t x → Calls Tryd.prog 23 #[.string s, v] w (MorePost w.heap.size n (s :: ss) w) := fun t x hv => by
    subst hv
    refine (in_held s t x w).mono ?_
    rintro e w' ⟨rfl, rfl⟩
    have hb : Below w.heap.size w (w.alloc (.cells #[.string s, .iface t x] 79)) := (Below.refl _ w).alloc (Nat.le_refl _) _
    exact ⟨_, rfl, ⟨w.heap.size, _, rfl, by simp, by simp, by simp, (h.below hb).mono hb.size⟩, hb⟩
  rcases h.kind with ⟨a, ha⟩ | ⟨b, hb⟩
  · exact key _ _ ha
  · exact key _ _ hb

/-- (*Woe).Unwrap of what In made. -/
theorem unwrap_at (b : Nat) (x : Value) (w : World) (h1 : w.cell? ⟨b, 1, none⟩ = some x) : Calls Tryd.prog 61 #[.pointer (some ⟨b, 0, none⟩)] w fun e w' => e = .returned x ∧ w' = w := by
  go_enter Tryd.func61, Tryd.ntmps61
  go_wp2
  go_ret
  exact ⟨rfl, rfl⟩
theorem unwrap_nil (w : World) : Calls Tryd.prog 61 #[.pointer none] w fun e w' => e = .returned .nilIface ∧ w' = w := by
  go_enter Tryd.func61, Tryd.ntmps61
  go_wp2
  go_ret
  exact ⟨rfl, rfl⟩

end Go.Proofs.YtbmpbcnoclhhgaaDoor
