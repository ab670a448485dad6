/-
  errors.is and errors.Is over a chain, at an Errno.
-/
import Derived.Test.YtbkbhmgmlcmanaaDoorWoeChain
import Derived.Deep.LoopGhost
import Derived.Lib.Hide
namespace Go.Proofs.YtbkbhmgmlcmanaaDoor
open Go.RowKit Go.Extern.Stop Go.Stop Go.Extern

theorem Chain.notNil' {N : Nat} {w : World} {n : Int} {ss : List ByteArray} {v : Value} (h : Chain N w n ss v) (W : World) : (binOp .eql 27 v .nilIface).run Tryd.prog W = .ok (.bool false) W := by
  rcases h.kind with ⟨a, rfl⟩ | ⟨b, rfl⟩
  · exact run_eql_held_nil W 27 _ _ Tryd.methodsError
  · exact run_eql_held_nil W 27 _ _ Tryd.methodsError
theorem Chain.guard' {N : Nat} {w : World} {n : Int} {ss : List ByteArray} {v : Value} (h : Chain N w n ss v) (o1 o2 : Operand) : eqGuard .eql 27 o1 o2 v .nilIface = pure () := by
  rcases h.kind with ⟨a, rfl⟩ | ⟨b, rfl⟩ <;> rfl

set_option maxRecDepth 100000 in
set_option maxHeartbeats 4000000 in
theorem eis_number (n m : Int) (ss : List ByteArray) (v : Value) (w : World) (hC : Chain w.heap.size w n ss v) :
    Calls Tryd.prog 29 #[v, .iface 22 (.int .i64 m), .bool true] w fun e w' => e = .returned (.bool (n == m)) ∧ w' = w := by
  have iE := Tryd.noIsE
  have iP := Tryd.noIsP
  have uP := Tryd.hasUnwrapP
  have uE := Tryd.noUnwrapE
  have uuE := Tryd.noUnwrapsE
  have mU := Tryd.methodUnwrap
  have qE := Tryd.eqlEE
  have qP := Tryd.eqlPE
  go_enter Tryd.func29, Tryd.ntmps29
  go_wp2
  go_loopg [0] ss.length (fun g v wr => ∃ rs : List ByteArray, g = rs.length ∧ wr = w ∧ Chain w.heap.size w n rs v)
  case atStart => exact ⟨ss, rfl, rfl, hC⟩
  case round =>
    clear hC
    obtain ⟨rs, rfl, rfl, hC⟩ := hrel
    cases rs with
    | nil =>
      obtain rfl := hC
      by_cases hnm : n = m
      · subst hnm
        have hq := qE n n
        simp only [beq_self_eq_true] at hq
        clear qE
        go_wp2
        go_ret
        exact ⟨by simp, rfl⟩
      · have hq := qE n m
        have hf : (n == m) = false := by simpa using hnm
        rw [hf] at hq
        clear qE
        go_wp2
        go_ret
        exact ⟨by simp [hf], rfl⟩
    | cons s r =>
      obtain ⟨b, x, rfl, hlt, hc0, hc1, hC⟩ := hC
      have hnn := hC.notNil'
      have hng := hC.guard'
      go_wp2_with (go_at_call 18; refine (unwrap_at b x _ hc1).mono ?_; rintro e w' ⟨rfl, rfl⟩)
      go_roundg (r.length)
      case measure => simp
      case rel => exact ⟨r, rfl, rfl, hC⟩

/-- errors.Is at an Errno: of what In made, its own number and no other one. -/
theorem is_number (n m : Int) (ss : List ByteArray) (v : Value) (w : World) (hC : Chain w.heap.size w n ss v) :
    Calls Tryd.prog 15 #[v, .iface 22 (.int .i64 m)] w fun e w' => e = .returned (.bool (n == m)) ∧ w' = w := by
  have h28 := @run_callFunc_extern Tryd.prog 28 _ ReflectliteType.typeOf Tryd.func28 (by kernel_rfl) (by kernel_rfl) (by kernel_rfl) (by kernel_rfl)
  have h77 : ∀ W : World, (callFunc 77 #[.agg #[.pointer (some ⟨4, 22, none⟩)]]).run Tryd.prog W = .ok (.value (.bool true)) W := fun W => by kernel_rfl
  have tE := Tryd.typeOfE
  have mC := Tryd.methodComparable
  have hnn := hC.notNil'
  have hng := hC.guard'
  have hme : ∀ W : World, (binOp .eql 27 (.iface 22 (.int .i64 m)) .nilIface).run Tryd.prog W = .ok (.bool false) W := fun W => run_eql_held_nil W 27 _ _ Tryd.methodsError
  go_enter Tryd.func15, Tryd.ntmps15
  go_wp2_with (go_at_call 29; refine (eis_number n m ss v _ hC).mono ?_; rintro e w' ⟨rfl, rfl⟩)
  go_ret
  exact ⟨rfl, rfl⟩
theorem is_nil (m : Int) (w : World) : Calls Tryd.prog 15 #[.nilIface, .iface 22 (.int .i64 m)] w fun e w' => e = .returned (.bool false) ∧ w' = w := by
  have hn := run_eql_iface_nil_left (P := Tryd.prog) w 22 (.int .i64 m) Tryd.underlying27
  go_enter Tryd.func15, Tryd.ntmps15
  go_wp2
  go_ret
  exact ⟨rfl, rfl⟩
end Go.Proofs.YtbkbhmgmlcmanaaDoor
