/-
  errors.as and errors.As over a chain, at the two targets: an Errno's variable and a Woe's.
-/
import Derived.Test.YtbmpbcnoclhhgaaDoorDiskChain
import Derived.Deep.LoopGhost
import Derived.Lib.Hide
namespace Go.Proofs.YtbmpbcnoclhhgaaDoor
open Go.RowKit Go.Extern.Stop Go.Stop Go.Extern

/-- The variable at t was set to x; no other block that was there has turned. -/
structure Sets (t : Addr) (x : Value) (w w' : World) : Prop where
  grown : w.grownBy w' (some t.block)
  cell : w'.cell? t = some x
  thaw : w'.frozen? t = false

theorem Sets.of_below {t : Addr} {x old : Value} {w w2 : World} (h : Below w.heap.size w w2) (hc : w2.cell? t = some old) (hf : w2.frozen? t = false) : Sets t x w (w2.setCell t x) :=
  ⟨⟨h.os, h.tape, h.output, by simpa [World.setCell] using h.size, fun k hk hne => by rw [Below.heap_setCell _ _ _ _ (fun e => hne (by rw [e]))]; exact h.block k hk⟩, World.cell?_setCell_same' _ _ _ (by simp [hc]), by simpa using hf⟩
theorem Sets.after {t : Addr} {x : Value} {w w1 w' : World} (h : Below w.heap.size w w1) (hs : Sets t x w1 w') : Sets t x w w' :=
  ⟨⟨hs.grown.os.trans h.os, hs.grown.tape.trans h.tape, hs.grown.output.trans h.output, Nat.le_trans h.size hs.grown.size, fun k hk hne => (hs.grown.block k (Nat.lt_of_lt_of_le hk h.size) hne).trans (h.block k hk)⟩, hs.cell, hs.thaw⟩
theorem Sets.below {t : Addr} {x : Value} {w w' : World} {B : Nat} (hs : Sets t x w w') (hB : B ≤ w.heap.size) (ht : B ≤ t.block) : Below B w w' :=
  ⟨hs.grown.os, hs.grown.tape, hs.grown.output, hs.grown.size, fun k hk => hs.grown.block k (by omega) (by simp; omega)⟩

/-- Where errors.errorType lies. -/
def Laid (w : World) : Prop := w.cell? ⟨0, 0, none⟩ = some (.iface 93 (.agg #[.pointer (some ⟨1, 26, none⟩)]))
theorem Laid.pos {w : World} (h : Laid w) : 0 < w.heap.size := World.block_lt_of_cell? w _ h
theorem Laid.below {N : Nat} {w w' : World} (h : Laid w) (hN : 0 < N) (hb : Below N w w') : Laid w' := (hb.cell (p := ⟨0, 0, none⟩) hN).trans h


theorem Chain.notNil {N : Nat} {w : World} {n : Int} {ss : List ByteArray} {v : Value} (h : Chain N w n ss v) (W : World) : (binOp .eql 26 v .nilIface).run Tryd.prog W = .ok (.bool false) W := by
  rcases h.kind with ⟨a, rfl⟩ | ⟨b, rfl⟩
  · exact run_eql_held_nil W 26 _ _ Tryd.methodsError
  · exact run_eql_held_nil W 26 _ _ Tryd.methodsError

theorem Chain.guard {N : Nat} {w : World} {n : Int} {ss : List ByteArray} {v : Value} (h : Chain N w n ss v) (o1 o2 : Operand) : eqGuard .eql 26 o1 o2 v .nilIface = pure () := by
  rcases h.kind with ⟨a, rfl⟩ | ⟨b, rfl⟩ <;> rfl

set_option maxRecDepth 100000 in
set_option maxHeartbeats 4000000 in
theorem eas_number (n : Int) (ss : List ByteArray) (v old : Value) (t a : Addr) (w : World) (hC : Chain w.heap.size w n ss v) (ha : w.cell? a = some (.pointer (some t))) (ht : w.cell? t = some old) (hf : w.frozen? t = false) :
    Calls Tryd.prog 37 #[v, .iface 64 (.pointer (some t)), .agg #[.pointer (some ⟨1, 64, none⟩), .pointer (some a), .int .u64 150], .iface 93 (.agg #[.pointer (some ⟨1, 61, none⟩)])] w
      fun e w' => e = .returned (.bool true) ∧ Sets t (.int .i64 n) w w' := by
  have hal := World.block_lt_of_cell? w _ ha
  have htl := World.block_lt_of_cell? w _ ht
  have h28 := @run_callFunc_extern Tryd.prog 39 _ ReflectliteType.typeOf Tryd.func39 (by kernel_rfl) (by kernel_rfl) (by kernel_rfl) (by kernel_rfl)
  have h35 := @run_callFunc_extern Tryd.prog 66 _ (ReflectliteType.relation "AssignableTo" ReflectliteType.assignableTo) Tryd.func66 (by kernel_rfl) (by kernel_rfl) (by kernel_rfl) (by kernel_rfl)
  have h36 := @run_callFunc_extern Tryd.prog 40 _ (ReflectliteValue.method (ReflectliteValue.valueError "reflectlite.Value.Elem" 0) ReflectliteValue.elem) Tryd.func40 (by kernel_rfl) (by kernel_rfl) (by kernel_rfl) (by kernel_rfl)
  have h24 := @run_callFunc_extern Tryd.prog 34 _ (fun args => ReflectliteValue.unpack (args.getD 0 (.tuple #[]))) Tryd.func34 (by kernel_rfl) (by kernel_rfl) (by kernel_rfl) (by kernel_rfl)
  have h37 := @run_callFunc_extern Tryd.prog 41 _ ReflectliteValue.set Tryd.func41 (by kernel_rfl) (by kernel_rfl) (by kernel_rfl) (by kernel_rfl)
  have tE := Tryd.typeOfE
  have tP := Tryd.typeOfP
  have mA := Tryd.methodAssignableTo
  have aE := Tryd.assignEE
  have aP := Tryd.assignPE
  have vE := Tryd.valueOfE
  have nP := Tryd.noAsP
  have uP := Tryd.hasUnwrapP
  have mU := Tryd.methodUnwrap
  obtain ⟨W1, hW1⟩ : ∃ W1, W1 = w.alloc (.cells #[.pointer (some ⟨1, 64, none⟩), .pointer (some a), .int .u64 150] 83) := ⟨_, rfl⟩
  have hb1 : Below w.heap.size w W1 := by rw [hW1]; exact (Below.refl _ w).alloc (Nat.le_refl _) _
  have hC1 := hC.below hb1
  go_enter Tryd.func37, Tryd.ntmps37
  go_wp2
  rw [← hW1]
  have HW1 := Lib.hid hW1
  clear hW1
  go_loopg [0] ss.length (fun g v wr => ∃ rs : List ByteArray, g = rs.length ∧ wr = W1 ∧ Chain w.heap.size W1 n rs v)
  case atStart => exact ⟨ss, rfl, rfl, hC1⟩
  case round =>
    clear hC hC1
    obtain ⟨rs, rfl, rfl, hC⟩ := hrel
    cases rs with
    | nil =>
      obtain rfl := hC
      obtain rfl := HW1.out
      have e1 := Tryd.elemVN a t _ (by rw [hb1.cell hal]; exact ha)
      have hb2 := hb1.alloc (by simp) (.cells #[.int .i64 n] 61)
      have ht2 := (hb2.cell htl).trans ht
      have hf2 := (hb2.frozen htl).trans hf
      have s1 := Tryd.setE t ⟨w.heap.size + 1, 0, none⟩ n old _ (by simp) ht2 hf2
      go_wp2
      go_ret
      exact ⟨rfl, Sets.of_below hb2 ht2 hf2⟩
    | cons s r =>
      obtain ⟨b, x, rfl, hlt, hc0, hc1, hC⟩ := hC
      have hnn := hC.notNil
      have hng := hC.guard
      go_wp2_with (go_at_call 61; refine (unwrap_at b x _ hc1).mono ?_; rintro e w' ⟨rfl, rfl⟩)
      go_roundg (r.length)
      case measure => simp
      case rel => exact ⟨r, rfl, rfl, hC⟩

/-- errors.As with an Errno's variable as target. -/
theorem as_number (n : Int) (ss : List ByteArray) (v old : Value) (t : Addr) (w : World) (hL : Laid w) (hC : Chain w.heap.size w n ss v) (ht : w.cell? t = some old) (hf : w.frozen? t = false) :
    Calls Tryd.prog 25 #[v, .iface 64 (.pointer (some t))] w fun e w' => e = .returned (.bool true) ∧ Sets t (.int .i64 n) w w' := by
  have htl := World.block_lt_of_cell? w _ ht
  have h24 := @run_callFunc_extern Tryd.prog 34 _ (fun args => ReflectliteValue.unpack (args.getD 0 (.tuple #[]))) Tryd.func34 (by kernel_rfl) (by kernel_rfl) (by kernel_rfl) (by kernel_rfl)
  have h25 := @run_callFunc_extern Tryd.prog 35 _ (ReflectliteValue.methodAny (ReflectliteValue.valueError "reflectlite.Value.Type" 0) (fun t _ _ _ => ReflectliteType.toType t)) Tryd.func35 (by kernel_rfl) (by kernel_rfl) (by kernel_rfl) (by kernel_rfl)
  have h26 := @run_callFunc_extern Tryd.prog 36 _ (ReflectliteValue.method (ReflectliteValue.valueError "reflectlite.Value.IsNil" 0) ReflectliteValue.isNil) Tryd.func36 (by kernel_rfl) (by kernel_rfl) (by kernel_rfl) (by kernel_rfl)
  have h68 := @run_callFunc_extern Tryd.prog 56 _ (ReflectliteType.abiMethod fun t => do pure (.int .u8 (← Rtype.kind t))) Tryd.func56 (by kernel_rfl) (by kernel_rfl) (by kernel_rfl) (by kernel_rfl)
  have h78 := @run_callFunc_extern Tryd.prog 68 _ (ReflectliteType.method ReflectliteType.elem) Tryd.func68 (by kernel_rfl) (by kernel_rfl) (by kernel_rfl) (by kernel_rfl)
  have h79 := @run_callFunc_extern Tryd.prog 69 _ (ReflectliteType.relation "Implements" ReflectliteType.implements_) Tryd.func69 (by kernel_rfl) (by kernel_rfl) (by kernel_rfl) (by kernel_rfl)
  have vN := Tryd.valueOfN
  have tN := Tryd.typeN
  have mK := Tryd.methodKind
  have mE := Tryd.methodElem
  have mI := Tryd.methodImplements
  have kN := Tryd.kindN
  have kE := Tryd.kindE
  have eN := Tryd.elemN
  have iE := Tryd.implementsE
  have hnn := hC.notNil
  have hng := hC.guard
  have hb1 := (Below.refl w.heap.size w).alloc (Nat.le_refl _) (.cells #[.pointer (some t)] 64)
  have hb2 := hb1.alloc (by simp) (.cells #[.pointer (some ⟨1, 64, none⟩), .pointer (some ⟨w.heap.size, 0, none⟩), .int .u64 150] 83)
  have n1 := Tryd.isNilN ⟨w.heap.size, 0, none⟩ t ((w.alloc (.cells #[.pointer (some t)] 64)).alloc (.cells #[.pointer (some ⟨1, 64, none⟩), .pointer (some ⟨w.heap.size, 0, none⟩), .int .u64 150] 83)) (by rw [World.cell?_alloc_lt _ _ ⟨w.heap.size, 0, none⟩ (by simp)]; simp)
  have hL2 := hL.below hL.pos hb2
  have hL2' : ((w.alloc (.cells #[.pointer (some t)] 64)).alloc (.cells #[.pointer (some ⟨1, 64, none⟩), .pointer (some ⟨w.heap.size, 0, none⟩), .int .u64 150] 83)).cell? ⟨0, 0, none⟩ = some (.iface 93 (.agg #[.pointer (some ⟨1, 26, none⟩)])) := hL2
  have hC2 := (hC.below hb2).mono hb2.size
  have ht2 := (hb2.cell htl).trans ht
  have hf2 := (hb2.frozen htl).trans hf
  go_enter Tryd.func25, Tryd.ntmps25
  go_wp2_with (go_at_call 37; refine (eas_number n ss v old t ⟨w.heap.size, 0, none⟩ _ hC2 (by rw [World.cell?_alloc_lt _ _ ⟨w.heap.size, 0, none⟩ (by simp)]; simp) ht2 hf2).mono ?_; rintro e w' ⟨rfl, hS⟩)
  go_ret
  exact ⟨rfl, hS.after hb2⟩

end Go.Proofs.YtbmpbcnoclhhgaaDoor
