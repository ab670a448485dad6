import Derived.Test.YtjkkbceddbkejaaGreatDoorProg
import Derived.WalkKit
import Derived.LaidEql
import Derived.Stop.Asserts
import Derived.RowKitTokens
import Derived.Lib.IfaceEq
import Derived.Below
import Derived.Deep.LoopGhost
import Derived.Lib.Hide
import Derived.IntWalk
import Derived.Laws.OwnMore
import Derived.Deep.MidRow
import Derived.Test.YtjkkbceddbkejaaGreatDoorJSha
import Derived.Laws.ResultCell
import Derived.Deep.AppendLies
import Derived.Laws.Rows
import Derived.Laws.Tables
import Derived.Laws.CopyOwn
import Derived.Deep.OwnRows
import Derived.Great.BuildSlice
import Derived.RegionTactic
import Derived.StillTail
set_option linter.unusedSimpArgs false
set_option linter.unusedVariables false
/-
  Closed facts on reflection's entries, at the types that errors.As and errors.Is meet here; the laws on its entries that read or write memory.
-/
namespace Go.Proofs.YtjkkbceddbkejaaGreatDoor
open Go.RowKit Go.Extern.Stop Go.Stop Go.Extern

/-! A pointer to an Errno's variable, and a pointer to a Woe's variable, as targets. -/
theorem Tryz.valueOfN (t : Addr) (w : World) : (ReflectliteValue.unpack (.iface 86 (.pointer (some t)))).run Tryz.prog w
    = .ok (.agg #[.pointer (some ⟨1, 86, none⟩), .pointer (some ⟨w.heap.size, 0, none⟩), .int .u64 150]) (w.alloc (.cells #[.pointer (some t)] 86)) := by kernel_rfl
theorem Tryz.valueOfE (n : Int) (w : World) : (ReflectliteValue.unpack (.iface 84 (.int .i64 n))).run Tryz.prog w
    = .ok (.agg #[.pointer (some ⟨1, 84, none⟩), .pointer (some ⟨w.heap.size, 0, none⟩), .int .u64 130]) (w.alloc (.cells #[.int .i64 n] 84)) := by kernel_rfl
theorem Tryz.valueOfP (p : Addr) (w : World) : (ReflectliteValue.unpack (.iface 135 (.pointer (some p)))).run Tryz.prog w
    = .ok (.agg #[.pointer (some ⟨1, 135, none⟩), .pointer (some ⟨w.heap.size, 0, none⟩), .int .u64 150]) (w.alloc (.cells #[.pointer (some p)] 135)) := by kernel_rfl
theorem Tryz.typeN (a : Addr) (w : World) : (ReflectliteValue.methodAny (ReflectliteValue.valueError "reflectlite.Value.Type" 0) (fun t _ _ _ => ReflectliteType.toType t) #[.agg #[.pointer (some ⟨1, 86, none⟩), .pointer (some a), .int .u64 150]]).run Tryz.prog w
    = .ok (.iface 171 (.agg #[.pointer (some ⟨1, 86, none⟩)])) w := by kernel_rfl
theorem Tryz.methodKind (h : Value) (w : World) : (Go.method 387 171 (.agg #[h]) "Kind").run Tryz.prog w = .ok (193, h) w := by kernel_rfl
theorem Tryz.methodElem (h : Value) (w : World) : (Go.method 387 171 (.agg #[h]) "Elem").run Tryz.prog w = .ok (206, .agg #[h]) w := by kernel_rfl
theorem Tryz.methodImplements (h : Value) (w : World) : (Go.method 387 171 (.agg #[h]) "Implements").run Tryz.prog w = .ok (207, .agg #[h]) w := by kernel_rfl
theorem Tryz.methodAssignableTo (h : Value) (w : World) : (Go.method 387 171 (.agg #[h]) "AssignableTo").run Tryz.prog w = .ok (204, .agg #[h]) w := by kernel_rfl
theorem Tryz.methodComparable (v : Value) (w : World) : (Go.method 387 171 v "Comparable").run Tryz.prog w = .ok (205, v) w := by kernel_rfl
theorem Tryz.methodUnwrap (v : Value) (w : World) : (Go.method 387 135 v "Unwrap").run Tryz.prog w = .ok (199, v) w := by kernel_rfl
theorem Tryz.kindN (w : World) : ((ReflectliteType.abiMethod fun t => (fun a : Nat => Value.int IntKind.u8 (a : Int)) <$> Rtype.kind t) #[.pointer (some ⟨1, 86, none⟩)]).run Tryz.prog w = .ok (.int .u8 22) w := by kernel_rfl
theorem Tryz.kindE (w : World) : ((ReflectliteType.abiMethod fun t => (fun a : Nat => Value.int IntKind.u8 (a : Int)) <$> Rtype.kind t) #[.pointer (some ⟨1, 84, none⟩)]).run Tryz.prog w = .ok (.int .u8 2) w := by kernel_rfl
theorem Tryz.kindP (w : World) : ((ReflectliteType.abiMethod fun t => (fun a : Nat => Value.int IntKind.u8 (a : Int)) <$> Rtype.kind t) #[.pointer (some ⟨1, 135, none⟩)]).run Tryz.prog w = .ok (.int .u8 22) w := by kernel_rfl
theorem Tryz.elemN (w : World) : (ReflectliteType.method ReflectliteType.elem #[.agg #[.pointer (some ⟨1, 86, none⟩)]]).run Tryz.prog w = .ok (.iface 171 (.agg #[.pointer (some ⟨1, 84, none⟩)])) w := by kernel_rfl
theorem Tryz.implementsE (w : World) : (ReflectliteType.relation "Implements" ReflectliteType.implements_ #[.agg #[.pointer (some ⟨1, 84, none⟩)], .iface 171 (.agg #[.pointer (some ⟨1, 30, none⟩)])]).run Tryz.prog w = .ok (.bool true) w := by kernel_rfl
theorem Tryz.implementsP (w : World) : (ReflectliteType.relation "Implements" ReflectliteType.implements_ #[.agg #[.pointer (some ⟨1, 135, none⟩)], .iface 171 (.agg #[.pointer (some ⟨1, 30, none⟩)])]).run Tryz.prog w = .ok (.bool true) w := by kernel_rfl
theorem Tryz.typeOfE (v : Value) (w : World) : (ReflectliteType.typeOf #[.iface 84 v]).run Tryz.prog w = .ok (.iface 171 (.agg #[.pointer (some ⟨1, 84, none⟩)])) w := by kernel_rfl
theorem Tryz.typeOfP (v : Value) (w : World) : (ReflectliteType.typeOf #[.iface 135 v]).run Tryz.prog w = .ok (.iface 171 (.agg #[.pointer (some ⟨1, 135, none⟩)])) w := by kernel_rfl
theorem Tryz.assignEE (w : World) : (ReflectliteType.relation "AssignableTo" ReflectliteType.assignableTo #[.agg #[.pointer (some ⟨1, 84, none⟩)], .iface 171 (.agg #[.pointer (some ⟨1, 84, none⟩)])]).run Tryz.prog w = .ok (.bool true) w := by kernel_rfl
theorem Tryz.assignPP (w : World) : (ReflectliteType.relation "AssignableTo" ReflectliteType.assignableTo #[.agg #[.pointer (some ⟨1, 135, none⟩)], .iface 171 (.agg #[.pointer (some ⟨1, 135, none⟩)])]).run Tryz.prog w = .ok (.bool true) w := by kernel_rfl
theorem Tryz.assignPE (w : World) : (ReflectliteType.relation "AssignableTo" ReflectliteType.assignableTo #[.agg #[.pointer (some ⟨1, 135, none⟩)], .iface 171 (.agg #[.pointer (some ⟨1, 84, none⟩)])]).run Tryz.prog w = .ok (.bool false) w := by kernel_rfl
theorem Tryz.assignEP (w : World) : (ReflectliteType.relation "AssignableTo" ReflectliteType.assignableTo #[.agg #[.pointer (some ⟨1, 84, none⟩)], .iface 171 (.agg #[.pointer (some ⟨1, 135, none⟩)])]).run Tryz.prog w = .ok (.bool false) w := by kernel_rfl

/-! The entries that read or write memory. -/
theorem Tryz.partsN (a : Addr) (w : World) : (ReflectliteValue.parts (.agg #[.pointer (some ⟨1, 86, none⟩), .pointer (some a), .int .u64 150])).run Tryz.prog w = .ok (some (86, a, 150)) w := by kernel_rfl
theorem Tryz.isNilN (a p : Addr) (W : World) (ha : W.cell? a = some (.pointer (some p))) :
    (ReflectliteValue.method (ReflectliteValue.valueError "reflectlite.Value.IsNil" 0) ReflectliteValue.isNil #[.agg #[.pointer (some ⟨1, 86, none⟩), .pointer (some a), .int .u64 150]]).run Tryz.prog W = .ok (.bool false) W := by
  change Sem.run Tryz.prog (bind (ReflectliteValue.parts (.agg #[.pointer (some ⟨1, 86, none⟩), .pointer (some a), .int .u64 150])) fun _ => _) W = _
  simp only [Sem.run_bind, Tryz.partsN, Result.andThen]
  simp [ReflectliteValue.isNil, loadVar, isAgg, underlying, Tryz.underlying86, ha, Result.andThen]
theorem Tryz.elemOfN (w : World) : (Rtype.elem? 86).run Tryz.prog w = .ok (some 84) w := by kernel_rfl
theorem Tryz.mkE (p : Addr) (w : World) : (ReflectliteValue.mk 84 p ReflectliteValue.flagAddr).run Tryz.prog w = .ok (.agg #[.pointer (some ⟨1, 84, none⟩), .pointer (some p), .int .u64 386]) w := by kernel_rfl
theorem Tryz.mkP (p : Addr) (w : World) : (ReflectliteValue.mk 135 p ReflectliteValue.flagAddr).run Tryz.prog w = .ok (.agg #[.pointer (some ⟨1, 135, none⟩), .pointer (some p), .int .u64 406]) w := by kernel_rfl
theorem Tryz.elemVN (a p : Addr) (W : World) (ha : W.cell? a = some (.pointer (some p))) :
    (ReflectliteValue.method (ReflectliteValue.valueError "reflectlite.Value.Elem" 0) ReflectliteValue.elem #[.agg #[.pointer (some ⟨1, 86, none⟩), .pointer (some a), .int .u64 150]]).run Tryz.prog W
      = .ok (.agg #[.pointer (some ⟨1, 84, none⟩), .pointer (some p), .int .u64 386]) W := by
  change Sem.run Tryz.prog (bind (ReflectliteValue.parts (.agg #[.pointer (some ⟨1, 86, none⟩), .pointer (some a), .int .u64 150])) fun _ => _) W = _
  simp only [Sem.run_bind, Tryz.partsN, Result.andThen]
  simp [ReflectliteValue.elem, loadVar, isAgg, underlying, Tryz.underlying86, ha, Result.andThen, Tryz.elemOfN, Tryz.mkE]
theorem Tryz.partsEa (a : Addr) (w : World) : (ReflectliteValue.parts (.agg #[.pointer (some ⟨1, 84, none⟩), .pointer (some a), .int .u64 386])).run Tryz.prog w = .ok (some (84, a, 386)) w := by kernel_rfl
theorem Tryz.partsE (a : Addr) (w : World) : (ReflectliteValue.parts (.agg #[.pointer (some ⟨1, 84, none⟩), .pointer (some a), .int .u64 130])).run Tryz.prog w = .ok (some (84, a, 130)) w := by kernel_rfl
theorem Tryz.partsPa (a : Addr) (w : World) : (ReflectliteValue.parts (.agg #[.pointer (some ⟨1, 135, none⟩), .pointer (some a), .int .u64 406])).run Tryz.prog w = .ok (some (135, a, 406)) w := by kernel_rfl
theorem Tryz.partsP (a : Addr) (w : World) : (ReflectliteValue.parts (.agg #[.pointer (some ⟨1, 135, none⟩), .pointer (some a), .int .u64 150])).run Tryz.prog w = .ok (some (135, a, 150)) w := by kernel_rfl
theorem Tryz.directE (w : World) : (Rtype.directlyAssignable 84 84).run Tryz.prog w = .ok true w := by kernel_rfl
theorem Tryz.directP (w : World) : (Rtype.directlyAssignable 135 135).run Tryz.prog w = .ok true w := by kernel_rfl
theorem Tryz.sizeE (w : World) : (sizeOf 84).run Tryz.prog w = .ok 1 w := by kernel_rfl
theorem Tryz.sizeP (w : World) : (sizeOf 135).run Tryz.prog w = .ok 1 w := by kernel_rfl
theorem Tryz.setE (ta b : Addr) (n : Int) (old : Value) (W : World) (hb : W.cell? b = some (.int .i64 n)) (ht : W.cell? ta = some old) (hf : W.frozen? ta = false) :
    (ReflectliteValue.set #[.agg #[.pointer (some ⟨1, 84, none⟩), .pointer (some ta), .int .u64 386], .agg #[.pointer (some ⟨1, 84, none⟩), .pointer (some b), .int .u64 130]]).run Tryz.prog W
      = .ok (.tuple #[]) (W.setCell ta (.int .i64 n)) := by
  change Sem.run Tryz.prog (bind (ReflectliteValue.parts (.agg #[.pointer (some ⟨1, 84, none⟩), .pointer (some ta), .int .u64 386])) fun _ => bind (ReflectliteValue.parts (.agg #[.pointer (some ⟨1, 84, none⟩), .pointer (some b), .int .u64 130])) fun _ => _) W = _
  simp only [Sem.run_bind, Tryz.partsEa, Tryz.partsE, Result.andThen]
  simp [ReflectliteValue.flagAddr, loadVar, isAgg, underlying, Tryz.underlying84, hb, Result.andThen, Tryz.directE, storeVar, Value.cells, storeCells, Addr.add]
  rw [run_store Tryz.prog W ta _ _ (by rfl)]
  simp [ht, hf]
theorem Tryz.setP (ta b e : Addr) (old : Value) (W : World) (hb : W.cell? b = some (.pointer (some e))) (ht : W.cell? ta = some old) (hf : W.frozen? ta = false) :
    (ReflectliteValue.set #[.agg #[.pointer (some ⟨1, 135, none⟩), .pointer (some ta), .int .u64 406], .agg #[.pointer (some ⟨1, 135, none⟩), .pointer (some b), .int .u64 150]]).run Tryz.prog W
      = .ok (.tuple #[]) (W.setCell ta (.pointer (some e))) := by
  change Sem.run Tryz.prog (bind (ReflectliteValue.parts (.agg #[.pointer (some ⟨1, 135, none⟩), .pointer (some ta), .int .u64 406])) fun _ => bind (ReflectliteValue.parts (.agg #[.pointer (some ⟨1, 135, none⟩), .pointer (some b), .int .u64 150])) fun _ => _) W = _
  simp only [Sem.run_bind, Tryz.partsPa, Tryz.partsP, Result.andThen]
  simp [ReflectliteValue.flagAddr, loadVar, isAgg, underlying, Tryz.underlying135, hb, Result.andThen, Tryz.directP, storeVar, Value.cells, storeCells, Addr.add]
  rw [run_store Tryz.prog W ta _ _ (by rfl)]
  simp [ht, hf]

/-! What assertions on the two kinds of errors find. -/
theorem Tryz.noAsE (v : Value) (xT : TypeId) (w : World) : (Instr.typeAssert (.iface 84 v) xT 176 true).run Tryz.prog w = .ok (.tuple #[.nilIface, .bool false]) w := run_typeAssert_lacksB Tryz.underlying176 (by kernel_rfl) (by kernel_rfl) v xT w
theorem Tryz.noUnwrapE (v : Value) (xT : TypeId) (w : World) : (Instr.typeAssert (.iface 84 v) xT 179 true).run Tryz.prog w = .ok (.tuple #[.nilIface, .bool false]) w := run_typeAssert_lacksB Tryz.underlying179 (by kernel_rfl) (by kernel_rfl) v xT w
theorem Tryz.noUnwrapsE (v : Value) (xT : TypeId) (w : World) : (Instr.typeAssert (.iface 84 v) xT 180 true).run Tryz.prog w = .ok (.tuple #[.nilIface, .bool false]) w := run_typeAssert_lacksB Tryz.underlying180 (by kernel_rfl) (by kernel_rfl) v xT w
theorem Tryz.noAsP (v : Value) (xT : TypeId) (w : World) : (Instr.typeAssert (.iface 135 v) xT 176 true).run Tryz.prog w = .ok (.tuple #[.nilIface, .bool false]) w := run_typeAssert_lacksB Tryz.underlying176 (by kernel_rfl) (by kernel_rfl) v xT w
theorem Tryz.hasUnwrapP (v : Value) (xT : TypeId) (w : World) : (Instr.typeAssert (.iface 135 v) xT 179 true).run Tryz.prog w = .ok (.tuple #[.iface 135 v, .bool true]) w := run_typeAssert_hasB Tryz.underlying179 (by kernel_rfl) v xT w

/-! '==' of errors. -/
theorem Tryz.eqlEE (a b : Int) (w : World) : (binOp .eql 30 (.iface 84 (.int .i64 a)) (.iface 84 (.int .i64 b))).run Tryz.prog w = .ok (.bool (a == b)) w := Go.Lib.run_eql_iface_int w a b Tryz.underlying30 (by kernel_rfl) Tryz.underlying84
theorem Tryz.eqlPE (v x : Value) (w : World) : (binOp .eql 30 (.iface 135 v) (.iface 84 x)).run Tryz.prog w = .ok (.bool false) w := run_eql_iface_types _ _ _ _ Tryz.underlying30 (by decide) w
end Go.Proofs.YtjkkbceddbkejaaGreatDoor

/-
  What In makes of an Errno: a chain in memory; In, Unwrap, errors.Unwrap by their contracts.
-/
namespace Go.Proofs.YtjkkbceddbkejaaGreatDoor
open Go.RowKit Go.Extern.Stop Go.Stop Go.Extern

/-- v is the error that was made of the Errno n in the places ss, the outermost first; all of it lies below block N. -/
def Chain (N : Nat) (w : World) (n : Int) : List ByteArray → Value → Prop
  | [], v => v = .iface 84 (.int .i64 n)
  | s :: r, v => ∃ (b : Nat) (x : Value), v = .iface 135 (.pointer (some ⟨b, 0, none⟩)) ∧ b < N ∧ w.cell? ⟨b, 0, none⟩ = some (.string s) ∧ w.cell? ⟨b, 1, none⟩ = some x ∧ Chain N w n r x

theorem Chain.below {N : Nat} {w w' : World} {n : Int} (hb : Below N w w') : ∀ {ss : List ByteArray} {v : Value}, Chain N w n ss v → Chain N w' n ss v
  | [], _, h => h
  | _ :: _, _, ⟨b, x, hv, hlt, h0, h1, hr⟩ => ⟨b, x, hv, hlt, by rw [hb.cell (p := ⟨b, 0, none⟩) hlt]; exact h0, by rw [hb.cell (p := ⟨b, 1, none⟩) hlt]; exact h1, Chain.below hb hr⟩
theorem Chain.mono {N N' : Nat} {w : World} {n : Int} (hN : N ≤ N') : ∀ {ss : List ByteArray} {v : Value}, Chain N w n ss v → Chain N' w n ss v
  | [], _, h => h
  | _ :: _, _, ⟨b, x, hv, hlt, h0, h1, hr⟩ => ⟨b, x, hv, by omega, h0, h1, Chain.mono hN hr⟩
/-- An error is one or the other. -/
theorem Chain.kind {N : Nat} {w : World} {n : Int} {ss : List ByteArray} {v : Value} (h : Chain N w n ss v) : (∃ a, v = .iface 84 (.int .i64 a)) ∨ ∃ b, v = .iface 135 (.pointer (some ⟨b, 0, none⟩)) := by
  cases ss with
  | nil => exact .inl ⟨n, h⟩
  | cons s r => obtain ⟨b, x, hv, _⟩ := h; exact .inr ⟨b, hv⟩

theorem Tryz.methodsError : Tryz.prog.underlying 30 = some (.interface (Tryz.prog.methodsAt 30)) := by kernel_rfl

theorem in_nil (s : ByteArray) (w : World) : Calls Tryz.prog 35 #[.string s, .nilIface] w fun e w' => e = .returned .nilIface ∧ w' = w := by
  go_enter Tryz.func35, Tryz.ntmps35
  go_wp2
  go_ret
  exact ⟨rfl, rfl⟩

/-- What was made, once more. -/
def MorePost (N : Nat) (n : Int) (ss : List ByteArray) (w : World) (e : Ending) (w' : World) : Prop := ∃ v, e = .returned v ∧ Chain w'.heap.size w' n ss v ∧ Below N w w'

theorem in_held (s : ByteArray) (t : TypeId) (x : Value) (w : World) : Calls Tryz.prog 35 #[.string s, .iface t x] w fun e w' => e = .returned (.iface 135 (.pointer (some ⟨w.heap.size, 0, none⟩))) ∧ w' = w.alloc (.cells #[.string s, .iface t x] 137) := by
  have hq : ∀ w : World, (binOp .eql 30 (.iface t x) .nilIface).run Tryz.prog w = .ok (.bool false) w := fun w => run_eql_held_nil w 30 t x Tryz.methodsError
  go_enter Tryz.func35, Tryz.ntmps35
  go_wp2
  go_ret
  exact ⟨rfl, rfl⟩

theorem in_chain (s : ByteArray) (n : Int) (ss : List ByteArray) (v : Value) (w : World) (h : Chain w.heap.size w n ss v) : Calls Tryz.prog 35 #[.string s, v] w (MorePost w.heap.size n (s :: ss) w) := by
  have key : ∀ (t : TypeId) (x : Value), v = .iface t x → Calls Tryz.prog 35 #[.string s, v] w (MorePost w.heap.size n (s :: ss) w) := fun t x hv => by
    subst hv
    refine (in_held s t x w).mono ?_
    rintro e w' ⟨rfl, rfl⟩
    have hb : Below w.heap.size w (w.alloc (.cells #[.string s, .iface t x] 137)) := (Below.refl _ w).alloc (Nat.le_refl _) _
    exact ⟨_, rfl, ⟨w.heap.size, _, rfl, by simp, by simp, by simp, (h.below hb).mono hb.size⟩, hb⟩
  rcases h.kind with ⟨a, ha⟩ | ⟨b, hb⟩
  · exact key _ _ ha
  · exact key _ _ hb

/-- (*Woe).Unwrap of what In made. -/
theorem unwrap_at (b : Nat) (x : Value) (w : World) (h1 : w.cell? ⟨b, 1, none⟩ = some x) : Calls Tryz.prog 199 #[.pointer (some ⟨b, 0, none⟩)] w fun e w' => e = .returned x ∧ w' = w := by
  go_enter Tryz.func199, Tryz.ntmps199
  go_wp2
  go_ret
  exact ⟨rfl, rfl⟩
theorem unwrap_nil (w : World) : Calls Tryz.prog 199 #[.pointer none] w fun e w' => e = .returned .nilIface ∧ w' = w := by
  go_enter Tryz.func199, Tryz.ntmps199
  go_wp2
  go_ret
  exact ⟨rfl, rfl⟩

end Go.Proofs.YtjkkbceddbkejaaGreatDoor

/-
  errors.as and errors.As over a chain, at the two targets: an Errno's variable and a Woe's.
-/
namespace Go.Proofs.YtjkkbceddbkejaaGreatDoor
open Go.RowKit Go.Extern.Stop Go.Stop Go.Extern

/-- The variable at t was set to x; no other block that was there has turned. -/
structure Sets (t : Addr) (x : Value) (w w' : World) : Prop where
  grown : w.grownBy w' (some t.block)
  cell : w'.cell? t = some x
  thaw : w'.frozen? t = false

theorem Sets.of_below {t : Addr} {x old : Value} {w w2 : World} (h : Below w.heap.size w w2) (hc : w2.cell? t = some old) (hf : w2.frozen? t = false) : Sets t x w (w2.setCell t x) :=
  ⟨⟨h.os, h.tape, h.output, by simpa [World.setCell] using h.size, fun k hk hne => by rw [Below.heap_setCell _ _ _ _ (fun e => hne (by rw [e]))]; exact h.block k hk⟩, World.cell?_setCell_same' _ _ _ (by simp [hc]), by simpa using hf⟩
theorem Sets.after {t : Addr} {x : Value} {w w1 w' : World} (h : Below w.heap.size w w1) (hs : Sets t x w1 w') : Sets t x w w' :=
  ⟨⟨hs.grown.os.trans h.os, hs.grown.tape.trans h.tape, hs.grown.output.trans h.output, Nat.le_trans h.size hs.grown.size, fun k hk hne => (hs.grown.block k (Nat.lt_of_lt_of_le hk h.size) hne).trans (h.block k hk)⟩, hs.cell, hs.thaw⟩
theorem Sets.below {t : Addr} {x : Value} {w w' : World} {B : Nat} (hs : Sets t x w w') (hB : B ≤ w.heap.size) (ht : B ≤ t.block) : Below B w w' :=
  ⟨hs.grown.os, hs.grown.tape, hs.grown.output, hs.grown.size, fun k hk => hs.grown.block k (by omega) (by simp; omega)⟩

/-- Where errors.errorType lies. -/
def Laid (w : World) : Prop := w.cell? ⟨0, 0, none⟩ = some (.iface 171 (.agg #[.pointer (some ⟨1, 30, none⟩)]))
theorem Laid.pos {w : World} (h : Laid w) : 0 < w.heap.size := World.block_lt_of_cell? w _ h
theorem Laid.below {N : Nat} {w w' : World} (h : Laid w) (hN : 0 < N) (hb : Below N w w') : Laid w' := (hb.cell (p := ⟨0, 0, none⟩) hN).trans h


theorem Chain.notNil {N : Nat} {w : World} {n : Int} {ss : List ByteArray} {v : Value} (h : Chain N w n ss v) (W : World) : (binOp .eql 30 v .nilIface).run Tryz.prog W = .ok (.bool false) W := by
  rcases h.kind with ⟨a, rfl⟩ | ⟨b, rfl⟩
  · exact run_eql_held_nil W 30 _ _ Tryz.methodsError
  · exact run_eql_held_nil W 30 _ _ Tryz.methodsError

theorem Chain.guard {N : Nat} {w : World} {n : Int} {ss : List ByteArray} {v : Value} (h : Chain N w n ss v) (o1 o2 : Operand) : eqGuard .eql 30 o1 o2 v .nilIface = pure () := by
  rcases h.kind with ⟨a, rfl⟩ | ⟨b, rfl⟩ <;> rfl

set_option maxRecDepth 100000 in
set_option maxHeartbeats 4000000 in
theorem eas_number (n : Int) (ss : List ByteArray) (v old : Value) (t a : Addr) (w : World) (hC : Chain w.heap.size w n ss v) (ha : w.cell? a = some (.pointer (some t))) (ht : w.cell? t = some old) (hf : w.frozen? t = false) :
    Calls Tryz.prog 76 #[v, .iface 86 (.pointer (some t)), .agg #[.pointer (some ⟨1, 86, none⟩), .pointer (some a), .int .u64 150], .iface 171 (.agg #[.pointer (some ⟨1, 84, none⟩)])] w
      fun e w' => e = .returned (.bool true) ∧ Sets t (.int .i64 n) w w' := by
  have hal := World.block_lt_of_cell? w _ ha
  have htl := World.block_lt_of_cell? w _ ht
  have h28 := @run_callFunc_extern Tryz.prog 105 _ ReflectliteType.typeOf Tryz.func105 (by kernel_rfl) (by kernel_rfl) (by kernel_rfl) (by kernel_rfl)
  have h35 := @run_callFunc_extern Tryz.prog 204 _ (ReflectliteType.relation "AssignableTo" ReflectliteType.assignableTo) Tryz.func204 (by kernel_rfl) (by kernel_rfl) (by kernel_rfl) (by kernel_rfl)
  have h36 := @run_callFunc_extern Tryz.prog 106 _ (ReflectliteValue.method (ReflectliteValue.valueError "reflectlite.Value.Elem" 0) ReflectliteValue.elem) Tryz.func106 (by kernel_rfl) (by kernel_rfl) (by kernel_rfl) (by kernel_rfl)
  have h24 := @run_callFunc_extern Tryz.prog 73 _ (fun args => ReflectliteValue.unpack (args.getD 0 (.tuple #[]))) Tryz.func73 (by kernel_rfl) (by kernel_rfl) (by kernel_rfl) (by kernel_rfl)
  have h37 := @run_callFunc_extern Tryz.prog 107 _ ReflectliteValue.set Tryz.func107 (by kernel_rfl) (by kernel_rfl) (by kernel_rfl) (by kernel_rfl)
  have tE := Tryz.typeOfE
  have tP := Tryz.typeOfP
  have mA := Tryz.methodAssignableTo
  have aE := Tryz.assignEE
  have aP := Tryz.assignPE
  have vE := Tryz.valueOfE
  have nP := Tryz.noAsP
  have uP := Tryz.hasUnwrapP
  have mU := Tryz.methodUnwrap
  obtain ⟨W1, hW1⟩ : ∃ W1, W1 = w.alloc (.cells #[.pointer (some ⟨1, 86, none⟩), .pointer (some a), .int .u64 150] 141) := ⟨_, rfl⟩
  have hb1 : Below w.heap.size w W1 := by rw [hW1]; exact (Below.refl _ w).alloc (Nat.le_refl _) _
  have hC1 := hC.below hb1
  go_enter Tryz.func76, Tryz.ntmps76
  go_wp2
  rw [← hW1]
  have HW1 := Lib.hid hW1
  clear hW1
  go_loopg [0] ss.length (fun g v wr => ∃ rs : List ByteArray, g = rs.length ∧ wr = W1 ∧ Chain w.heap.size W1 n rs v)
  case atStart => exact ⟨ss, rfl, rfl, hC1⟩
  case round =>
    clear hC hC1
    obtain ⟨rs, rfl, rfl, hC⟩ := hrel
    cases rs with
    | nil =>
      obtain rfl := hC
      obtain rfl := HW1.out
      have e1 := Tryz.elemVN a t _ (by rw [hb1.cell hal]; exact ha)
      have hb2 := hb1.alloc (by simp) (.cells #[.int .i64 n] 84)
      have ht2 := (hb2.cell htl).trans ht
      have hf2 := (hb2.frozen htl).trans hf
      have s1 := Tryz.setE t ⟨w.heap.size + 1, 0, none⟩ n old _ (by simp) ht2 hf2
      go_wp2
      go_ret
      exact ⟨rfl, Sets.of_below hb2 ht2 hf2⟩
    | cons s r =>
      obtain ⟨b, x, rfl, hlt, hc0, hc1, hC⟩ := hC
      have hnn := hC.notNil
      have hng := hC.guard
      go_wp2_with (go_at_call 199; refine (unwrap_at b x _ hc1).mono ?_; rintro e w' ⟨rfl, rfl⟩)
      go_roundg (r.length)
      case measure => simp
      case rel => exact ⟨r, rfl, rfl, hC⟩

/-- errors.As with an Errno's variable as target. -/
theorem as_number (n : Int) (ss : List ByteArray) (v old : Value) (t : Addr) (w : World) (hL : Laid w) (hC : Chain w.heap.size w n ss v) (ht : w.cell? t = some old) (hf : w.frozen? t = false) :
    Calls Tryz.prog 37 #[v, .iface 86 (.pointer (some t))] w fun e w' => e = .returned (.bool true) ∧ Sets t (.int .i64 n) w w' := by
  have htl := World.block_lt_of_cell? w _ ht
  have h24 := @run_callFunc_extern Tryz.prog 73 _ (fun args => ReflectliteValue.unpack (args.getD 0 (.tuple #[]))) Tryz.func73 (by kernel_rfl) (by kernel_rfl) (by kernel_rfl) (by kernel_rfl)
  have h25 := @run_callFunc_extern Tryz.prog 74 _ (ReflectliteValue.methodAny (ReflectliteValue.valueError "reflectlite.Value.Type" 0) (fun t _ _ _ => ReflectliteType.toType t)) Tryz.func74 (by kernel_rfl) (by kernel_rfl) (by kernel_rfl) (by kernel_rfl)
  have h26 := @run_callFunc_extern Tryz.prog 75 _ (ReflectliteValue.method (ReflectliteValue.valueError "reflectlite.Value.IsNil" 0) ReflectliteValue.isNil) Tryz.func75 (by kernel_rfl) (by kernel_rfl) (by kernel_rfl) (by kernel_rfl)
  have h68 := @run_callFunc_extern Tryz.prog 193 _ (ReflectliteType.abiMethod fun t => do pure (.int .u8 (← Rtype.kind t))) Tryz.func193 (by kernel_rfl) (by kernel_rfl) (by kernel_rfl) (by kernel_rfl)
  have h78 := @run_callFunc_extern Tryz.prog 206 _ (ReflectliteType.method ReflectliteType.elem) Tryz.func206 (by kernel_rfl) (by kernel_rfl) (by kernel_rfl) (by kernel_rfl)
  have h79 := @run_callFunc_extern Tryz.prog 207 _ (ReflectliteType.relation "Implements" ReflectliteType.implements_) Tryz.func207 (by kernel_rfl) (by kernel_rfl) (by kernel_rfl) (by kernel_rfl)
  have vN := Tryz.valueOfN
  have tN := Tryz.typeN
  have mK := Tryz.methodKind
  have mE := Tryz.methodElem
  have mI := Tryz.methodImplements
  have kN := Tryz.kindN
  have kE := Tryz.kindE
  have eN := Tryz.elemN
  have iE := Tryz.implementsE
  have hnn := hC.notNil
  have hng := hC.guard
  have hb1 := (Below.refl w.heap.size w).alloc (Nat.le_refl _) (.cells #[.pointer (some t)] 86)
  have hb2 := hb1.alloc (by simp) (.cells #[.pointer (some ⟨1, 86, none⟩), .pointer (some ⟨w.heap.size, 0, none⟩), .int .u64 150] 141)
  have n1 := Tryz.isNilN ⟨w.heap.size, 0, none⟩ t ((w.alloc (.cells #[.pointer (some t)] 86)).alloc (.cells #[.pointer (some ⟨1, 86, none⟩), .pointer (some ⟨w.heap.size, 0, none⟩), .int .u64 150] 141)) (by rw [World.cell?_alloc_lt _ _ ⟨w.heap.size, 0, none⟩ (by simp)]; simp)
  have hL2 := hL.below hL.pos hb2
  have hL2' : ((w.alloc (.cells #[.pointer (some t)] 86)).alloc (.cells #[.pointer (some ⟨1, 86, none⟩), .pointer (some ⟨w.heap.size, 0, none⟩), .int .u64 150] 141)).cell? ⟨0, 0, none⟩ = some (.iface 171 (.agg #[.pointer (some ⟨1, 30, none⟩)])) := hL2
  have hC2 := (hC.below hb2).mono hb2.size
  have ht2 := (hb2.cell htl).trans ht
  have hf2 := (hb2.frozen htl).trans hf
  go_enter Tryz.func37, Tryz.ntmps37
  go_wp2_with (go_at_call 76; refine (eas_number n ss v old t ⟨w.heap.size, 0, none⟩ _ hC2 (by rw [World.cell?_alloc_lt _ _ ⟨w.heap.size, 0, none⟩ (by simp)]; simp) ht2 hf2).mono ?_; rintro e w' ⟨rfl, hS⟩)
  go_ret
  exact ⟨rfl, hS.after hb2⟩

end Go.Proofs.YtjkkbceddbkejaaGreatDoor

/-
  The reference's disk in memory; its small calls.
-/
namespace Go.Proofs.YtjkkbceddbkejaaGreatDoor
open Go.RowKit

/-! Pages: 64 cells each, one behind the other. -/
def IsPage (p : List Value) : Prop := p.length = 64 ∧ ∀ v ∈ p, v.oneCell' = true
def Pages (pgs : List (List Value)) : Prop := ∀ p ∈ pgs, IsPage p

theorem flat_length : ∀ {pgs : List (List Value)}, Pages pgs → pgs.flatten.length = pgs.length * 64
  | [], _ => rfl
  | p :: r, h => by
    rw [List.flatten_cons, List.length_append, (h p (by simp)).1, flat_length (fun q hq => h q (by simp [hq])), List.length_cons]
    omega
theorem flat_get : ∀ {pgs : List (List Value)}, Pages pgs → ∀ (i : Nat) (p : List Value), pgs[i]? = some p → ∀ j, j < 64 → pgs.flatten[i * 64 + j]? = p[j]?
  | [], _, _, _, hi, _, _ => by simp at hi
  | q :: r, h, i, p, hi, j, hj => by
    have hq := (h q (by simp)).1
    rw [List.flatten_cons]
    cases i with
    | zero =>
      obtain rfl : q = p := by simpa using hi
      rw [List.getElem?_append_left (by omega)]
      simp
    | succ i =>
      rw [List.getElem?_append_right (by omega), show (i + 1) * 64 + j - q.length = i * 64 + j by omega]
      exact flat_get (fun x hx => h x (by simp [hx])) i p (by simpa using hi) j hj
theorem flat_one {pgs : List (List Value)} (h : Pages pgs) : ∀ v ∈ pgs.flatten, v.oneCell' = true := fun v hv => by
  obtain ⟨p, hp, hvp⟩ := List.mem_flatten.1 hv
  exact (h p hp).2 v hvp

/-- A page out of a row of pages. -/
theorem own_page {w : World} {B g n cap : Nat} {e : TypeId} {pgs : List (List Value)} (h : w.ownsRow B e 64 (.slice (some ⟨g, 0, none⟩) n cap) n pgs.flatten) (hp : Pages pgs) (i : Nat) (p : List Value) (hi : pgs[i]? = some p) (hn : pgs.length = n) : w.rangeAt g (i * 64) p := by
  intro j v hj
  have hil : i < n := by rw [← hn]; exact (List.getElem?_eq_some_iff.1 hi).1
  have hj64 : j < 64 := by have := (List.getElem?_eq_some_iff.1 hj).1; have := (hp p (List.mem_of_getElem? hi)).1; omega
  rw [h.cellAt (i * 64 + j) (by omega), flat_get hp i p hi j hj64, hj]

section
variable {g : Nat} {vf va vw : Value} {firm what : List (List Value)} {ats : List Int} {fuel : Int} {off : Bool} {w : World}
theorem grown_setCell (w : World) (a : Addr) (x : Value) : w.grownBy (w.setCell a x) (some a.block) :=
  ⟨rfl, rfl, rfl, by simp [World.setCell], fun k _ hk => Below.heap_setCell _ _ _ _ (fun e => hk (by rw [e]))⟩
/-- What a step leaves of fuel and being off, and what it answers. -/
def stepS (fuel : Int) (off : Bool) : Int × Bool × Int :=
  if fuel = 0 then (fuel, true, 10) else if off = true then (fuel, true, 10) else if 0 < fuel then (fuel - 1, false, 0) else (fuel, false, 0)

end
end Go.Proofs.YtjkkbceddbkejaaGreatDoor

/-
  The reference's disk: Read.
-/
namespace Go.Proofs.YtjkkbceddbkejaaGreatDoor
open Go.RowKit Sh

/-- The last pending write to sector i. -/
def seen : List Int → List (List Value) → Int → Option (List Value)
  | a :: xs, p :: ys, i => match seen xs ys i with
    | some q => some q
    | none => if a = i then some p else none
  | _, _, _ => none
theorem seen_drop : ∀ (k : Nat) (xs : List Int) (ys : List (List Value)) (i : Int) (q : List Value), seen (xs.drop k) (ys.drop k) i = some q → seen xs ys i = some q
  | 0, _, _, _, _, h => h
  | k + 1, [], ys, i, q, h => by simp [seen] at h
  | k + 1, a :: xs, [], i, q, h => by
    simp only [List.drop_succ_cons, List.drop_nil] at h
    cases hd : xs.drop k <;> simp [hd, seen] at h
  | k + 1, a :: xs, p :: ys, i, q, h => by
    have := seen_drop k xs ys i q (by simpa using h)
    simp [seen, this]
theorem seen_cons {xs : List Int} {ys : List (List Value)} {i : Int} (k : Nat) (a : Int) (p : List Value) (ha : xs[k]? = some a) (hp : ys[k]? = some p) (h : seen (xs.drop (k + 1)) (ys.drop (k + 1)) i = none) :
    seen (xs.drop k) (ys.drop k) i = if a = i then some p else none := by
  have e1 : xs.drop k = a :: xs.drop (k + 1) := by
    obtain ⟨hk, rfl⟩ := List.getElem?_eq_some_iff.1 ha
    exact List.drop_eq_getElem_cons hk
  have e2 : ys.drop k = p :: ys.drop (k + 1) := by
    obtain ⟨hk, rfl⟩ := List.getElem?_eq_some_iff.1 hp
    exact List.drop_eq_getElem_cons hk
  rw [e1, e2]
  simp [seen, h]

def zeroPage : List Value := List.replicate 64 (.int .u8 0)
def zeros64 : Array Value := zeroPage.toArray
theorem zeroPage_ok : IsPage zeroPage := ⟨List.length_replicate, fun v hv => by rw [(List.mem_replicate.1 hv).2]; rfl⟩

/-- What Read answers. -/
def readS (firm : List (List Value)) (ats : List Int) (what : List (List Value)) (off : Bool) (i : Int) : List Value × Int :=
  if off = true then (zeroPage, 10) else if i < 0 ∨ (firm.length : Int) ≤ i then (zeroPage, 1) else
    match seen ats what i with
    | some p => (p, 0)
    | none => (firm.getD i.toNat zeroPage, 0)

theorem results_cell_row_tmp {P : Program} {fn : Func} {p u : Tmp} {ty : TypeId} (h : fn.results = #[.cell p ty, .tmp u]) (tmps : Array Value) (w : World) (g : Nat) (t : TypeId) (cs : Array Value) (fr : Nat × Nat) (d : TypeDesc)
    (hp : tmps.getD p undef = .pointer (some ⟨g, 0, none⟩)) (hg : w.heap[g]? = some (.cells cs t fr))
    (hu : P.underlying ty = some d) (hd : (match d with | .struct _ | .array _ _ => true | _ => false) = true) (hi : (P.info? ty).map (·.size) = some cs.size) (x : Value) (hx : tmps.getD u undef = x) :
    (results fn tmps).run P w = .ok (.tuple #[.agg cs, x]) w := by
  have hp' : tmps[p]?.getD undef = .pointer (some ⟨g, 0, none⟩) := by simpa using hp
  have hx' : tmps[u]?.getD undef = x := by simpa using hx
  simp [results, h, hp', hx', asAddr, run_loadVar_row w g t ty cs fr d hg hu hd hi]

theorem wpList_alloc_arr {P : Program} {ops : Array Oper} {rest : List Oper} {o : Oper} {a : Act} {w : World} {Q : Exit → Act → World → Prop} (hgd : o.guard = none) (ty : TypeId) (ho : o.op = .alloc ty) (cells : Array Value)
    (hal : ∀ w : World, (Instr.alloc ty true (.tuple #[])).run P w = .ok (.pointer (some ⟨w.heap.size, 0, none⟩)) (w.alloc (.cells cells ty)))
    (h : wpList P ops Q rest (a.put o.dst (.pointer (some ⟨w.heap.size, 0, none⟩))) (w.alloc (.cells cells ty))) : wpList P ops Q (o :: rest) a w :=
  wpList_plain hgd fun K hK => by
    unfold Oper.wp execOp
    simp only [ho, Sem.run_bind, hal w, Result.andThen_ok, Sem.run_pure]
    exact hK _ _ h
set_option maxRecDepth 100000 in
theorem alloc64 (w : World) : (Instr.alloc 33 true (.tuple #[])).run Tryz.prog w = .ok (.pointer (some ⟨w.heap.size, 0, none⟩)) (w.alloc (.cells zeros64 33)) := by kernel_rfl
theorem info64 : (Tryz.prog.info? 33).map (·.size) = some 64 := by kernel_rfl
theorem page_size {p : List Value} (h : IsPage p) : Hid ((Tryz.prog.info? 33).map (·.size) = some p.toArray.size) := by
  have e : p.toArray.size = 64 := by rw [List.size_toArray]; exact h.1
  rw [e]; exact info64
theorem page_all {p : List Value} (h : IsPage p) : Hid (p.toArray.all (·.oneCell') = true) := all_oneCell_toArray h.2
theorem built64 : Tryz.prog.built 33 [] = some zeros64 := by kernel_rfl

def ReadPost (p : List Value) (e : Int) (w : World) (en : Ending) (w' : World) : Prop := en = .returned (.tuple #[.agg p.toArray, .int .i64 e]) ∧ Below w.heap.size w w'

section
variable {g : Nat} {vf va vw : Value} {firm what : List (List Value)} {ats : List Int} {fuel : Int} {off : Bool} {w : World}
end
end Go.Proofs.YtjkkbceddbkejaaGreatDoor

/-
  The reference's disk: New.
-/
namespace Go.Proofs.YtjkkbceddbkejaaGreatDoor
open Go.RowKit Sh

theorem infoPage : (Tryz.prog.info? 33).map (fun i => (i.zero, i.size, i.bytes)) = some (some (.agg zeros64), 64, 64) := by kernel_rfl

theorem made_zeros (m : Nat) : madeCells zeros64 m = (List.replicate m (Value.int .u8 0)).toArray := by
  apply Array.ext
  · simp [madeCells]
  · intro i h1 h2
    have hz : zeros64.size = 64 := by unfold zeros64 zeroPage; rw [List.size_toArray, List.length_replicate]
    have hlt : i % zeros64.size < zeros64.size := by rw [hz]; exact Nat.mod_lt _ (by omega)
    simp only [madeCells, Array.getElem_map, Array.getElem_range, List.getElem_toArray, List.getElem_replicate]
    rw [getElem!_pos zeros64 (i % zeros64.size) hlt]
    simp only [zeros64, zeroPage, List.getElem_toArray, List.getElem_replicate]
theorem zero_flat (n : Nat) : (List.replicate n zeroPage).flatten = List.replicate (n * 64) (Value.int .u8 0) := by
  unfold zeroPage
  rw [List.flatten_replicate_replicate]
theorem zero_pages (n : Nat) : Pages (List.replicate n zeroPage) := fun p hp => by rw [(List.mem_replicate.1 hp).2]; exact zeroPage_ok

theorem make_pages (n : Nat) (hn : n ≤ 4096) (w : World) :
    (Instr.makeSlice 73 (.int .i64 (n : Int)) (.int .i64 (n : Int))).run Tryz.prog w = .ok (.slice (some ⟨w.heap.size, 0, none⟩) n n) (w.alloc (.cells (List.replicate n zeroPage).flatten.toArray 33)) := by
  obtain ⟨i, hi, hzz⟩ := Option.map_eq_some_iff.1 infoPage
  simp only [Prod.mk.injEq] at hzz
  obtain ⟨hz, hs, hb⟩ := hzz
  have h := run_make (P := Tryz.prog) w 73 33 i (.agg zeros64) Tryz.underlying73 hi hz .i64 .i64 n n (by omega) (Int.le_refl _) (by rw [hb]; omega) (by omega)
  rw [hs] at h
  rw [h, zero_flat, ← made_zeros]
  rfl

/-- The blocks that are the disk's. -/
def Foot (g : Nat) (vf va vw : Value) (k : Nat) : Prop := k = g ∨ vf.ownBlock = some k ∨ va.ownBlock = some k ∨ vw.ownBlock = some k

/-- Nothing but blocks of F has turned, of what was there. -/
structure Only (F : Nat → Prop) (w w' : World) : Prop where
  os : w'.os = w.os
  tape : w'.tape = w.tape
  output : w'.output = w.output
  size : w.heap.size ≤ w'.heap.size
  block : ∀ k, k < w.heap.size → ¬ F k → w'.heap[k]? = w.heap[k]?
theorem Only.refl (F : Nat → Prop) (w : World) : Only F w w := ⟨rfl, rfl, rfl, Nat.le_refl _, fun _ _ _ => rfl⟩
theorem Only.of_below {F : Nat → Prop} {w w' : World} (h : Below w.heap.size w w') : Only F w w' := ⟨h.os, h.tape, h.output, h.size, fun k hk _ => h.block k hk⟩
/-- What was new behind the first step may turn in the second. -/
theorem Only.trans {F G : Nat → Prop} {w w1 w2 : World} (h : Only F w w1) (k : Only G w1 w2) (hG : ∀ j, G j → F j ∨ w.heap.size ≤ j) : Only F w w2 :=
  ⟨k.os.trans h.os, k.tape.trans h.tape, k.output.trans h.output, Nat.le_trans h.size k.size, fun j hj hn =>
    (k.block j (Nat.lt_of_lt_of_le hj h.size) (fun hg => (hG j hg).elim hn (fun hf => by omega))).trans (h.block j hj hn)⟩
theorem Only.of_grown {F : Nat → Prop} {w w' : World} {row : Option Nat} (h : w.grownBy w' row) (hr : ∀ k, row = some k → F k) : Only F w w' :=
  ⟨h.os, h.tape, h.output, h.size, fun k hk hn => h.block k hk (fun e => hn (hr k e.symm))⟩

end Go.Proofs.YtjkkbceddbkejaaGreatDoor

/-
  Errors of the disk, and num: what a law's num answers of them.
-/
namespace Go.Proofs.YtjkkbceddbkejaaGreatDoor
open Go.RowKit Go.Extern.Stop Go.Stop Go.Extern

theorem Chain.iface {N : Nat} {w : World} {n : Int} {ss : List ByteArray} {v : Value} (h : Chain N w n ss v) : ∃ t x, v = .iface t x := by
  rcases h.kind with ⟨a, rfl⟩ | ⟨b, rfl⟩
  · exact ⟨_, _, rfl⟩
  · exact ⟨_, _, rfl⟩
theorem in_more (s : ByteArray) (n : Int) (ss : List ByteArray) (v : Value) (w : World) (h : Chain w.heap.size w n ss v) :
    Calls Tryz.prog 35 #[.string s, v] w fun e w' => e = .returned (.iface 135 (.pointer (some ⟨w.heap.size, 0, none⟩))) ∧ Chain w'.heap.size w' n (s :: ss) (.iface 135 (.pointer (some ⟨w.heap.size, 0, none⟩))) ∧ Below w.heap.size w w' := by
  obtain ⟨t, x, rfl⟩ := h.iface
  refine (in_held s t x w).mono ?_
  rintro e w' ⟨rfl, rfl⟩
  have hb : Below w.heap.size w (w.alloc (.cells #[.string s, .iface t x] 137)) := (Below.refl _ w).alloc (Nat.le_refl _) _
  exact ⟨rfl, ⟨w.heap.size, _, rfl, by simp, by simp, by simp, (h.below hb).mono hb.size⟩, hb⟩

/-- v is an error of number n, or none (0). -/
def ErrV (w : World) (n : Int) (v : Value) : Prop := (n = 0 ∧ v = .nilIface) ∨ (n ≠ 0 ∧ ∃ ss, Chain w.heap.size w n ss v)
theorem ErrV.below {w w' : World} {n : Int} {v : Value} (h : ErrV w n v) (hb : Below w.heap.size w w') : ErrV w' n v :=
  h.imp id (fun ⟨h0, ss, hC⟩ => ⟨h0, ss, (hC.below hb).mono hb.size⟩)
theorem ErrV.nil {w : World} : ErrV w 0 .nilIface := .inl ⟨rfl, rfl⟩
/-- An error is nil just if its number is 0: what '==' and '!=' with nil answer. -/
theorem ErrV.eqNil {w : World} {n : Int} {v : Value} (h : ErrV w n v) (W : World) : (binOp .eql 30 v .nilIface).run Tryz.prog W = .ok (.bool (decide (n = 0))) W := by
  rcases h with ⟨rfl, rfl⟩ | ⟨h0, ss, hC⟩
  · kernel_rfl
  · rw [decide_eq_false h0]; exact hC.notNil W
theorem ErrV.neqNil {w : World} {n : Int} {v : Value} (h : ErrV w n v) (W : World) : (binOp .neq 30 v .nilIface).run Tryz.prog W = .ok (.bool (!decide (n = 0))) W := by
  rcases h with ⟨rfl, rfl⟩ | ⟨h0, ss, hC⟩
  · kernel_rfl
  · obtain ⟨t, x, rfl⟩ := hC.iface
    rw [decide_eq_false h0]; exact run_neq_held_nil W 30 t x Tryz.methodsError
/-- num. -/
theorem num_any (n : Int) (v : Value) (w : World) (hL : Laid w) (hE : ErrV w n v) :
    Calls Tryz.prog 12 #[v] w fun e w' => e = .returned (.int .i64 n) ∧ Below w.heap.size w w' := by
  rcases hE with ⟨rfl, rfl⟩ | ⟨h0, ss, hC⟩
  · go_enter Tryz.func12, Tryz.ntmps12
    go_wp2
    go_ret
    exact ⟨rfl, Below.refl _ _⟩
  · obtain ⟨tv, xv, rfl⟩ := hC.iface
    have hnn := hC.notNil
    have hng := hC.guard
    have hb1 := (Below.refl w.heap.size w).alloc (Nat.le_refl _) (.cells #[.int .i64 0] 84)
    go_enter Tryz.func12, Tryz.ntmps12
    go_wp2_with (go_at_call 37; refine (as_number n ss _ (.int .i64 0) ⟨w.heap.size, 0, none⟩ _ (hL.below hL.pos hb1) ((hC.below hb1).mono hb1.size) (by simp) (by simp)).mono ?_; rintro e w1 ⟨rfl, hS⟩; have hr := hS.cell)
    go_ret
    exact ⟨rfl, hb1.trans (hS.below (by simp) (by simp))⟩
end Go.Proofs.YtjkkbceddbkejaaGreatDoor

/-
  Rows of pages: a new row of one page; a page stored into a row.
-/
namespace Go.Proofs.YtjkkbceddbkejaaGreatDoor
open Go.RowKit Sh

theorem fill_page (p : List Value) (hp : IsPage p) (cells : Array Value) (hc : cells.size = 64) : Instr.fill (fun i => some (i * 64, 64)) cells [(0, .agg p.toArray)] = some p.toArray := by
  have h := Great.fill_whole (s := 64) (by omega) [.agg p.toArray] cells (fun v hv => by
    obtain rfl := List.mem_singleton.1 hv
    show p.toArray.size = 64
    rw [List.size_toArray]; exact hp.1) (by rw [hc]; rfl)
  simpa [Value.cells] using h

/-- '[]Page{x}' as an operation: a new block with the page's cells. -/
theorem wp_build_page {o : Oper} {a : Act} {w : World} {K : Act → World → Prop} {Q : Exit → Act → World → Prop} (x : Operand) (ho : o.op = .buildSlice 73 1 #[(0, x)]) (p : List Value) (hp : IsPage p) (hx : a.eval x = .agg p.toArray)
    (h : K (a.put o.dst (.slice (some ⟨w.heap.size, 0, none⟩) 1 1)) (w.alloc (.cells p.toArray 33))) : o.wp Tryz.prog a w K Q := by
  obtain ⟨i, hi, hzz⟩ := Option.map_eq_some_iff.1 infoPage
  simp only [Prod.mk.injEq] at hzz
  obtain ⟨hz, hs, hb⟩ := hzz
  refine wp_buildSlice (P := Tryz.prog) 73 33 1 _ ho p.toArray i (.agg zeros64) Tryz.underlying73 hi hz (by rw [hs]; decide) (by rw [hs]; decide) ?_ h
  rw [hs]
  have hl : ((#[(0, x)] : Array (Nat × Operand)).map fun (i, x) => (i, a.eval x)).toList = [(0, .agg p.toArray)] := by simp [hx]
  rw [hl]
  exact fill_page p hp _ (by simp)

/-- 'cs' laid over 'cur' from 'off' on. -/
theorem splice_page {pgs : List (List Value)} (hP : Pages pgs) (k : Nat) (hk : k < pgs.length) (p : List Value) (hp : IsPage p) : splice pgs.flatten (k * 64) p = (pgs.set k p).flatten := by
  induction pgs generalizing k with
  | nil => simp at hk
  | cons q r ih =>
    have hq := (hP q (by simp)).1
    have hpl := hp.1
    cases k with
    | zero =>
      simp only [splice, Nat.zero_mul, Nat.zero_add, List.flatten_cons, List.set_cons_zero, List.take_zero, List.nil_append]
      rw [hpl, ← hq, List.drop_left]
    | succ k =>
      have := ih (fun x hx => hP x (by simp [hx])) k (by simpa using hk)
      simp only [splice] at this
      simp only [splice, List.flatten_cons, List.set_cons_succ]
      rw [show (k + 1) * 64 = q.length + k * 64 by omega, List.take_length_add_append, show q.length + k * 64 + p.length = q.length + (k * 64 + p.length) by omega, List.drop_length_add_append, ← this]
      simp only [List.append_assoc]

theorem splice_take (cur : List Value) (off m : Nat) (p : List Value) (h : off + p.length ≤ m) (hm : m ≤ cur.length) : (splice cur off p).take m = splice (cur.take m) off p := by
  have hA : (cur.take off).length = off := by rw [List.length_take]; omega
  simp only [splice]
  rw [List.take_append, List.take_of_length_le (i := m) (l := cur.take off) (by rw [hA]; omega), hA, List.take_append, List.take_of_length_le (i := m - off) (l := p) (by omega), List.take_take, Nat.min_eq_left (by omega : off ≤ m), List.drop_take, Nat.sub_sub]

/-- A page stored into an owned row. -/
theorem own_store {w w' : World} {B g n cap : Nat} {e : TypeId} {pgs : List (List Value)} (h : w.ownsRow B e 64 (.slice (some ⟨g, 0, none⟩) n cap) n pgs.flatten) (hP : Pages pgs) (hn : pgs.length = n) (k : Nat) (hk : k < n) (p : List Value) (hp : IsPage p)
    (hst : ∀ cur : List Value, w.heap[g]? = some (.cells cur.toArray e (0, 0)) → w'.heap[g]? = some (.cells (splice cur (k * 64) p).toArray e (0, 0))) :
    w'.ownsRow B e 64 (.slice (some ⟨g, 0, none⟩) n cap) n (pgs.set k p).flatten := by
  have hP' : Pages (pgs.set k p) := fun x hx => by
    rcases List.mem_or_eq_of_mem_set hx with hx | rfl
    · exact hP x hx
    · exact hp
  refine ⟨by rw [flat_length hP', List.length_set, hn], ?_⟩
  rcases h.2 with ⟨_, h0⟩ | ⟨g', cap', cur, hv, hb, hg, hc, hm, hs, ht⟩
  · omega
  · simp only [Value.slice.injEq, Option.some.injEq, Addr.mk.injEq, true_and, and_true] at hv
    obtain ⟨rfl, rfl⟩ := hv
    have hst' := hst cur.toList (by simpa using hg)
    have hcl : cur.toList.length = cap * 64 := by rw [Array.length_toList, hs]
    have hpl := hp.1
    have hkn : k * 64 + 64 ≤ n * 64 := by omega
    have hnc : n * 64 ≤ cap * 64 := by omega
    refine .inr ⟨g, cap, (splice cur.toList (k * 64) p).toArray, rfl, hb, hst', hc, hm, ?_, ?_⟩
    · rw [List.size_toArray]
      simp only [splice, List.length_append, List.length_take, List.length_drop]
      omega
    · rw [List.toList_toArray, ← splice_page hP k (by omega) p hp, ← ht]
      exact splice_take _ _ _ _ (by rw [hpl]; exact hkn) (by rw [hcl]; exact hnc)
end Go.Proofs.YtjkkbceddbkejaaGreatDoor

/-
  The reference's disk: Write.
-/
namespace Go.Proofs.YtjkkbceddbkejaaGreatDoor
open Go.RowKit Sh

section
variable {g : Nat} {vf va vw : Value} {firm what : List (List Value)} {ats : List Int} {fuel : Int} {off : Bool} {w w3 w4 : World}

end
end Go.Proofs.YtjkkbceddbkejaaGreatDoor

/-
  The reference's disk: Write, walked.
-/
namespace Go.Proofs.YtjkkbceddbkejaaGreatDoor
open Go.RowKit Sh

theorem infoInt : (Tryz.prog.info? 3).map (fun i => (i.zero, i.size, i.bytes)) = some (some (.int .i64 0), 1, 8) := by kernel_rfl

theorem step_wp {P : Program} {ops : Array Oper} {o : Oper} {a : Act} {w : World} {K : Act → World → Prop} {Q : Exit → Act → World → Prop} {E : Prop} (hgd : o.guard = none) (h : Oper.wp P o a w K Q) : if Region.wanted o (yielded ops a.tmps) = true then Oper.wp P o a w K Q else E := by
  have hw : Region.wanted o (yielded ops a.tmps) = true := by simp [Region.wanted, hgd]
  rw [if_pos hw]
  exact h
theorem step_quiet {P : Program} {ops : Array Oper} {o : Oper} {a : Act} {w : World} {K : Act → World → Prop} {Q : Exit → Act → World → Prop} {E : Prop} (hgd : o.guard = none) {v : Value} (hrun : (execOp a.eval o).run P w = .ok (.value v) w) (h : K (a.put o.dst v) w) : if Region.wanted o (yielded ops a.tmps) = true then Oper.wp P o a w K Q else E := by
  refine step_wp hgd ?_
  unfold Oper.wp
  rw [hrun]
  exact h
theorem zeros_size : (Value.agg zeros64).cells.size = 64 := by
  show zeros64.size = 64
  unfold zeros64 zeroPage
  rw [List.size_toArray, List.length_replicate]

section
variable {g : Nat} {vf va vw : Value} {firm what : List (List Value)} {ats : List Int} {fuel : Int} {off : Bool} {w : World}

end
end Go.Proofs.YtjkkbceddbkejaaGreatDoor

/-
  The reference's disk: Write where nothing is written.
-/
namespace Go.Proofs.YtjkkbceddbkejaaGreatDoor
open Go.RowKit Sh

section
variable {g : Nat} {vf va vw : Value} {firm what : List (List Value)} {ats : List Int} {fuel : Int} {off : Bool} {w : World}

/-- What Write answers, and leaves of fuel and of being off, where nothing is written. -/
def noWrite (firm : List (List Value)) (fuel : Int) (off : Bool) (i : Int) : Option (Int × Bool × Int) :=
  if off = true then some (fuel, true, 10) else if i < 0 ∨ (firm.length : Int) ≤ i then some (fuel, false, 1) else if fuel = 0 then some (fuel, true, 10) else none

end
end Go.Proofs.YtjkkbceddbkejaaGreatDoor

/-
  The reference's disk: Flush.
-/
namespace Go.Proofs.YtjkkbceddbkejaaGreatDoor
open Go.RowKit Sh

theorem wpStill_val {P : Program} {ops : Array Oper} {w : World} {Q : Act → Prop} {a : Act} {o : Oper} {rest : List Oper} (hg : o.guard = none) {v : Value} (hrun : (execOp a.eval o).run P w = .ok (.value v) w)
    (h : wpStill P ops w Q rest (a.put o.dst v)) : wpStill P ops w Q (o :: rest) a := by
  have hw : Region.wanted o (yielded ops a.tmps) = true := by simp [Region.wanted, hg]
  unfold wpStill
  rw [if_pos hw]
  unfold Oper.still
  rw [hrun, Oper.stillUpon_value]
  exact h

/-- A whole array stored into a row that is known whole. -/
theorem wpList_store_into {P : Program} {ops : Array Oper} {rest : List Oper} {o : Oper} {a : Act} {w : World} {Q : Exit → Act → World → Prop} (hgd : o.guard = none) (ty : TypeId) (x y : Operand)
    (ho : o.op = .store ty x y) (g off : Nat) (cells : Array Value) (hx : a.eval x = .pointer (some ⟨g, off, none⟩)) (hy : a.eval y = .agg cells) (cur : List Value) (t : TypeId) (hg : w.heap[g]? = some (.cells cur.toArray t (0, 0)))
    (hi : (P.info? ty).map (·.size) = some cells.size) (hfit : off + cells.size ≤ cur.length) (h1 : ∀ v ∈ cells.toList, v.oneCell' = true)
    (h : ∀ w', Hid (w'.heap[g]? = some (.cells (splice cur off cells.toList).toArray t (0, 0))) → Hid (w.grownBy w' (some g)) → wpList P ops Q rest (a.put o.dst undef) w') : wpList P ops Q (o :: rest) a w :=
  wpList_plain hgd fun K hK => by
    have hst := run_storeCells_at P g off t cells.toList 0 cur.toArray w hg (by simpa using hfit) h1
    have hrun : (storeVar ty ⟨g, off, none⟩ (.agg cells)).run P w = .ok () (w.setRow g (splice cur off cells.toList).toArray) := by
      cases hq : P.info? ty with
      | none => simp [hq] at hi
      | some i =>
        have hs : cells.size = i.size := by simp [hq] at hi; omega
        simp only [Nat.add_zero] at hst
        simp [storeVar, sizeOf, typeInfo, hq, Value.cells, hs, hst, splice]
    unfold Oper.wp execOp
    simp only [ho, hx, hy, Instr.storeAt, Instr.sureAddr, Sem.run_bind, Sem.run_pure, Result.andThen_ok, hrun]
    exact hK _ _ (h _ (setRow_heap w g _ _ t _ hg) ⟨rfl, rfl, rfl, by simp, fun k _ hne => setRow_other w g k _ (fun e => hne (by rw [e]))⟩)

/-- Firm is what was pending. -/
def flushS : List (List Value) → List Int → List (List Value) → List (List Value)
  | firm, a :: xs, p :: ys => flushS (firm.set a.toNat p) xs ys
  | firm, _, _ => firm

section
variable {g : Nat} {vf va vw : Value} {firm what : List (List Value)} {ats : List Int} {fuel : Int} {off : Bool} {w w' : World}

theorem Only.drew {F : Nat → Prop} {w w' : World} (h : Only F w w') : Only F w { w' with drawn := w'.drawn + 1 } :=
  h.trans (Only.of_grown (F := fun _ => False) (w' := { w' with drawn := w'.drawn + 1 }) (row := none) ⟨rfl, rfl, rfl, Nat.le_refl _, fun _ _ _ => rfl⟩ (fun _ e => by simp at e)) (fun _ e => e.elim)

end
end Go.Proofs.YtjkkbceddbkejaaGreatDoor

/-
  The reference's disk: Flush where nothing is flushed.
-/
namespace Go.Proofs.YtjkkbceddbkejaaGreatDoor
open Go.RowKit Sh

section
variable {g : Nat} {vf va vw : Value} {firm what : List (List Value)} {ats : List Int} {fuel : Int} {off : Bool} {w : World}

end
end Go.Proofs.YtjkkbceddbkejaaGreatDoor

/-
  The reference's disk: Crash.
-/
namespace Go.Proofs.YtjkkbceddbkejaaGreatDoor
open Go.RowKit Sh

/-- What is left behind a crash: the firm pages, and of the pending ones the picked. -/
def crashS : Nat → List (List Value) → List Int → List (List Value) → List Int → List (List Value)
  | k, firm, a :: xs, p :: ys, pick => crashS (k + 1) (if (k : Int) ∈ pick then firm.set a.toNat p else firm) xs ys pick
  | _, firm, _, _, _ => firm

/-- A slice's numbers, wherever it lies below block N. -/
def Nums (N : Nat) (w : World) (bp : Option Addr) (xs : List Int) : Prop := xs = [] ∨ ∃ b o, bp = some ⟨b, o, none⟩ ∧ b < N ∧ ∀ (j : Nat) (v : Int), xs[j]? = some v → w.cell? ⟨b, o + j, none⟩ = some (.int .i64 v)
theorem Nums.below {N : Nat} {w w' : World} {bp : Option Addr} {xs : List Int} (h : Nums N w bp xs) (hb : Below N w w') : Nums N w' bp xs :=
  h.imp id (fun ⟨b, o, h1, h2, h3⟩ => ⟨b, o, h1, h2, fun j v hj => (hb.cell (p := ⟨b, o + j, none⟩) h2).trans (h3 j v hj)⟩)
theorem Nums.mono {N N' : Nat} {w : World} {bp : Option Addr} {xs : List Int} (h : Nums N w bp xs) (hN : N ≤ N') : Nums N' w bp xs :=
  h.imp id (fun ⟨b, o, h1, h2, h3⟩ => ⟨b, o, h1, by omega, h3⟩)

section
variable {g : Nat} {vf va vw : Value} {firm what : List (List Value)} {ats pick : List Int} {fuel : Int} {off : Bool} {w : World}

end
end Go.Proofs.YtjkkbceddbkejaaGreatDoor
