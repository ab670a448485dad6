import Derived.Test.YtegdlpllljccgaaDoorProg
import Derived.WalkKit
import Derived.LaidEql
import Derived.Stop.Asserts
import Derived.RowKitTokens
import Derived.Lib.IfaceEq
import Derived.Below
import Derived.Deep.LoopGhost
import Derived.Lib.Hide
import Derived.IntWalk
import Derived.Laws.OwnMore
import Derived.Deep.MidRow
import Derived.Test.YtegdlpllljccgaaDoorJSha
import Derived.Laws.ResultCell
import Derived.Deep.AppendLies
import Derived.Laws.Rows
import Derived.Laws.Tables
import Derived.Laws.CopyOwn
import Derived.Deep.OwnRows
import Derived.Great.BuildSlice
import Derived.RegionTactic
import Derived.StillTail
/-
  Closed facts on reflection's entries, at the types that errors.As and errors.Is meet here; the laws on its entries that read or write memory.
-/
namespace Go.Proofs.YtegdlpllljccgaaDoor
open Go.RowKit Go.Extern.Stop Go.Stop Go.Extern

/-! A pointer to an Errno's variable, and a pointer to a Woe's variable, as targets. -/
theorem Tryd.valueOfN (t : Addr) (w : World) : (ReflectliteValue.unpack (.iface 105 (.pointer (some t)))).run Tryd.prog w
    = .ok (.agg #[.pointer (some ⟨1, 105, none⟩), .pointer (some ⟨w.heap.size, 0, none⟩), .int .u64 150]) (w.alloc (.cells #[.pointer (some t)] 105)) := by kernel_rfl
theorem Tryd.valueOfE (n : Int) (w : World) : (ReflectliteValue.unpack (.iface 93 (.int .i64 n))).run Tryd.prog w
    = .ok (.agg #[.pointer (some ⟨1, 93, none⟩), .pointer (some ⟨w.heap.size, 0, none⟩), .int .u64 130]) (w.alloc (.cells #[.int .i64 n] 93)) := by kernel_rfl
theorem Tryd.valueOfP (p : Addr) (w : World) : (ReflectliteValue.unpack (.iface 126 (.pointer (some p)))).run Tryd.prog w
    = .ok (.agg #[.pointer (some ⟨1, 126, none⟩), .pointer (some ⟨w.heap.size, 0, none⟩), .int .u64 150]) (w.alloc (.cells #[.pointer (some p)] 126)) := by kernel_rfl
theorem Tryd.typeN (a : Addr) (w : World) : (ReflectliteValue.methodAny (ReflectliteValue.valueError "reflectlite.Value.Type" 0) (fun t _ _ _ => ReflectliteType.toType t) #[.agg #[.pointer (some ⟨1, 105, none⟩), .pointer (some a), .int .u64 150]]).run Tryd.prog w
    = .ok (.iface 160 (.agg #[.pointer (some ⟨1, 105, none⟩)])) w := by kernel_rfl
theorem Tryd.methodKind (h : Value) (w : World) : (Go.method 320 160 (.agg #[h]) "Kind").run Tryd.prog w = .ok (107, h) w := by kernel_rfl
theorem Tryd.methodElem (h : Value) (w : World) : (Go.method 320 160 (.agg #[h]) "Elem").run Tryd.prog w = .ok (122, .agg #[h]) w := by kernel_rfl
theorem Tryd.methodImplements (h : Value) (w : World) : (Go.method 320 160 (.agg #[h]) "Implements").run Tryd.prog w = .ok (123, .agg #[h]) w := by kernel_rfl
theorem Tryd.methodAssignableTo (h : Value) (w : World) : (Go.method 320 160 (.agg #[h]) "AssignableTo").run Tryd.prog w = .ok (120, .agg #[h]) w := by kernel_rfl
theorem Tryd.methodComparable (v : Value) (w : World) : (Go.method 320 160 v "Comparable").run Tryd.prog w = .ok (121, v) w := by kernel_rfl
theorem Tryd.methodUnwrap (v : Value) (w : World) : (Go.method 320 126 v "Unwrap").run Tryd.prog w = .ok (115, v) w := by kernel_rfl
theorem Tryd.kindN (w : World) : ((ReflectliteType.abiMethod fun t => (fun a : Nat => Value.int IntKind.u8 (a : Int)) <$> Rtype.kind t) #[.pointer (some ⟨1, 105, none⟩)]).run Tryd.prog w = .ok (.int .u8 22) w := by kernel_rfl
theorem Tryd.kindE (w : World) : ((ReflectliteType.abiMethod fun t => (fun a : Nat => Value.int IntKind.u8 (a : Int)) <$> Rtype.kind t) #[.pointer (some ⟨1, 93, none⟩)]).run Tryd.prog w = .ok (.int .u8 2) w := by kernel_rfl
theorem Tryd.kindP (w : World) : ((ReflectliteType.abiMethod fun t => (fun a : Nat => Value.int IntKind.u8 (a : Int)) <$> Rtype.kind t) #[.pointer (some ⟨1, 126, none⟩)]).run Tryd.prog w = .ok (.int .u8 22) w := by kernel_rfl
theorem Tryd.elemN (w : World) : (ReflectliteType.method ReflectliteType.elem #[.agg #[.pointer (some ⟨1, 105, none⟩)]]).run Tryd.prog w = .ok (.iface 160 (.agg #[.pointer (some ⟨1, 93, none⟩)])) w := by kernel_rfl
theorem Tryd.implementsE (w : World) : (ReflectliteType.relation "Implements" ReflectliteType.implements_ #[.agg #[.pointer (some ⟨1, 93, none⟩)], .iface 160 (.agg #[.pointer (some ⟨1, 32, none⟩)])]).run Tryd.prog w = .ok (.bool true) w := by kernel_rfl
theorem Tryd.implementsP (w : World) : (ReflectliteType.relation "Implements" ReflectliteType.implements_ #[.agg #[.pointer (some ⟨1, 126, none⟩)], .iface 160 (.agg #[.pointer (some ⟨1, 32, none⟩)])]).run Tryd.prog w = .ok (.bool true) w := by kernel_rfl
theorem Tryd.typeOfE (v : Value) (w : World) : (ReflectliteType.typeOf #[.iface 93 v]).run Tryd.prog w = .ok (.iface 160 (.agg #[.pointer (some ⟨1, 93, none⟩)])) w := by kernel_rfl
theorem Tryd.typeOfP (v : Value) (w : World) : (ReflectliteType.typeOf #[.iface 126 v]).run Tryd.prog w = .ok (.iface 160 (.agg #[.pointer (some ⟨1, 126, none⟩)])) w := by kernel_rfl
theorem Tryd.assignEE (w : World) : (ReflectliteType.relation "AssignableTo" ReflectliteType.assignableTo #[.agg #[.pointer (some ⟨1, 93, none⟩)], .iface 160 (.agg #[.pointer (some ⟨1, 93, none⟩)])]).run Tryd.prog w = .ok (.bool true) w := by kernel_rfl
theorem Tryd.assignPP (w : World) : (ReflectliteType.relation "AssignableTo" ReflectliteType.assignableTo #[.agg #[.pointer (some ⟨1, 126, none⟩)], .iface 160 (.agg #[.pointer (some ⟨1, 126, none⟩)])]).run Tryd.prog w = .ok (.bool true) w := by kernel_rfl
theorem Tryd.assignPE (w : World) : (ReflectliteType.relation "AssignableTo" ReflectliteType.assignableTo #[.agg #[.pointer (some ⟨1, 126, none⟩)], .iface 160 (.agg #[.pointer (some ⟨1, 93, none⟩)])]).run Tryd.prog w = .ok (.bool false) w := by kernel_rfl
theorem Tryd.assignEP (w : World) : (ReflectliteType.relation "AssignableTo" ReflectliteType.assignableTo #[.agg #[.pointer (some ⟨1, 93, none⟩)], .iface 160 (.agg #[.pointer (some ⟨1, 126, none⟩)])]).run Tryd.prog w = .ok (.bool false) w := by kernel_rfl

/-! The entries that read or write memory. -/
theorem Tryd.partsN (a : Addr) (w : World) : (ReflectliteValue.parts (.agg #[.pointer (some ⟨1, 105, none⟩), .pointer (some a), .int .u64 150])).run Tryd.prog w = .ok (some (105, a, 150)) w := by kernel_rfl
theorem Tryd.isNilN (a p : Addr) (W : World) (ha : W.cell? a = some (.pointer (some p))) :
    (ReflectliteValue.method (ReflectliteValue.valueError "reflectlite.Value.IsNil" 0) ReflectliteValue.isNil #[.agg #[.pointer (some ⟨1, 105, none⟩), .pointer (some a), .int .u64 150]]).run Tryd.prog W = .ok (.bool false) W := by
  change Sem.run Tryd.prog (bind (ReflectliteValue.parts (.agg #[.pointer (some ⟨1, 105, none⟩), .pointer (some a), .int .u64 150])) fun _ => _) W = _
  simp only [Sem.run_bind, Tryd.partsN, Result.andThen]
  simp [ReflectliteValue.isNil, loadVar, isAgg, underlying, Tryd.underlying105, ha, Result.andThen]
theorem Tryd.elemOfN (w : World) : (Rtype.elem? 105).run Tryd.prog w = .ok (some 93) w := by kernel_rfl
theorem Tryd.mkE (p : Addr) (w : World) : (ReflectliteValue.mk 93 p ReflectliteValue.flagAddr).run Tryd.prog w = .ok (.agg #[.pointer (some ⟨1, 93, none⟩), .pointer (some p), .int .u64 386]) w := by kernel_rfl
theorem Tryd.mkP (p : Addr) (w : World) : (ReflectliteValue.mk 126 p ReflectliteValue.flagAddr).run Tryd.prog w = .ok (.agg #[.pointer (some ⟨1, 126, none⟩), .pointer (some p), .int .u64 406]) w := by kernel_rfl
theorem Tryd.elemVN (a p : Addr) (W : World) (ha : W.cell? a = some (.pointer (some p))) :
    (ReflectliteValue.method (ReflectliteValue.valueError "reflectlite.Value.Elem" 0) ReflectliteValue.elem #[.agg #[.pointer (some ⟨1, 105, none⟩), .pointer (some a), .int .u64 150]]).run Tryd.prog W
      = .ok (.agg #[.pointer (some ⟨1, 93, none⟩), .pointer (some p), .int .u64 386]) W := by
  change Sem.run Tryd.prog (bind (ReflectliteValue.parts (.agg #[.pointer (some ⟨1, 105, none⟩), .pointer (some a), .int .u64 150])) fun _ => _) W = _
  simp only [Sem.run_bind, Tryd.partsN, Result.andThen]
  simp [ReflectliteValue.elem, loadVar, isAgg, underlying, Tryd.underlying105, ha, Result.andThen, Tryd.elemOfN, Tryd.mkE]
theorem Tryd.partsEa (a : Addr) (w : World) : (ReflectliteValue.parts (.agg #[.pointer (some ⟨1, 93, none⟩), .pointer (some a), .int .u64 386])).run Tryd.prog w = .ok (some (93, a, 386)) w := by kernel_rfl
theorem Tryd.partsE (a : Addr) (w : World) : (ReflectliteValue.parts (.agg #[.pointer (some ⟨1, 93, none⟩), .pointer (some a), .int .u64 130])).run Tryd.prog w = .ok (some (93, a, 130)) w := by kernel_rfl
theorem Tryd.partsPa (a : Addr) (w : World) : (ReflectliteValue.parts (.agg #[.pointer (some ⟨1, 126, none⟩), .pointer (some a), .int .u64 406])).run Tryd.prog w = .ok (some (126, a, 406)) w := by kernel_rfl
theorem Tryd.partsP (a : Addr) (w : World) : (ReflectliteValue.parts (.agg #[.pointer (some ⟨1, 126, none⟩), .pointer (some a), .int .u64 150])).run Tryd.prog w = .ok (some (126, a, 150)) w := by kernel_rfl
theorem Tryd.directE (w : World) : (Rtype.directlyAssignable 93 93).run Tryd.prog w = .ok true w := by kernel_rfl
theorem Tryd.directP (w : World) : (Rtype.directlyAssignable 126 126).run Tryd.prog w = .ok true w := by kernel_rfl
theorem Tryd.sizeE (w : World) : (sizeOf 93).run Tryd.prog w = .ok 1 w := by kernel_rfl
theorem Tryd.sizeP (w : World) : (sizeOf 126).run Tryd.prog w = .ok 1 w := by kernel_rfl
theorem Tryd.setE (ta b : Addr) (n : Int) (old : Value) (W : World) (hb : W.cell? b = some (.int .i64 n)) (ht : W.cell? ta = some old) (hf : W.frozen? ta = false) :
    (ReflectliteValue.set #[.agg #[.pointer (some ⟨1, 93, none⟩), .pointer (some ta), .int .u64 386], .agg #[.pointer (some ⟨1, 93, none⟩), .pointer (some b), .int .u64 130]]).run Tryd.prog W
      = .ok (.tuple #[]) (W.setCell ta (.int .i64 n)) := by
  change Sem.run Tryd.prog (bind (ReflectliteValue.parts (.agg #[.pointer (some ⟨1, 93, none⟩), .pointer (some ta), .int .u64 386])) fun _ => bind (ReflectliteValue.parts (.agg #[.pointer (some ⟨1, 93, none⟩), .pointer (some b), .int .u64 130])) fun _ => _) W = _
  simp only [Sem.run_bind, Tryd.partsEa, Tryd.partsE, Result.andThen]
  simp [ReflectliteValue.flagAddr, loadVar, isAgg, underlying, Tryd.underlying93, hb, Result.andThen, Tryd.directE, storeVar, Value.cells, storeCells, Addr.add]
  rw [run_store Tryd.prog W ta _ _ (by rfl)]
  simp [ht, hf]
theorem Tryd.setP (ta b e : Addr) (old : Value) (W : World) (hb : W.cell? b = some (.pointer (some e))) (ht : W.cell? ta = some old) (hf : W.frozen? ta = false) :
    (ReflectliteValue.set #[.agg #[.pointer (some ⟨1, 126, none⟩), .pointer (some ta), .int .u64 406], .agg #[.pointer (some ⟨1, 126, none⟩), .pointer (some b), .int .u64 150]]).run Tryd.prog W
      = .ok (.tuple #[]) (W.setCell ta (.pointer (some e))) := by
  change Sem.run Tryd.prog (bind (ReflectliteValue.parts (.agg #[.pointer (some ⟨1, 126, none⟩), .pointer (some ta), .int .u64 406])) fun _ => bind (ReflectliteValue.parts (.agg #[.pointer (some ⟨1, 126, none⟩), .pointer (some b), .int .u64 150])) fun _ => _) W = _
  simp only [Sem.run_bind, Tryd.partsPa, Tryd.partsP, Result.andThen]
  simp [ReflectliteValue.flagAddr, loadVar, isAgg, underlying, Tryd.underlying126, hb, Result.andThen, Tryd.directP, storeVar, Value.cells, storeCells, Addr.add]
  rw [run_store Tryd.prog W ta _ _ (by rfl)]
  simp [ht, hf]

/-! What assertions on the two kinds of errors find. -/
theorem Tryd.noAsE (v : Value) (xT : TypeId) (w : World) : (Instr.typeAssert (.iface 93 v) xT 165 true).run Tryd.prog w = .ok (.tuple #[.nilIface, .bool false]) w := run_typeAssert_lacksB Tryd.underlying165 (by kernel_rfl) (by kernel_rfl) v xT w
theorem Tryd.noUnwrapE (v : Value) (xT : TypeId) (w : World) : (Instr.typeAssert (.iface 93 v) xT 168 true).run Tryd.prog w = .ok (.tuple #[.nilIface, .bool false]) w := run_typeAssert_lacksB Tryd.underlying168 (by kernel_rfl) (by kernel_rfl) v xT w
theorem Tryd.noUnwrapsE (v : Value) (xT : TypeId) (w : World) : (Instr.typeAssert (.iface 93 v) xT 169 true).run Tryd.prog w = .ok (.tuple #[.nilIface, .bool false]) w := run_typeAssert_lacksB Tryd.underlying169 (by kernel_rfl) (by kernel_rfl) v xT w
theorem Tryd.noAsP (v : Value) (xT : TypeId) (w : World) : (Instr.typeAssert (.iface 126 v) xT 165 true).run Tryd.prog w = .ok (.tuple #[.nilIface, .bool false]) w := run_typeAssert_lacksB Tryd.underlying165 (by kernel_rfl) (by kernel_rfl) v xT w
theorem Tryd.hasUnwrapP (v : Value) (xT : TypeId) (w : World) : (Instr.typeAssert (.iface 126 v) xT 168 true).run Tryd.prog w = .ok (.tuple #[.iface 126 v, .bool true]) w := run_typeAssert_hasB Tryd.underlying168 (by kernel_rfl) v xT w

/-! '==' of errors. -/
theorem Tryd.eqlEE (a b : Int) (w : World) : (binOp .eql 32 (.iface 93 (.int .i64 a)) (.iface 93 (.int .i64 b))).run Tryd.prog w = .ok (.bool (a == b)) w := Go.Lib.run_eql_iface_int w a b Tryd.underlying32 (by kernel_rfl) Tryd.underlying93
theorem Tryd.eqlPE (v x : Value) (w : World) : (binOp .eql 32 (.iface 126 v) (.iface 93 x)).run Tryd.prog w = .ok (.bool false) w := run_eql_iface_types _ _ _ _ Tryd.underlying32 (by decide) w
end Go.Proofs.YtegdlpllljccgaaDoor

/-
  What In makes of an Errno: a chain in memory; In, Unwrap, errors.Unwrap by their contracts.
-/
namespace Go.Proofs.YtegdlpllljccgaaDoor
open Go.RowKit Go.Extern.Stop Go.Stop Go.Extern

/-- v is the error that was made of the Errno n in the places ss, the outermost first; all of it lies below block N. -/
def Chain (N : Nat) (w : World) (n : Int) : List ByteArray → Value → Prop
  | [], v => v = .iface 93 (.int .i64 n)
  | s :: r, v => ∃ (b : Nat) (x : Value), v = .iface 126 (.pointer (some ⟨b, 0, none⟩)) ∧ b < N ∧ w.cell? ⟨b, 0, none⟩ = some (.string s) ∧ w.cell? ⟨b, 1, none⟩ = some x ∧ Chain N w n r x

theorem Chain.below {N : Nat} {w w' : World} {n : Int} (hb : Below N w w') : ∀ {ss : List ByteArray} {v : Value}, Chain N w n ss v → Chain N w' n ss v
  | [], _, h => h
  | _ :: _, _, ⟨b, x, hv, hlt, h0, h1, hr⟩ => ⟨b, x, hv, hlt, by rw [hb.cell (p := ⟨b, 0, none⟩) hlt]; exact h0, by rw [hb.cell (p := ⟨b, 1, none⟩) hlt]; exact h1, Chain.below hb hr⟩
theorem Chain.mono {N N' : Nat} {w : World} {n : Int} (hN : N ≤ N') : ∀ {ss : List ByteArray} {v : Value}, Chain N w n ss v → Chain N' w n ss v
  | [], _, h => h
  | _ :: _, _, ⟨b, x, hv, hlt, h0, h1, hr⟩ => ⟨b, x, hv, by omega, h0, h1, Chain.mono hN hr⟩
/-- An error is one or the other. -/
theorem Chain.kind {N : Nat} {w : World} {n : Int} {ss : List ByteArray} {v : Value} (h : Chain N w n ss v) : (∃ a, v = .iface 93 (.int .i64 a)) ∨ ∃ b, v = .iface 126 (.pointer (some ⟨b, 0, none⟩)) := by
  cases ss with
  | nil => exact .inl ⟨n, h⟩
  | cons s r => obtain ⟨b, x, hv, _⟩ := h; exact .inr ⟨b, hv⟩

theorem Tryd.methodsError : Tryd.prog.underlying 32 = some (.interface (Tryd.prog.methodsAt 32)) := by kernel_rfl

theorem in_nil (s : ByteArray) (w : World) : Calls Tryd.prog 37 #[.string s, .nilIface] w fun e w' => e = .returned .nilIface ∧ w' = w := by
  go_enter Tryd.func37, Tryd.ntmps37
  go_wp2
  go_ret
  exact ⟨rfl, rfl⟩

/-- What was made, once more. -/
def MorePost (N : Nat) (n : Int) (ss : List ByteArray) (w : World) (e : Ending) (w' : World) : Prop := ∃ v, e = .returned v ∧ Chain w'.heap.size w' n ss v ∧ Below N w w'

theorem in_held (s : ByteArray) (t : TypeId) (x : Value) (w : World) : Calls Tryd.prog 37 #[.string s, .iface t x] w fun e w' => e = .returned (.iface 126 (.pointer (some ⟨w.heap.size, 0, none⟩))) ∧ w' = w.alloc (.cells #[.string s, .iface t x] 128) := by
  have hq : ∀ w : World, (binOp .eql 32 (.iface t x) .nilIface).run Tryd.prog w = .ok (.bool false) w := fun w => run_eql_held_nil w 32 t x Tryd.methodsError
  go_enter Tryd.func37, Tryd.ntmps37
  go_wp2
  go_ret
  exact ⟨rfl, rfl⟩

theorem in_chain (s : ByteArray) (n : Int) (ss : List ByteArray) (v : Value) (w : World) (h : Chain w.heap.size w n ss v) : Calls Tryd.prog 37 #[.string s, v] w (MorePost w.heap.size n (s :: ss) w) := by
  have key : ∀ (t : TypeId) (x : Value), v = .iface t x → Calls Tryd.prog 37 #[.string s, v] w (MorePost w.heap.size n (s :: ss) w) := fun t x hv => by
    subst hv
    refine (in_held s t x w).mono ?_
    rintro e w' ⟨rfl, rfl⟩
    have hb : Below w.heap.size w (w.alloc (.cells #[.string s, .iface t x] 128)) := (Below.refl _ w).alloc (Nat.le_refl _) _
    exact ⟨_, rfl, ⟨w.heap.size, _, rfl, by simp, by simp, by simp, (h.below hb).mono hb.size⟩, hb⟩
  rcases h.kind with ⟨a, ha⟩ | ⟨b, hb⟩
  · exact key _ _ ha
  · exact key _ _ hb

/-- (*Woe).Unwrap of what In made. -/
theorem unwrap_at (b : Nat) (x : Value) (w : World) (h1 : w.cell? ⟨b, 1, none⟩ = some x) : Calls Tryd.prog 115 #[.pointer (some ⟨b, 0, none⟩)] w fun e w' => e = .returned x ∧ w' = w := by
  go_enter Tryd.func115, Tryd.ntmps115
  go_wp2
  go_ret
  exact ⟨rfl, rfl⟩
theorem unwrap_nil (w : World) : Calls Tryd.prog 115 #[.pointer none] w fun e w' => e = .returned .nilIface ∧ w' = w := by
  go_enter Tryd.func115, Tryd.ntmps115
  go_wp2
  go_ret
  exact ⟨rfl, rfl⟩

end Go.Proofs.YtegdlpllljccgaaDoor

/-
  errors.as and errors.As over a chain, at the two targets: an Errno's variable and a Woe's.
-/
namespace Go.Proofs.YtegdlpllljccgaaDoor
open Go.RowKit Go.Extern.Stop Go.Stop Go.Extern

/-- The variable at t was set to x; no other block that was there has turned. -/
structure Sets (t : Addr) (x : Value) (w w' : World) : Prop where
  grown : w.grownBy w' (some t.block)
  cell : w'.cell? t = some x
  thaw : w'.frozen? t = false

theorem Sets.of_below {t : Addr} {x old : Value} {w w2 : World} (h : Below w.heap.size w w2) (hc : w2.cell? t = some old) (hf : w2.frozen? t = false) : Sets t x w (w2.setCell t x) :=
  ⟨⟨h.os, h.tape, h.output, by simpa [World.setCell] using h.size, fun k hk hne => by rw [Below.heap_setCell _ _ _ _ (fun e => hne (by rw [e]))]; exact h.block k hk⟩, World.cell?_setCell_same' _ _ _ (by simp [hc]), by simpa using hf⟩
theorem Sets.after {t : Addr} {x : Value} {w w1 w' : World} (h : Below w.heap.size w w1) (hs : Sets t x w1 w') : Sets t x w w' :=
  ⟨⟨hs.grown.os.trans h.os, hs.grown.tape.trans h.tape, hs.grown.output.trans h.output, Nat.le_trans h.size hs.grown.size, fun k hk hne => (hs.grown.block k (Nat.lt_of_lt_of_le hk h.size) hne).trans (h.block k hk)⟩, hs.cell, hs.thaw⟩
theorem Sets.below {t : Addr} {x : Value} {w w' : World} {B : Nat} (hs : Sets t x w w') (hB : B ≤ w.heap.size) (ht : B ≤ t.block) : Below B w w' :=
  ⟨hs.grown.os, hs.grown.tape, hs.grown.output, hs.grown.size, fun k hk => hs.grown.block k (by omega) (by simp; omega)⟩

/-- Where errors.errorType lies. -/
def Laid (w : World) : Prop := w.cell? ⟨0, 0, none⟩ = some (.iface 160 (.agg #[.pointer (some ⟨1, 32, none⟩)]))
theorem Laid.pos {w : World} (h : Laid w) : 0 < w.heap.size := World.block_lt_of_cell? w _ h
theorem Laid.below {N : Nat} {w w' : World} (h : Laid w) (hN : 0 < N) (hb : Below N w w') : Laid w' := (hb.cell (p := ⟨0, 0, none⟩) hN).trans h


theorem Chain.notNil {N : Nat} {w : World} {n : Int} {ss : List ByteArray} {v : Value} (h : Chain N w n ss v) (W : World) : (binOp .eql 32 v .nilIface).run Tryd.prog W = .ok (.bool false) W := by
  rcases h.kind with ⟨a, rfl⟩ | ⟨b, rfl⟩
  · exact run_eql_held_nil W 32 _ _ Tryd.methodsError
  · exact run_eql_held_nil W 32 _ _ Tryd.methodsError

theorem Chain.guard {N : Nat} {w : World} {n : Int} {ss : List ByteArray} {v : Value} (h : Chain N w n ss v) (o1 o2 : Operand) : eqGuard .eql 32 o1 o2 v .nilIface = pure () := by
  rcases h.kind with ⟨a, rfl⟩ | ⟨b, rfl⟩ <;> rfl

set_option maxRecDepth 100000 in
set_option maxHeartbeats 4000000 in
theorem eas_number (n : Int) (ss : List ByteArray) (v old : Value) (t a : Addr) (w : World) (hC : Chain w.heap.size w n ss v) (ha : w.cell? a = some (.pointer (some t))) (ht : w.cell? t = some old) (hf : w.frozen? t = false) :
    Calls Tryd.prog 63 #[v, .iface 105 (.pointer (some t)), .agg #[.pointer (some ⟨1, 105, none⟩), .pointer (some a), .int .u64 150], .iface 160 (.agg #[.pointer (some ⟨1, 93, none⟩)])] w
      fun e w' => e = .returned (.bool true) ∧ Sets t (.int .i64 n) w w' := by
  have hal := World.block_lt_of_cell? w _ ha
  have htl := World.block_lt_of_cell? w _ ht
  have h28 := @run_callFunc_extern Tryd.prog 77 _ ReflectliteType.typeOf Tryd.func77 (by kernel_rfl) (by kernel_rfl) (by kernel_rfl) (by kernel_rfl)
  have h35 := @run_callFunc_extern Tryd.prog 120 _ (ReflectliteType.relation "AssignableTo" ReflectliteType.assignableTo) Tryd.func120 (by kernel_rfl) (by kernel_rfl) (by kernel_rfl) (by kernel_rfl)
  have h36 := @run_callFunc_extern Tryd.prog 78 _ (ReflectliteValue.method (ReflectliteValue.valueError "reflectlite.Value.Elem" 0) ReflectliteValue.elem) Tryd.func78 (by kernel_rfl) (by kernel_rfl) (by kernel_rfl) (by kernel_rfl)
  have h24 := @run_callFunc_extern Tryd.prog 60 _ (fun args => ReflectliteValue.unpack (args.getD 0 (.tuple #[]))) Tryd.func60 (by kernel_rfl) (by kernel_rfl) (by kernel_rfl) (by kernel_rfl)
  have h37 := @run_callFunc_extern Tryd.prog 79 _ ReflectliteValue.set Tryd.func79 (by kernel_rfl) (by kernel_rfl) (by kernel_rfl) (by kernel_rfl)
  have tE := Tryd.typeOfE
  have tP := Tryd.typeOfP
  have mA := Tryd.methodAssignableTo
  have aE := Tryd.assignEE
  have aP := Tryd.assignPE
  have vE := Tryd.valueOfE
  have nP := Tryd.noAsP
  have uP := Tryd.hasUnwrapP
  have mU := Tryd.methodUnwrap
  obtain ⟨W1, hW1⟩ : ∃ W1, W1 = w.alloc (.cells #[.pointer (some ⟨1, 105, none⟩), .pointer (some a), .int .u64 150] 136) := ⟨_, rfl⟩
  have hb1 : Below w.heap.size w W1 := by rw [hW1]; exact (Below.refl _ w).alloc (Nat.le_refl _) _
  have hC1 := hC.below hb1
  go_enter Tryd.func63, Tryd.ntmps63
  go_wp2
  rw [← hW1]
  have HW1 := Lib.hid hW1
  clear hW1
  go_loopg [0] ss.length (fun g v wr => ∃ rs : List ByteArray, g = rs.length ∧ wr = W1 ∧ Chain w.heap.size W1 n rs v)
  case atStart => exact ⟨ss, rfl, rfl, hC1⟩
  case round =>
    clear hC hC1
    obtain ⟨rs, rfl, rfl, hC⟩ := hrel
    cases rs with
    | nil =>
      obtain rfl := hC
      obtain rfl := HW1.out
      have e1 := Tryd.elemVN a t _ (by rw [hb1.cell hal]; exact ha)
      have hb2 := hb1.alloc (by simp) (.cells #[.int .i64 n] 93)
      have ht2 := (hb2.cell htl).trans ht
      have hf2 := (hb2.frozen htl).trans hf
      have s1 := Tryd.setE t ⟨w.heap.size + 1, 0, none⟩ n old _ (by simp) ht2 hf2
      go_wp2
      go_ret
      exact ⟨rfl, Sets.of_below hb2 ht2 hf2⟩
    | cons s r =>
      obtain ⟨b, x, rfl, hlt, hc0, hc1, hC⟩ := hC
      have hnn := hC.notNil
      have hng := hC.guard
      go_wp2_with (go_at_call 115; refine (unwrap_at b x _ hc1).mono ?_; rintro e w' ⟨rfl, rfl⟩)
      go_roundg (r.length)
      case measure => simp
      case rel => exact ⟨r, rfl, rfl, hC⟩

/-- errors.As with an Errno's variable as target. -/
theorem as_number (n : Int) (ss : List ByteArray) (v old : Value) (t : Addr) (w : World) (hL : Laid w) (hC : Chain w.heap.size w n ss v) (ht : w.cell? t = some old) (hf : w.frozen? t = false) :
    Calls Tryd.prog 43 #[v, .iface 105 (.pointer (some t))] w fun e w' => e = .returned (.bool true) ∧ Sets t (.int .i64 n) w w' := by
  have htl := World.block_lt_of_cell? w _ ht
  have h24 := @run_callFunc_extern Tryd.prog 60 _ (fun args => ReflectliteValue.unpack (args.getD 0 (.tuple #[]))) Tryd.func60 (by kernel_rfl) (by kernel_rfl) (by kernel_rfl) (by kernel_rfl)
  have h25 := @run_callFunc_extern Tryd.prog 61 _ (ReflectliteValue.methodAny (ReflectliteValue.valueError "reflectlite.Value.Type" 0) (fun t _ _ _ => ReflectliteType.toType t)) Tryd.func61 (by kernel_rfl) (by kernel_rfl) (by kernel_rfl) (by kernel_rfl)
  have h26 := @run_callFunc_extern Tryd.prog 62 _ (ReflectliteValue.method (ReflectliteValue.valueError "reflectlite.Value.IsNil" 0) ReflectliteValue.isNil) Tryd.func62 (by kernel_rfl) (by kernel_rfl) (by kernel_rfl) (by kernel_rfl)
  have h68 := @run_callFunc_extern Tryd.prog 107 _ (ReflectliteType.abiMethod fun t => do pure (.int .u8 (← Rtype.kind t))) Tryd.func107 (by kernel_rfl) (by kernel_rfl) (by kernel_rfl) (by kernel_rfl)
  have h78 := @run_callFunc_extern Tryd.prog 122 _ (ReflectliteType.method ReflectliteType.elem) Tryd.func122 (by kernel_rfl) (by kernel_rfl) (by kernel_rfl) (by kernel_rfl)
  have h79 := @run_callFunc_extern Tryd.prog 123 _ (ReflectliteType.relation "Implements" ReflectliteType.implements_) Tryd.func123 (by kernel_rfl) (by kernel_rfl) (by kernel_rfl) (by kernel_rfl)
  have vN := Tryd.valueOfN
  have tN := Tryd.typeN
  have mK := Tryd.methodKind
  have mE := Tryd.methodElem
  have mI := Tryd.methodImplements
  have kN := Tryd.kindN
  have kE := Tryd.kindE
  have eN := Tryd.elemN
  have iE := Tryd.implementsE
  have hnn := hC.notNil
  have hng := hC.guard
  have hb1 := (Below.refl w.heap.size w).alloc (Nat.le_refl _) (.cells #[.pointer (some t)] 105)
  have hb2 := hb1.alloc (by simp) (.cells #[.pointer (some ⟨1, 105, none⟩), .pointer (some ⟨w.heap.size, 0, none⟩), .int .u64 150] 136)
  have n1 := Tryd.isNilN ⟨w.heap.size, 0, none⟩ t ((w.alloc (.cells #[.pointer (some t)] 105)).alloc (.cells #[.pointer (some ⟨1, 105, none⟩), .pointer (some ⟨w.heap.size, 0, none⟩), .int .u64 150] 136)) (by rw [World.cell?_alloc_lt _ _ ⟨w.heap.size, 0, none⟩ (by simp)]; simp)
  have hL2 := hL.below hL.pos hb2
  have hL2' : ((w.alloc (.cells #[.pointer (some t)] 105)).alloc (.cells #[.pointer (some ⟨1, 105, none⟩), .pointer (some ⟨w.heap.size, 0, none⟩), .int .u64 150] 136)).cell? ⟨0, 0, none⟩ = some (.iface 160 (.agg #[.pointer (some ⟨1, 32, none⟩)])) := hL2
  have hC2 := (hC.below hb2).mono hb2.size
  have ht2 := (hb2.cell htl).trans ht
  have hf2 := (hb2.frozen htl).trans hf
  go_enter Tryd.func43, Tryd.ntmps43
  go_wp2_with (go_at_call 63; refine (eas_number n ss v old t ⟨w.heap.size, 0, none⟩ _ hC2 (by rw [World.cell?_alloc_lt _ _ ⟨w.heap.size, 0, none⟩ (by simp)]; simp) ht2 hf2).mono ?_; rintro e w' ⟨rfl, hS⟩)
  go_ret
  exact ⟨rfl, hS.after hb2⟩

end Go.Proofs.YtegdlpllljccgaaDoor

/-
  The reference's disk in memory; its small calls.
-/
namespace Go.Proofs.YtegdlpllljccgaaDoor
open Go.RowKit

/-! Pages: 64 cells each, one behind the other. -/
def IsPage (p : List Value) : Prop := p.length = 64 ∧ ∀ v ∈ p, v.oneCell' = true
def Pages (pgs : List (List Value)) : Prop := ∀ p ∈ pgs, IsPage p

theorem flat_length : ∀ {pgs : List (List Value)}, Pages pgs → pgs.flatten.length = pgs.length * 64
  | [], _ => rfl
  | p :: r, h => by
    rw [List.flatten_cons, List.length_append, (h p (by simp)).1, flat_length (fun q hq => h q (by simp [hq])), List.length_cons]
    omega
theorem flat_get : ∀ {pgs : List (List Value)}, Pages pgs → ∀ (i : Nat) (p : List Value), pgs[i]? = some p → ∀ j, j < 64 → pgs.flatten[i * 64 + j]? = p[j]?
  | [], _, _, _, hi, _, _ => by simp at hi
  | q :: r, h, i, p, hi, j, hj => by
    have hq := (h q (by simp)).1
    rw [List.flatten_cons]
    cases i with
    | zero =>
      obtain rfl : q = p := by simpa using hi
      rw [List.getElem?_append_left (by omega)]
      simp
    | succ i =>
      rw [List.getElem?_append_right (by omega), show (i + 1) * 64 + j - q.length = i * 64 + j by omega]
      exact flat_get (fun x hx => h x (by simp [hx])) i p (by simpa using hi) j hj
theorem flat_one {pgs : List (List Value)} (h : Pages pgs) : ∀ v ∈ pgs.flatten, v.oneCell' = true := fun v hv => by
  obtain ⟨p, hp, hvp⟩ := List.mem_flatten.1 hv
  exact (h p hp).2 v hvp

/-- A page out of a row of pages. -/
theorem own_page {w : World} {B g n cap : Nat} {e : TypeId} {pgs : List (List Value)} (h : w.ownsRow B e 64 (.slice (some ⟨g, 0, none⟩) n cap) n pgs.flatten) (hp : Pages pgs) (i : Nat) (p : List Value) (hi : pgs[i]? = some p) (hn : pgs.length = n) : w.rangeAt g (i * 64) p := by
  intro j v hj
  have hil : i < n := by rw [← hn]; exact (List.getElem?_eq_some_iff.1 hi).1
  have hj64 : j < 64 := by have := (List.getElem?_eq_some_iff.1 hj).1; have := (hp p (List.mem_of_getElem? hi)).1; omega
  rw [h.cellAt (i * 64 + j) (by omega), flat_get hp i p hi j hj64, hj]

/-- The reference's disk in block g. -/
structure RefAt (g : Nat) (vf va vw : Value) (firm : List (List Value)) (ats : List Int) (what : List (List Value)) (fuel : Int) (off : Bool) (w : World) : Prop where
  at_ : w.heap[g]? = some (.cells #[vf, va, vw, .int .i64 fuel, .bool off] 96 (0, 0))
  rowF : w.ownsRow 0 63 64 vf firm.length firm.flatten
  rowA : w.ownsRow 0 3 1 va ats.length (ats.map fun i => Value.int .i64 i)
  rowW : w.ownsRow 0 63 64 vw what.length what.flatten
  firmOk : Pages firm
  whatOk : Pages what
  apart : vf.ownBlock ≠ some g ∧ va.ownBlock ≠ some g ∧ vw.ownBlock ≠ some g ∧ (vf.ownBlock = none ∨ vf.ownBlock ≠ vw.ownBlock) ∧ (vf.ownBlock = none ∨ vf.ownBlock ≠ va.ownBlock) ∧ (vw.ownBlock = none ∨ vw.ownBlock ≠ va.ownBlock)

section
variable {g : Nat} {vf va vw : Value} {firm what : List (List Value)} {ats : List Int} {fuel : Int} {off : Bool} {w : World}
theorem RefAt.cell (h : RefAt g vf va vw firm ats what fuel off w) (j : Nat) : w.cell? ⟨g, j, none⟩ = (#[vf, va, vw, .int .i64 fuel, .bool off] : Array Value)[j]? := cell_of_row w g j _ _ _ h.at_
theorem RefAt.thaw (h : RefAt g vf va vw firm ats what fuel off w) (j : Nat) : w.frozen? ⟨g, j, none⟩ = false := by simp [World.frozen?, h.at_]
theorem RefAt.lt (h : RefAt g vf va vw firm ats what fuel off w) : g < w.heap.size := (Array.getElem?_eq_some_iff.1 h.at_).1
theorem grown_setCell (w : World) (a : Addr) (x : Value) : w.grownBy (w.setCell a x) (some a.block) :=
  ⟨rfl, rfl, rfl, by simp [World.setCell], fun k _ hk => Below.heap_setCell _ _ _ _ (fun e => hk (by rw [e]))⟩
theorem RefAt.setFuel (h : RefAt g vf va vw firm ats what fuel off w) (f : Int) : RefAt g vf va vw firm ats what f off (w.setCell ⟨g, 3, none⟩ (.int .i64 f)) := by
  have hg := grown_setCell w ⟨g, 3, none⟩ (.int .i64 f)
  refine ⟨by simp [World.setCell, Array.getElem?_modify, h.at_], h.rowF.kept hg (.inr h.apart.1), h.rowA.kept hg (.inr h.apart.2.1), h.rowW.kept hg (.inr h.apart.2.2.1), h.firmOk, h.whatOk, h.apart⟩
theorem RefAt.setOff (h : RefAt g vf va vw firm ats what fuel off w) (b : Bool) : RefAt g vf va vw firm ats what fuel b (w.setCell ⟨g, 4, none⟩ (.bool b)) := by
  have hg := grown_setCell w ⟨g, 4, none⟩ (.bool b)
  refine ⟨by simp [World.setCell, Array.getElem?_modify, h.at_], h.rowF.kept hg (.inr h.apart.1), h.rowA.kept hg (.inr h.apart.2.1), h.rowW.kept hg (.inr h.apart.2.2.1), h.firmOk, h.whatOk, h.apart⟩

/-- no: is there no such sector? -/
theorem no_any (h : RefAt g vf va vw firm ats what fuel off w) (i : Int) :
    Calls Tryd.prog 47 #[.pointer (some ⟨g, 0, none⟩), .int .i64 i] w fun e w' => e = .returned (.bool (decide (i < 0 ∨ (firm.length : Int) ≤ i))) ∧ w' = w := by
  have c0 := h.cell 0
  obtain ⟨ao, cap, rfl⟩ : ∃ ao cap, vf = .slice ao firm.length cap := by
    rcases h.rowF.2 with ⟨hv, h0⟩ | ⟨g, cap, cur, hv, _⟩
    · exact ⟨none, 0, by rw [hv, h0]⟩
    · exact ⟨_, _, hv⟩
  have c0 : w.cell? ⟨g, 0, none⟩ = some (.slice ao firm.length cap) := c0
  obtain ⟨L, hL⟩ : ∃ L, firm.length = L := ⟨_, rfl⟩
  rw [hL] at c0 ⊢
  by_cases hi : i < 0
  · have hd : decide (i < 0 ∨ (L : Int) ≤ i) = true := by simp; omega
    rw [hd]
    go_enter Tryd.func47, Tryd.ntmps47
    go_wp2
    go_ret
    exact ⟨rfl, rfl⟩
  · have hd : decide (i < 0 ∨ (L : Int) ≤ i) = decide ((L : Int) ≤ i) := by simp [hi]
    rw [hd]
    go_enter Tryd.func47, Tryd.ntmps47
    go_wp2
    go_ret
    exact ⟨rfl, rfl⟩

/-- What a step leaves of fuel and being off, and what it answers. -/
def stepS (fuel : Int) (off : Bool) : Int × Bool × Int :=
  if fuel = 0 then (fuel, true, 10) else if off = true then (fuel, true, 10) else if 0 < fuel then (fuel - 1, false, 0) else (fuel, false, 0)

theorem rstep_any (h : RefAt g vf va vw firm ats what fuel off w) (hf : fuel ≤ 9223372036854775807) :
    Calls Tryd.prog 55 #[.pointer (some ⟨g, 0, none⟩)] w fun e w' => e = .returned (.int .i64 (stepS fuel off).2.2) ∧ RefAt g vf va vw firm ats what (stepS fuel off).1 (stepS fuel off).2.1 w' ∧ w.grownBy w' (some g) := by
  have c3 : w.cell? ⟨g, 3, none⟩ = some (.int .i64 fuel) := h.cell 3
  have c4 : w.cell? ⟨g, 4, none⟩ = some (.bool off) := h.cell 4
  have f3 := h.thaw 3
  have f4 := h.thaw 4
  by_cases h0 : fuel = 0
  · have hs : stepS fuel off = (fuel, true, 10) := by simp [stepS, h0]
    have hr := h.setOff true
    have hgr := grown_setCell w ⟨g, 4, none⟩ (.bool true)
    have c4' : (w.setCell ⟨g, 4, none⟩ (.bool true)).cell? ⟨g, 4, none⟩ = some (.bool true) := World.cell?_setCell_same' _ _ _ (by simp [c4])
    rw [hs]
    subst h0
    go_enter Tryd.func55, Tryd.ntmps55
    go_wp2
    go_ret
    exact ⟨rfl, hr, hgr⟩
  · cases off with
    | true =>
      have hs : stepS fuel true = (fuel, true, 10) := by simp [stepS, h0]
      rw [hs]
      go_enter Tryd.func55, Tryd.ntmps55
      go_wp2
      go_ret
      exact ⟨rfl, h, ⟨rfl, rfl, rfl, Nat.le_refl _, fun _ _ _ => rfl⟩⟩
    | false =>
      by_cases hp : 0 < fuel
      · have hs : stepS fuel false = (fuel - 1, false, 0) := by simp [stepS, h0, hp]
        have hw : IntKind.i64.wrap (fuel - 1) = fuel - 1 := IntWalk.i64_in _ (by omega)
        have hr := h.setFuel (fuel - 1)
        have hgr := grown_setCell w ⟨g, 3, none⟩ (.int .i64 (fuel - 1))
        rw [hs]
        go_enter Tryd.func55, Tryd.ntmps55
        go_wp2
        go_ret
        exact ⟨rfl, hr, hgr⟩
      · have hs : stepS fuel false = (fuel, false, 0) := by simp [stepS, h0, hp]
        rw [hs]
        go_enter Tryd.func55, Tryd.ntmps55
        go_wp2
        go_ret
        exact ⟨rfl, h, ⟨rfl, rfl, rfl, Nat.le_refl _, fun _ _ _ => rfl⟩⟩
end
end Go.Proofs.YtegdlpllljccgaaDoor

/-
  The reference's disk: Read.
-/
namespace Go.Proofs.YtegdlpllljccgaaDoor
open Go.RowKit Sh

/-- The last pending write to sector i. -/
def seen : List Int → List (List Value) → Int → Option (List Value)
  | a :: xs, p :: ys, i => match seen xs ys i with
    | some q => some q
    | none => if a = i then some p else none
  | _, _, _ => none
theorem seen_drop : ∀ (k : Nat) (xs : List Int) (ys : List (List Value)) (i : Int) (q : List Value), seen (xs.drop k) (ys.drop k) i = some q → seen xs ys i = some q
  | 0, _, _, _, _, h => h
  | k + 1, [], ys, i, q, h => by simp [seen] at h
  | k + 1, a :: xs, [], i, q, h => by
    simp only [List.drop_succ_cons, List.drop_nil] at h
    cases hd : xs.drop k <;> simp [hd, seen] at h
  | k + 1, a :: xs, p :: ys, i, q, h => by
    have := seen_drop k xs ys i q (by simpa using h)
    simp [seen, this]
theorem seen_cons {xs : List Int} {ys : List (List Value)} {i : Int} (k : Nat) (a : Int) (p : List Value) (ha : xs[k]? = some a) (hp : ys[k]? = some p) (h : seen (xs.drop (k + 1)) (ys.drop (k + 1)) i = none) :
    seen (xs.drop k) (ys.drop k) i = if a = i then some p else none := by
  have e1 : xs.drop k = a :: xs.drop (k + 1) := by
    obtain ⟨hk, rfl⟩ := List.getElem?_eq_some_iff.1 ha
    exact List.drop_eq_getElem_cons hk
  have e2 : ys.drop k = p :: ys.drop (k + 1) := by
    obtain ⟨hk, rfl⟩ := List.getElem?_eq_some_iff.1 hp
    exact List.drop_eq_getElem_cons hk
  rw [e1, e2]
  simp [seen, h]

def zeroPage : List Value := List.replicate 64 (.int .u8 0)
def zeros64 : Array Value := zeroPage.toArray
theorem zeroPage_ok : IsPage zeroPage := ⟨List.length_replicate, fun v hv => by rw [(List.mem_replicate.1 hv).2]; rfl⟩

/-- What Read answers. -/
def readS (firm : List (List Value)) (ats : List Int) (what : List (List Value)) (off : Bool) (i : Int) : List Value × Int :=
  if off = true then (zeroPage, 10) else if i < 0 ∨ (firm.length : Int) ≤ i then (zeroPage, 1) else
    match seen ats what i with
    | some p => (p, 0)
    | none => (firm.getD i.toNat zeroPage, 0)

theorem results_cell_row_tmp {P : Program} {fn : Func} {p u : Tmp} {ty : TypeId} (h : fn.results = #[.cell p ty, .tmp u]) (tmps : Array Value) (w : World) (g : Nat) (t : TypeId) (cs : Array Value) (fr : Nat × Nat) (d : TypeDesc)
    (hp : tmps.getD p undef = .pointer (some ⟨g, 0, none⟩)) (hg : w.heap[g]? = some (.cells cs t fr))
    (hu : P.underlying ty = some d) (hd : (match d with | .struct _ | .array _ _ => true | _ => false) = true) (hi : (P.info? ty).map (·.size) = some cs.size) (x : Value) (hx : tmps.getD u undef = x) :
    (results fn tmps).run P w = .ok (.tuple #[.agg cs, x]) w := by
  have hp' : tmps[p]?.getD undef = .pointer (some ⟨g, 0, none⟩) := by simpa using hp
  have hx' : tmps[u]?.getD undef = x := by simpa using hx
  simp [results, h, hp', hx', asAddr, run_loadVar_row w g t ty cs fr d hg hu hd hi]

theorem wpList_alloc_arr {P : Program} {ops : Array Oper} {rest : List Oper} {o : Oper} {a : Act} {w : World} {Q : Exit → Act → World → Prop} (hgd : o.guard = none) (ty : TypeId) (ho : o.op = .alloc ty) (cells : Array Value)
    (hal : ∀ w : World, (Instr.alloc ty true (.tuple #[])).run P w = .ok (.pointer (some ⟨w.heap.size, 0, none⟩)) (w.alloc (.cells cells ty)))
    (h : wpList P ops Q rest (a.put o.dst (.pointer (some ⟨w.heap.size, 0, none⟩))) (w.alloc (.cells cells ty))) : wpList P ops Q (o :: rest) a w :=
  wpList_plain hgd fun K hK => by
    unfold Oper.wp execOp
    simp only [ho, Sem.run_bind, hal w, Result.andThen_ok, Sem.run_pure]
    exact hK _ _ h
set_option maxRecDepth 100000 in
theorem alloc64 (w : World) : (Instr.alloc 63 true (.tuple #[])).run Tryd.prog w = .ok (.pointer (some ⟨w.heap.size, 0, none⟩)) (w.alloc (.cells zeros64 63)) := by kernel_rfl
theorem info64 : (Tryd.prog.info? 63).map (·.size) = some 64 := by kernel_rfl
theorem page_size {p : List Value} (h : IsPage p) : Hid ((Tryd.prog.info? 63).map (·.size) = some p.toArray.size) := by
  have e : p.toArray.size = 64 := by rw [List.size_toArray]; exact h.1
  rw [e]; exact info64
theorem page_all {p : List Value} (h : IsPage p) : Hid (p.toArray.all (·.oneCell') = true) := all_oneCell_toArray h.2
theorem built64 : Tryd.prog.built 63 [] = some zeros64 := by kernel_rfl

def ReadPost (p : List Value) (e : Int) (w : World) (en : Ending) (w' : World) : Prop := en = .returned (.tuple #[.agg p.toArray, .int .i64 e]) ∧ Below w.heap.size w w'

section
variable {g : Nat} {vf va vw : Value} {firm what : List (List Value)} {ats : List Int} {fuel : Int} {off : Bool} {w : World}
theorem RefAt.below (h : RefAt g vf va vw firm ats what fuel off w) {w' : World} (hb : Below w.heap.size w w') : RefAt g vf va vw firm ats what fuel off w' := by
  have hg : w.grownBy w' none := ⟨hb.os, hb.tape, hb.output, hb.size, fun j hj _ => hb.block j hj⟩
  have ho : ∀ v : Value, v.ownBlock = none ∨ v.ownBlock ≠ none := fun v => by cases v.ownBlock <;> simp
  exact ⟨(hb.block g h.lt).trans h.at_, h.rowF.kept hg (ho _), h.rowA.kept hg (ho _), h.rowW.kept hg (ho _), h.firmOk, h.whatOk, h.apart⟩

set_option maxRecDepth 100000 in
set_option maxHeartbeats 4000000 in
theorem rread_any (h : RefAt g vf va vw firm ats what fuel off w) (hsame : what.length = ats.length) (hn : ats.length ≤ 140737488355328) (i : Int) :
    Calls Tryd.prog 29 #[.pointer (some ⟨g, 0, none⟩), .int .i64 i] w (ReadPost (readS firm ats what off i).1 (readS firm ats what off i).2 w) := by
  have hb1 := (Below.refl w.heap.size w).alloc (Nat.le_refl _) (.cells zeros64 63)
  have hnew : (w.alloc (.cells zeros64 63)).heap[w.heap.size]? = some (.cells zeros64 63 (0, 0)) := heap_alloc_new w _
  have c4 : w.cell? ⟨g, 4, none⟩ = some (.bool off) := h.cell 4
  cases off with
  | true =>
    obtain ⟨zv, Hz⟩ : ∃ zv : Array Value, Hid (zv = zeros64) := ⟨_, rfl⟩
    have hz1 : Hid ((Tryd.prog.info? 63).map (·.size) = some zv.size) := by rw [Hz.out]; exact page_size zeroPage_ok
    have hz2 : Hid (zv.all (·.oneCell') = true) := by rw [Hz.out]; exact page_all zeroPage_ok
    have hz3 : Hid (zeros64.size = zv.size) := by rw [Hz.out]; exact (rfl : zeros64.size = zeros64.size)
    show Calls _ _ _ _ (ReadPost zeroPage 10 w)
    have c4' := (hb1.cell (p := ⟨g, 4, none⟩) h.lt).trans c4
    go_enter Tryd.func29, Tryd.ntmps29
    go_wp2_with (first
      | (refine wpList_alloc_arr rfl 63 rfl _ alloc64 ?_)
      | (refine wpList_build_to rfl 63 _ rfl zv (by rw [Hz.out]; kernel_rfl) ?_)
      | (refine wpList_store_new rfl 63 _ _ rfl w.heap.size rfl zv rfl rfl 63 _ hz1.out hz3.out hz2.out ?_))
    refine bodyPost_ret (v := .tuple #[.agg zv, .int .i64 10]) ?_ rfl ⟨by rw [Hz.out]; rfl, (Below.refl _ _).alloc (Nat.le_refl _) _⟩
    exact results_cell_row_tmp (ty := 63) rfl _ _ w.heap.size 63 _ (0, 0) _ rfl (heap_alloc_new _ _) Tryd.underlying63 rfl hz1.out _ rfl
  | false =>
    have h1 := h.below hb1
    have c4' := (hb1.cell (p := ⟨g, 4, none⟩) h.lt).trans c4
    have hno := no_any h1 i
    by_cases hbad : i < 0 ∨ (firm.length : Int) ≤ i
    · have hrs : readS firm ats what false i = (zeroPage, 1) := by simp [readS, hbad]
      have hd : decide (i < 0 ∨ (firm.length : Int) ≤ i) = true := by simpa using hbad
      rw [hd] at hno
      rw [hrs]
      obtain ⟨zv, Hz⟩ : ∃ zv : Array Value, Hid (zv = zeros64) := ⟨_, rfl⟩
      have hz1 : Hid ((Tryd.prog.info? 63).map (·.size) = some zv.size) := by rw [Hz.out]; exact page_size zeroPage_ok
      have hz2 : Hid (zv.all (·.oneCell') = true) := by rw [Hz.out]; exact page_all zeroPage_ok
      have hz3 : Hid (zeros64.size = zv.size) := by rw [Hz.out]; exact (rfl : zeros64.size = zeros64.size)
      go_enter Tryd.func29, Tryd.ntmps29
      go_wp2_with (first
        | (refine wpList_alloc_arr rfl 63 rfl _ alloc64 ?_)
        | (go_at_call 47; refine hno.mono ?_; rintro e w' ⟨rfl, rfl⟩)
        | (refine wpList_build_to rfl 63 _ rfl zv (by rw [Hz.out]; kernel_rfl) ?_)
        | (refine wpList_store_new rfl 63 _ _ rfl w.heap.size rfl zv rfl rfl 63 _ hz1.out hz3.out hz2.out ?_))
      refine bodyPost_ret (v := .tuple #[.agg zv, .int .i64 1]) ?_ rfl ⟨by rw [Hz.out]; rfl, (Below.refl _ _).alloc (Nat.le_refl _) _⟩
      exact results_cell_row_tmp (ty := 63) rfl _ _ w.heap.size 63 _ (0, 0) _ rfl (heap_alloc_new _ _) Tryd.underlying63 rfl hz1.out _ rfl
    · have hd : decide (i < 0 ∨ (firm.length : Int) ≤ i) = false := by simpa using hbad
      rw [hd] at hno
      have hi0 : 0 ≤ i := by omega
      have hi1 : i < (firm.length : Int) := by omega
      obtain ⟨aa, ca, rfl⟩ : ∃ ao cap, va = .slice ao ats.length cap := by
        rcases h.rowA.2 with ⟨hv, h0⟩ | ⟨g, cap, cur, hv, _⟩
        · exact ⟨none, 0, by rw [hv, h0]⟩
        · exact ⟨_, _, hv⟩
      have c1 : (w.alloc (.cells zeros64 63)).cell? ⟨g, 1, none⟩ = some (.slice aa ats.length ca) := h1.cell 1
      have c2 : (w.alloc (.cells zeros64 63)).cell? ⟨g, 2, none⟩ = some vw := h1.cell 2
      have c0 : (w.alloc (.cells zeros64 63)).cell? ⟨g, 0, none⟩ = some vf := h1.cell 0
      obtain ⟨L, hL⟩ : ∃ L, ats.length = L := ⟨_, rfl⟩
      rw [hL] at c1 hn
      have hw1 : IntKind.i64.wrap ((L : Int) - 1) = (L : Int) - 1 := IntWalk.i64_in _ (by omega)
      go_enter Tryd.func29, Tryd.ntmps29
      go_wp2_with (first
        | (refine wpList_alloc_arr rfl 63 rfl _ alloc64 ?_)
        | (go_at_call 47; refine hno.mono ?_; rintro e w' ⟨rfl, rfl⟩))
      go_loopg [6] L (fun gg v wr => ∃ (k : Nat), k = gg ∧ k ≤ L ∧ v = .int .i64 ((k : Int) - 1) ∧ seen (ats.drop k) (what.drop k) i = none ∧ wr = w.alloc (.cells zeros64 63))
      case atStart =>
        refine ⟨L, rfl, by omega, by first | rfl | rw [hw1], ?_, rfl⟩
        rw [← hL, List.drop_length]
        simp [seen]
      case round =>
        obtain ⟨k, rfl, hk, rfl, hs, rfl⟩ := hrel
        rcases k with _ | k
        · rw [List.drop_zero, List.drop_zero] at hs
          obtain ⟨j, rfl⟩ : ∃ j : Nat, i = (j : Int) := ⟨i.toNat, by omega⟩
          have hjl : j < firm.length := by omega
          have hrs : readS firm ats what false (j : Int) = (firm[j], 0) := by
            have hb2 : ¬ ((j : Int) < 0 ∨ (firm.length : Int) ≤ (j : Int)) := hbad
            simp only [readS, Bool.false_eq_true, if_false, if_neg hb2, hs]
            simp [List.getD_eq_getElem?_getD, hjl]
          have hpg := List.getElem?_eq_getElem hjl
          obtain ⟨gf, cf, rfl, _, _⟩ := h1.rowF.form (by omega)
          have hrange := own_page h1.rowF h1.firmOk j firm[j] hpg rfl
          have hPg := h1.firmOk firm[j] (List.getElem_mem hjl)
          obtain ⟨F, hF⟩ : ∃ F, firm.length = F := ⟨_, rfl⟩
          rw [hF] at c0
          have hjF : (j : Int) < (F : Int) := by omega
          obtain ⟨pg, hpp⟩ : ∃ pg, firm[j] = pg := ⟨_, rfl⟩
          rw [hpp] at hrange hPg hrs
          have HR := Lib.hid hrs
          have hz1 := page_size hPg
          have hz2 := page_all hPg
          have hz3 : Hid (zeros64.size = pg.toArray.size) := by
            have : pg.toArray.size = 64 := by rw [List.size_toArray]; exact hPg.1
            rw [this]; exact (rfl : zeros64.size = 64)
          have hi64 : Hid ((Tryd.prog.info? 63).map (·.size) = some pg.length) := by rw [hPg.1]; exact info64
          have hge : ¬ ((0 : Int) ≤ ((0 : Nat) : Int) - 1) := by omega
          have HRg := Lib.hid hrange
          clear hrs hpg hs hbad hi0 hi1 hpp hrange
          go_wp2_with (first
            | (refine wpList_load_mid rfl 63 _ rfl gf (j * 64) rfl pg _ HRg.out Tryd.underlying63 rfl hi64.out ?_)
            | (refine wpList_store_new rfl 63 _ _ rfl w.heap.size rfl pg.toArray rfl rfl 63 _ hz1.out hz3.out hz2.out ?_))
          refine bodyPost_ret (v := .tuple #[.agg pg.toArray, .int .i64 0]) ?_ rfl ⟨by rw [HR.out], (Below.refl _ _).alloc (Nat.le_refl _) _⟩
          exact results_cell_row_tmp (ty := 63) rfl _ _ w.heap.size 63 _ (0, 0) _ rfl (heap_alloc_new _ _) Tryd.underlying63 rfl hz1.out _ rfl
        · have e1 : ((k + 1 : Nat) : Int) - 1 = (k : Int) := by omega
          rw [e1]
          have hge : (0 : Int) ≤ (k : Int) := by omega
          have hlt : (k : Int) < (L : Int) := by omega
          have hw2 : IntKind.i64.wrap ((k : Int) - 1) = (k : Int) - 1 := IntWalk.i64_in _ (by omega)
          have hka : k < ats.length := by omega
          have hkw : k < what.length := by rw [hsame]; exact hka
          have ha := List.getElem?_eq_getElem hka
          have hpw := List.getElem?_eq_getElem hkw
          obtain ⟨ga, ca', hva, _, _⟩ := h1.rowA.form (by omega)
          obtain ⟨rfl, rfl⟩ : aa = some ⟨ga, 0, none⟩ ∧ ca = ca' := by
            simp only [Value.slice.injEq] at hva
            exact ⟨hva.1, hva.2.2⟩
          obtain ⟨gw, cw, rfl, _, _⟩ := h1.rowW.form (by omega)
          have ck : (w.alloc (.cells zeros64 63)).cell? ⟨ga, k, none⟩ = some (.int .i64 ats[k]) := by
            rw [h1.rowA.cellAt k (by omega), List.getElem?_map, ha]; rfl
          have hrange := own_page h1.rowW h1.whatOk k what[k] hpw rfl
          have hPg := h1.whatOk what[k] (List.getElem_mem hkw)
          have hsc := seen_cons k ats[k] what[k] ha hpw hs
          obtain ⟨a, haa⟩ : ∃ a, ats[k] = a := ⟨_, rfl⟩
          obtain ⟨pg, hpp⟩ : ∃ pg, what[k] = pg := ⟨_, rfl⟩
          rw [haa] at ck hsc
          rw [hpp] at hrange hPg hsc
          obtain ⟨M, hM⟩ : ∃ M, what.length = M := ⟨_, rfl⟩
          have hkM : (k : Int) < (M : Int) := by omega
          rw [hM] at c2
          by_cases hai : a = i
          · rw [if_pos hai] at hsc
            have hrs : readS firm ats what false i = (pg, 0) := by
              simp only [readS, Bool.false_eq_true, if_false, if_neg hbad, seen_drop k ats what i pg hsc]
            have HR := Lib.hid hrs
            have HRg := Lib.hid hrange
            have hz1 := page_size hPg
            have hz2 := page_all hPg
            have hz3 : Hid (zeros64.size = pg.toArray.size) := by
              have : pg.toArray.size = 64 := by rw [List.size_toArray]; exact hPg.1
              rw [this]; exact (rfl : zeros64.size = 64)
            have hi64 : Hid ((Tryd.prog.info? 63).map (·.size) = some pg.length) := by rw [hPg.1]; exact info64
            subst hai
            clear hrs hrange hs hsc hbad hi0 hi1 hpp haa ha hpw hva
            go_wp2_with (first
              | (refine wpList_load_mid rfl 63 _ rfl gw (k * 64) rfl pg _ HRg.out Tryd.underlying63 rfl hi64.out ?_)
              | (refine wpList_store_new rfl 63 _ _ rfl w.heap.size rfl pg.toArray rfl rfl 63 _ hz1.out hz3.out hz2.out ?_))
            refine bodyPost_ret (v := .tuple #[.agg pg.toArray, .int .i64 0]) ?_ rfl ⟨by rw [HR.out], (Below.refl _ _).alloc (Nat.le_refl _) _⟩
            exact results_cell_row_tmp (ty := 63) rfl _ _ w.heap.size 63 _ (0, 0) _ rfl (heap_alloc_new _ _) Tryd.underlying63 rfl hz1.out _ rfl
          · rw [if_neg hai] at hsc
            have HS := Lib.hid hsc
            clear hrange hs hsc hbad hi0 hi1 hpp haa ha hpw hva
            go_wp2
            go_roundg k
            case measure => omega
            case rel => exact ⟨k, rfl, by omega, rfl, HS.out, rfl⟩
end
end Go.Proofs.YtegdlpllljccgaaDoor

/-
  The reference's disk: New.
-/
namespace Go.Proofs.YtegdlpllljccgaaDoor
open Go.RowKit Sh

theorem infoPage : (Tryd.prog.info? 63).map (fun i => (i.zero, i.size, i.bytes)) = some (some (.agg zeros64), 64, 64) := by kernel_rfl

theorem made_zeros (m : Nat) : madeCells zeros64 m = (List.replicate m (Value.int .u8 0)).toArray := by
  apply Array.ext
  · simp [madeCells]
  · intro i h1 h2
    have hz : zeros64.size = 64 := by unfold zeros64 zeroPage; rw [List.size_toArray, List.length_replicate]
    have hlt : i % zeros64.size < zeros64.size := by rw [hz]; exact Nat.mod_lt _ (by omega)
    simp only [madeCells, Array.getElem_map, Array.getElem_range, List.getElem_toArray, List.getElem_replicate]
    rw [getElem!_pos zeros64 (i % zeros64.size) hlt]
    simp only [zeros64, zeroPage, List.getElem_toArray, List.getElem_replicate]
theorem zero_flat (n : Nat) : (List.replicate n zeroPage).flatten = List.replicate (n * 64) (Value.int .u8 0) := by
  unfold zeroPage
  rw [List.flatten_replicate_replicate]
theorem zero_pages (n : Nat) : Pages (List.replicate n zeroPage) := fun p hp => by rw [(List.mem_replicate.1 hp).2]; exact zeroPage_ok

theorem make_pages (n : Nat) (hn : n ≤ 4096) (w : World) :
    (Instr.makeSlice 80 (.int .i64 (n : Int)) (.int .i64 (n : Int))).run Tryd.prog w = .ok (.slice (some ⟨w.heap.size, 0, none⟩) n n) (w.alloc (.cells (List.replicate n zeroPage).flatten.toArray 63)) := by
  obtain ⟨i, hi, hzz⟩ := Option.map_eq_some_iff.1 infoPage
  simp only [Prod.mk.injEq] at hzz
  obtain ⟨hz, hs, hb⟩ := hzz
  have h := run_make (P := Tryd.prog) w 80 63 i (.agg zeros64) Tryd.underlying80 hi hz .i64 .i64 n n (by omega) (Int.le_refl _) (by rw [hb]; omega) (by omega)
  rw [hs] at h
  rw [h, zero_flat, ← made_zeros]
  rfl

/-- The blocks that are the disk's. -/
def Foot (g : Nat) (vf va vw : Value) (k : Nat) : Prop := k = g ∨ vf.ownBlock = some k ∨ va.ownBlock = some k ∨ vw.ownBlock = some k

/-- Nothing but blocks of F has turned, of what was there. -/
structure Only (F : Nat → Prop) (w w' : World) : Prop where
  os : w'.os = w.os
  tape : w'.tape = w.tape
  output : w'.output = w.output
  size : w.heap.size ≤ w'.heap.size
  block : ∀ k, k < w.heap.size → ¬ F k → w'.heap[k]? = w.heap[k]?
theorem Only.refl (F : Nat → Prop) (w : World) : Only F w w := ⟨rfl, rfl, rfl, Nat.le_refl _, fun _ _ _ => rfl⟩
theorem Only.of_below {F : Nat → Prop} {w w' : World} (h : Below w.heap.size w w') : Only F w w' := ⟨h.os, h.tape, h.output, h.size, fun k hk _ => h.block k hk⟩
/-- What was new behind the first step may turn in the second. -/
theorem Only.trans {F G : Nat → Prop} {w w1 w2 : World} (h : Only F w w1) (k : Only G w1 w2) (hG : ∀ j, G j → F j ∨ w.heap.size ≤ j) : Only F w w2 :=
  ⟨k.os.trans h.os, k.tape.trans h.tape, k.output.trans h.output, Nat.le_trans h.size k.size, fun j hj hn =>
    (k.block j (Nat.lt_of_lt_of_le hj h.size) (fun hg => (hG j hg).elim hn (fun hf => by omega))).trans (h.block j hj hn)⟩
theorem Only.of_grown {F : Nat → Prop} {w w' : World} {row : Option Nat} (h : w.grownBy w' row) (hr : ∀ k, row = some k → F k) : Only F w w' :=
  ⟨h.os, h.tape, h.output, h.size, fun k hk hn => h.block k hk (fun e => hn (hr k e.symm))⟩

/-- A new disk. -/
def RNewPost (n : Nat) (w : World) (e : Ending) (w' : World) : Prop := ∃ g vf, e = .returned (.tuple #[.pointer (some ⟨g, 0, none⟩), .int .i64 0]) ∧
  RefAt g vf (.slice none 0 0) (.slice none 0 0) (List.replicate n zeroPage) [] [] (-1) false w' ∧ Below w.heap.size w w' ∧ ∀ k, Foot g vf (.slice none 0 0) (.slice none 0 0) k → w.heap.size ≤ k

theorem rnew_bad (i : Int) (h : i < 1 ∨ 4096 < i) (w : World) : Calls Tryd.prog 13 #[.int .i64 i] w fun e w' => e = .returned (.tuple #[.pointer none, .int .i64 1]) ∧ w' = w := by
  rcases h with h | h
  · go_enter Tryd.func13, Tryd.ntmps13
    go_wp2
    go_ret2
    exact ⟨rfl, rfl⟩
  · have h2 : ¬ i < 1 := by omega
    go_enter Tryd.func13, Tryd.ntmps13
    go_wp2
    go_ret2
    exact ⟨rfl, rfl⟩

set_option maxRecDepth 100000 in
theorem rnew_any (n : Nat) (h1 : 1 ≤ n) (h2 : n ≤ 4096) (w : World) : Calls Tryd.prog 13 #[.int .i64 n] w (RNewPost n w) := by
  have hm := make_pages n h2 w
  have e1 : ¬ ((n : Int) < 1) := by omega
  have e2 : ¬ (4096 < (n : Int)) := by omega
  obtain ⟨cs, Hcs⟩ : ∃ cs : Array Value, Hid (cs = (List.replicate n zeroPage).flatten.toArray) := ⟨_, rfl⟩
  rw [← Hcs.out] at hm
  go_enter Tryd.func13, Tryd.ntmps13
  go_wp2
  go_ret2
  have hb1 := (Below.refl w.heap.size w).alloc (Nat.le_refl _) (.cells cs 63)
  have hb2 := hb1.alloc (by simp) (.cells #[.slice (some ⟨w.heap.size, 0, none⟩) n n, .slice none 0 0, .slice none 0 0, .int .i64 (-1), .bool false] 96)
  refine ⟨w.heap.size + 1, .slice (some ⟨w.heap.size, 0, none⟩) n n, rfl, ⟨?_, ?_, World.ownsRow_nil _ _ _ _, World.ownsRow_nil _ _ _ _, zero_pages n, fun p hp => by simp at hp, ?_⟩, hb2, ?_⟩
  · have := heap_alloc_new (w.alloc (.cells cs 63)) (.cells #[.slice (some ⟨w.heap.size, 0, none⟩) n n, .slice none 0 0, .slice none 0 0, .int .i64 (-1), .bool false] 96)
    simpa using this
  · have hfl : (List.replicate n zeroPage).flatten.length = n * 64 := by rw [zero_flat, List.length_replicate]
    rw [List.length_replicate]
    refine ⟨hfl, .inr ⟨w.heap.size, n, cs, rfl, by omega, (Below.heap_alloc _ _ _ (by simp)).trans (heap_alloc_new w _), Nat.le_refl _, by unfold maxLen; omega, by rw [Hcs.out, List.size_toArray, hfl], ?_⟩⟩
    rw [Hcs.out, List.toList_toArray, ← hfl, List.take_length]
  · simp [Value.ownBlock]
  · intro k hk
    rcases hk with rfl | hk | hk | hk
    · omega
    · simp [Value.ownBlock] at hk; omega
    · simp [Value.ownBlock] at hk
    · simp [Value.ownBlock] at hk
end Go.Proofs.YtegdlpllljccgaaDoor

/-
  Errors of the disk, and num: what a law's num answers of them.
-/
namespace Go.Proofs.YtegdlpllljccgaaDoor
open Go.RowKit Go.Extern.Stop Go.Stop Go.Extern

theorem Chain.iface {N : Nat} {w : World} {n : Int} {ss : List ByteArray} {v : Value} (h : Chain N w n ss v) : ∃ t x, v = .iface t x := by
  rcases h.kind with ⟨a, rfl⟩ | ⟨b, rfl⟩
  · exact ⟨_, _, rfl⟩
  · exact ⟨_, _, rfl⟩
theorem in_more (s : ByteArray) (n : Int) (ss : List ByteArray) (v : Value) (w : World) (h : Chain w.heap.size w n ss v) :
    Calls Tryd.prog 37 #[.string s, v] w fun e w' => e = .returned (.iface 126 (.pointer (some ⟨w.heap.size, 0, none⟩))) ∧ Chain w'.heap.size w' n (s :: ss) (.iface 126 (.pointer (some ⟨w.heap.size, 0, none⟩))) ∧ Below w.heap.size w w' := by
  obtain ⟨t, x, rfl⟩ := h.iface
  refine (in_held s t x w).mono ?_
  rintro e w' ⟨rfl, rfl⟩
  have hb : Below w.heap.size w (w.alloc (.cells #[.string s, .iface t x] 128)) := (Below.refl _ w).alloc (Nat.le_refl _) _
  exact ⟨rfl, ⟨w.heap.size, _, rfl, by simp, by simp, by simp, (h.below hb).mono hb.size⟩, hb⟩

/-- v is an error of number n, or none (0). -/
def ErrV (w : World) (n : Int) (v : Value) : Prop := (n = 0 ∧ v = .nilIface) ∨ (n ≠ 0 ∧ ∃ ss, Chain w.heap.size w n ss v)
theorem ErrV.below {w w' : World} {n : Int} {v : Value} (h : ErrV w n v) (hb : Below w.heap.size w w') : ErrV w' n v :=
  h.imp id (fun ⟨h0, ss, hC⟩ => ⟨h0, ss, (hC.below hb).mono hb.size⟩)
theorem ErrV.nil {w : World} : ErrV w 0 .nilIface := .inl ⟨rfl, rfl⟩
/-- An error is nil just if its number is 0: what '==' and '!=' with nil answer. -/
theorem ErrV.eqNil {w : World} {n : Int} {v : Value} (h : ErrV w n v) (W : World) : (binOp .eql 32 v .nilIface).run Tryd.prog W = .ok (.bool (decide (n = 0))) W := by
  rcases h with ⟨rfl, rfl⟩ | ⟨h0, ss, hC⟩
  · kernel_rfl
  · rw [decide_eq_false h0]; exact hC.notNil W
theorem ErrV.neqNil {w : World} {n : Int} {v : Value} (h : ErrV w n v) (W : World) : (binOp .neq 32 v .nilIface).run Tryd.prog W = .ok (.bool (!decide (n = 0))) W := by
  rcases h with ⟨rfl, rfl⟩ | ⟨h0, ss, hC⟩
  · kernel_rfl
  · obtain ⟨t, x, rfl⟩ := hC.iface
    rw [decide_eq_false h0]; exact run_neq_held_nil W 32 t x Tryd.methodsError
/-- num. -/
theorem num_any (n : Int) (v : Value) (w : World) (hL : Laid w) (hE : ErrV w n v) :
    Calls Tryd.prog 17 #[v] w fun e w' => e = .returned (.int .i64 n) ∧ Below w.heap.size w w' := by
  rcases hE with ⟨rfl, rfl⟩ | ⟨h0, ss, hC⟩
  · go_enter Tryd.func17, Tryd.ntmps17
    go_wp2
    go_ret
    exact ⟨rfl, Below.refl _ _⟩
  · obtain ⟨tv, xv, rfl⟩ := hC.iface
    have hnn := hC.notNil
    have hng := hC.guard
    have hb1 := (Below.refl w.heap.size w).alloc (Nat.le_refl _) (.cells #[.int .i64 0] 93)
    go_enter Tryd.func17, Tryd.ntmps17
    go_wp2_with (go_at_call 43; refine (as_number n ss _ (.int .i64 0) ⟨w.heap.size, 0, none⟩ _ (hL.below hL.pos hb1) ((hC.below hb1).mono hb1.size) (by simp) (by simp)).mono ?_; rintro e w1 ⟨rfl, hS⟩; have hr := hS.cell)
    go_ret
    exact ⟨rfl, hb1.trans (hS.below (by simp) (by simp))⟩
end Go.Proofs.YtegdlpllljccgaaDoor

/-
  Rows of pages: a new row of one page; a page stored into a row.
-/
namespace Go.Proofs.YtegdlpllljccgaaDoor
open Go.RowKit Sh

theorem fill_page (p : List Value) (hp : IsPage p) (cells : Array Value) (hc : cells.size = 64) : Instr.fill (fun i => some (i * 64, 64)) cells [(0, .agg p.toArray)] = some p.toArray := by
  have h := Great.fill_whole (s := 64) (by omega) [.agg p.toArray] cells (fun v hv => by
    obtain rfl := List.mem_singleton.1 hv
    show p.toArray.size = 64
    rw [List.size_toArray]; exact hp.1) (by rw [hc]; rfl)
  simpa [Value.cells] using h

/-- '[]Page{x}' as an operation: a new block with the page's cells. -/
theorem wp_build_page {o : Oper} {a : Act} {w : World} {K : Act → World → Prop} {Q : Exit → Act → World → Prop} (x : Operand) (ho : o.op = .buildSlice 80 1 #[(0, x)]) (p : List Value) (hp : IsPage p) (hx : a.eval x = .agg p.toArray)
    (h : K (a.put o.dst (.slice (some ⟨w.heap.size, 0, none⟩) 1 1)) (w.alloc (.cells p.toArray 63))) : o.wp Tryd.prog a w K Q := by
  obtain ⟨i, hi, hzz⟩ := Option.map_eq_some_iff.1 infoPage
  simp only [Prod.mk.injEq] at hzz
  obtain ⟨hz, hs, hb⟩ := hzz
  refine wp_buildSlice (P := Tryd.prog) 80 63 1 _ ho p.toArray i (.agg zeros64) Tryd.underlying80 hi hz (by rw [hs]; decide) (by rw [hs]; decide) ?_ h
  rw [hs]
  have hl : ((#[(0, x)] : Array (Nat × Operand)).map fun (i, x) => (i, a.eval x)).toList = [(0, .agg p.toArray)] := by simp [hx]
  rw [hl]
  exact fill_page p hp _ (by simp)

/-- 'cs' laid over 'cur' from 'off' on. -/
theorem splice_page {pgs : List (List Value)} (hP : Pages pgs) (k : Nat) (hk : k < pgs.length) (p : List Value) (hp : IsPage p) : splice pgs.flatten (k * 64) p = (pgs.set k p).flatten := by
  induction pgs generalizing k with
  | nil => simp at hk
  | cons q r ih =>
    have hq := (hP q (by simp)).1
    have hpl := hp.1
    cases k with
    | zero =>
      simp only [splice, Nat.zero_mul, Nat.zero_add, List.flatten_cons, List.set_cons_zero, List.take_zero, List.nil_append]
      rw [hpl, ← hq, List.drop_left]
    | succ k =>
      have := ih (fun x hx => hP x (by simp [hx])) k (by simpa using hk)
      simp only [splice] at this
      simp only [splice, List.flatten_cons, List.set_cons_succ]
      rw [show (k + 1) * 64 = q.length + k * 64 by omega, List.take_length_add_append, show q.length + k * 64 + p.length = q.length + (k * 64 + p.length) by omega, List.drop_length_add_append, ← this]
      simp only [List.append_assoc]

theorem splice_take (cur : List Value) (off m : Nat) (p : List Value) (h : off + p.length ≤ m) (hm : m ≤ cur.length) : (splice cur off p).take m = splice (cur.take m) off p := by
  have hA : (cur.take off).length = off := by rw [List.length_take]; omega
  simp only [splice]
  rw [List.take_append, List.take_of_length_le (i := m) (l := cur.take off) (by rw [hA]; omega), hA, List.take_append, List.take_of_length_le (i := m - off) (l := p) (by omega), List.take_take, Nat.min_eq_left (by omega : off ≤ m), List.drop_take, Nat.sub_sub]

/-- A page stored into an owned row. -/
theorem own_store {w w' : World} {B g n cap : Nat} {e : TypeId} {pgs : List (List Value)} (h : w.ownsRow B e 64 (.slice (some ⟨g, 0, none⟩) n cap) n pgs.flatten) (hP : Pages pgs) (hn : pgs.length = n) (k : Nat) (hk : k < n) (p : List Value) (hp : IsPage p)
    (hst : ∀ cur : List Value, w.heap[g]? = some (.cells cur.toArray e (0, 0)) → w'.heap[g]? = some (.cells (splice cur (k * 64) p).toArray e (0, 0))) :
    w'.ownsRow B e 64 (.slice (some ⟨g, 0, none⟩) n cap) n (pgs.set k p).flatten := by
  have hP' : Pages (pgs.set k p) := fun x hx => by
    rcases List.mem_or_eq_of_mem_set hx with hx | rfl
    · exact hP x hx
    · exact hp
  refine ⟨by rw [flat_length hP', List.length_set, hn], ?_⟩
  rcases h.2 with ⟨_, h0⟩ | ⟨g', cap', cur, hv, hb, hg, hc, hm, hs, ht⟩
  · omega
  · simp only [Value.slice.injEq, Option.some.injEq, Addr.mk.injEq, true_and, and_true] at hv
    obtain ⟨rfl, rfl⟩ := hv
    have hst' := hst cur.toList (by simpa using hg)
    have hcl : cur.toList.length = cap * 64 := by rw [Array.length_toList, hs]
    have hpl := hp.1
    have hkn : k * 64 + 64 ≤ n * 64 := by omega
    have hnc : n * 64 ≤ cap * 64 := by omega
    refine .inr ⟨g, cap, (splice cur.toList (k * 64) p).toArray, rfl, hb, hst', hc, hm, ?_, ?_⟩
    · rw [List.size_toArray]
      simp only [splice, List.length_append, List.length_take, List.length_drop]
      omega
    · rw [List.toList_toArray, ← splice_page hP k (by omega) p hp, ← ht]
      exact splice_take _ _ _ _ (by rw [hpl]; exact hkn) (by rw [hcl]; exact hnc)
end Go.Proofs.YtegdlpllljccgaaDoor

/-
  The reference's disk: Write.
-/
namespace Go.Proofs.YtegdlpllljccgaaDoor
open Go.RowKit Sh

section
variable {g : Nat} {vf va vw : Value} {firm what : List (List Value)} {ats : List Int} {fuel : Int} {off : Bool} {w w3 w4 : World}

/-- The places' row has a place more, laid into its field. -/
theorem RefAt.putAts (h : RefAt g vf va vw firm ats what fuel off w) {gg cap : Nat} {i : Int} (h3 : Below w.heap.size w w3)
    (hown : w4.ownsRow 0 3 1 (.slice (some ⟨gg, 0, none⟩) (ats.length + 1) cap) (ats.length + 1) ((ats.map fun i => Value.int .i64 i) ++ [.int .i64 i])) (hgr : w3.grownBy w4 va.ownBlock) (hat : va.ownBlock = some gg ∨ w.heap.size ≤ gg) :
    RefAt g vf (.slice (some ⟨gg, 0, none⟩) (ats.length + 1) cap) vw firm (ats ++ [i]) what fuel off (w4.setCell ⟨g, 1, none⟩ (.slice (some ⟨gg, 0, none⟩) (ats.length + 1) cap)) ∧
      Only (Foot g vf va vw) w (w4.setCell ⟨g, 1, none⟩ (.slice (some ⟨gg, 0, none⟩) (ats.length + 1) cap)) ∧ (Foot g vf va vw gg ∨ w.heap.size ≤ gg) := by
  obtain ⟨a1, a2, a3, a4, a5, a6⟩ := h.apart
  have hlt := h.lt
  have hg3 : w.grownBy w3 none := ⟨h3.os, h3.tape, h3.output, h3.size, fun j hj _ => h3.block j hj⟩
  have ho : ∀ v : Value, v.ownBlock = none ∨ v.ownBlock ≠ none := fun v => by cases v.ownBlock <;> simp
  have f3 := (h.rowF.kept hg3 (ho _)).kept hgr a5
  have w3' := (h.rowW.kept hg3 (ho _)).kept hgr a6
  have b4 : w4.heap[g]? = some (.cells #[vf, va, vw, .int .i64 fuel, .bool off] 96 (0, 0)) :=
    (hgr.block g (by have := h3.size; omega) (fun e => a2 e.symm)).trans ((h3.block g hlt).trans h.at_)
  have hs := grown_setCell w4 ⟨g, 1, none⟩ (.slice (some ⟨gg, 0, none⟩) (ats.length + 1) cap)
  have hgg : gg ≠ g := by
    rcases hat with e | e
    · intro e2; rw [e, e2] at a2; exact a2 rfl
    · omega
  have hne : (Value.slice (some ⟨gg, 0, none⟩) (ats.length + 1) cap).ownBlock ≠ some g := by simp [Value.ownBlock, hgg]
  have hfg : vf.ownBlock = none ∨ vf.ownBlock ≠ some gg := by
    rcases hat with e | e
    · rw [← e]; exact a5
    · rcases hv : vf.ownBlock with _ | k
      · exact .inl rfl
      · right; have := (h.rowF.lt k hv).2; simp; omega
  have hwg : vw.ownBlock = none ∨ vw.ownBlock ≠ some gg := by
    rcases hat with e | e
    · rw [← e]; exact a6
    · rcases hv : vw.ownBlock with _ | k
      · exact .inl rfl
      · right; have := (h.rowW.lt k hv).2; simp; omega
  refine ⟨⟨by simp [World.setCell, Array.getElem?_modify, b4], f3.kept hs (.inr a1), ?_, w3'.kept hs (.inr a3), h.firmOk, h.whatOk, a1, hne, a3, a4, hfg, hwg⟩, ?_, ?_⟩
  · rw [List.length_append, List.map_append]
    exact hown.kept hs (.inr hne)
  · refine ⟨hgr.os.trans h3.os, hgr.tape.trans h3.tape, hgr.output.trans h3.output, by have := h3.size; have := hgr.size; simp [World.setCell]; omega, fun k hk hn => ?_⟩
    have hkg : k ≠ g := fun e => hn (.inl e)
    have hka : some k ≠ va.ownBlock := fun e => hn (.inr (.inr (.inl e.symm)))
    rw [Below.heap_setCell _ _ _ _ hkg, hgr.block k (by have := h3.size; omega) hka, h3.block k hk]
  · rcases hat with e | e
    · exact .inl (.inr (.inr (.inl e)))
    · exact .inr e

/-- The pages' row has a page more, laid into its field. -/
theorem RefAt.putWhat (h : RefAt g vf va vw firm ats what fuel off w) {gg cap : Nat} {p : List Value} (hp : IsPage p) (h3 : Below w.heap.size w w3)
    (hown : w4.ownsRow 0 63 64 (.slice (some ⟨gg, 0, none⟩) (what.length + 1) cap) (what.length + 1) (what.flatten ++ p)) (hgr : w3.grownBy w4 vw.ownBlock) (hat : vw.ownBlock = some gg ∨ w.heap.size ≤ gg) :
    RefAt g vf va (.slice (some ⟨gg, 0, none⟩) (what.length + 1) cap) firm ats (what ++ [p]) fuel off (w4.setCell ⟨g, 2, none⟩ (.slice (some ⟨gg, 0, none⟩) (what.length + 1) cap)) ∧
      Only (Foot g vf va vw) w (w4.setCell ⟨g, 2, none⟩ (.slice (some ⟨gg, 0, none⟩) (what.length + 1) cap)) ∧ (Foot g vf va vw gg ∨ w.heap.size ≤ gg) := by
  obtain ⟨a1, a2, a3, a4, a5, a6⟩ := h.apart
  have hlt := h.lt
  have hg3 : w.grownBy w3 none := ⟨h3.os, h3.tape, h3.output, h3.size, fun j hj _ => h3.block j hj⟩
  have ho : ∀ v : Value, v.ownBlock = none ∨ v.ownBlock ≠ none := fun v => by cases v.ownBlock <;> simp
  have a6' : va.ownBlock = none ∨ va.ownBlock ≠ vw.ownBlock := by
    rcases hv : va.ownBlock with _ | k
    · exact .inl rfl
    · right
      rcases a6 with e | e
      · rw [e]; simp
      · rw [hv] at e; exact fun e2 => e e2.symm
  have f3 := (h.rowF.kept hg3 (ho _)).kept hgr a4
  have a3' := (h.rowA.kept hg3 (ho _)).kept hgr a6'
  have b4 : w4.heap[g]? = some (.cells #[vf, va, vw, .int .i64 fuel, .bool off] 96 (0, 0)) :=
    (hgr.block g (by have := h3.size; omega) (fun e => a3 e.symm)).trans ((h3.block g hlt).trans h.at_)
  have hs := grown_setCell w4 ⟨g, 2, none⟩ (.slice (some ⟨gg, 0, none⟩) (what.length + 1) cap)
  have hgg : gg ≠ g := by
    rcases hat with e | e
    · intro e2; rw [e, e2] at a3; exact a3 rfl
    · omega
  have hne : (Value.slice (some ⟨gg, 0, none⟩) (what.length + 1) cap).ownBlock ≠ some g := by simp [Value.ownBlock, hgg]
  have hfg : vf.ownBlock = none ∨ vf.ownBlock ≠ some gg := by
    rcases hat with e | e
    · rw [← e]; exact a4
    · rcases hv : vf.ownBlock with _ | k
      · exact .inl rfl
      · right; have := (h.rowF.lt k hv).2; simp; omega
  have hwg : some gg ≠ va.ownBlock := by
    rcases hat with e | e
    · rw [← e]
      rcases a6 with e2 | e2
      · rw [e2] at e; cases e
      · exact e2
    · intro e2; have := (h.rowA.lt gg e2.symm).2; omega
  have hok : Pages (what ++ [p]) := fun q hq => by
    rcases List.mem_append.1 hq with hq | hq
    · exact h.whatOk q hq
    · rw [List.mem_singleton.1 hq]; exact hp
  refine ⟨⟨by simp [World.setCell, Array.getElem?_modify, b4], f3.kept hs (.inr a1), a3'.kept hs (.inr a2), ?_, h.firmOk, hok, a1, a2, hne, hfg, a5, .inr hwg⟩, ?_, ?_⟩
  · rw [List.length_append, List.flatten_append]
    have := hown.kept hs (.inr hne)
    simpa using this
  · refine ⟨hgr.os.trans h3.os, hgr.tape.trans h3.tape, hgr.output.trans h3.output, by have := h3.size; have := hgr.size; simp [World.setCell]; omega, fun k hk hn => ?_⟩
    have hkg : k ≠ g := fun e => hn (.inl e)
    have hka : some k ≠ vw.ownBlock := fun e => hn (.inr (.inr (.inr e.symm)))
    rw [Below.heap_setCell _ _ _ _ hkg, hgr.block k (by have := h3.size; omega) hka, h3.block k hk]
  · rcases hat with e | e
    · exact .inl (.inr (.inr (.inr e)))
    · exact .inr e
end
end Go.Proofs.YtegdlpllljccgaaDoor

/-
  The reference's disk: Write, walked.
-/
namespace Go.Proofs.YtegdlpllljccgaaDoor
open Go.RowKit Sh

theorem infoInt : (Tryd.prog.info? 3).map (fun i => (i.zero, i.size, i.bytes)) = some (some (.int .i64 0), 1, 8) := by kernel_rfl

def RWritePost (g : Nat) (vf : Value) (firm : List (List Value)) (ats : List Int) (what : List (List Value)) (fuel : Int) (off : Bool) (code : Int) (F : Nat → Prop) (w : World) (e : Ending) (w' : World) : Prop :=
  e = .returned (.int .i64 code) ∧ ∃ va' vw', RefAt g vf va' vw' firm ats what fuel off w' ∧ Only F w w' ∧ ∀ k, Foot g vf va' vw' k → F k ∨ w.heap.size ≤ k

theorem step_wp {P : Program} {ops : Array Oper} {o : Oper} {a : Act} {w : World} {K : Act → World → Prop} {Q : Exit → Act → World → Prop} {E : Prop} (hgd : o.guard = none) (h : Oper.wp P o a w K Q) : if Region.wanted o (yielded ops a.tmps) = true then Oper.wp P o a w K Q else E := by
  have hw : Region.wanted o (yielded ops a.tmps) = true := by simp [Region.wanted, hgd]
  rw [if_pos hw]
  exact h
theorem step_quiet {P : Program} {ops : Array Oper} {o : Oper} {a : Act} {w : World} {K : Act → World → Prop} {Q : Exit → Act → World → Prop} {E : Prop} (hgd : o.guard = none) {v : Value} (hrun : (execOp a.eval o).run P w = .ok (.value v) w) (h : K (a.put o.dst v) w) : if Region.wanted o (yielded ops a.tmps) = true then Oper.wp P o a w K Q else E := by
  refine step_wp hgd ?_
  unfold Oper.wp
  rw [hrun]
  exact h
theorem zeros_size : (Value.agg zeros64).cells.size = 64 := by
  show zeros64.size = 64
  unfold zeros64 zeroPage
  rw [List.size_toArray, List.length_replicate]

section
variable {g : Nat} {vf va vw : Value} {firm what : List (List Value)} {ats : List Int} {fuel : Int} {off : Bool} {w : World}

set_option maxRecDepth 100000 in
set_option maxHeartbeats 4000000 in
theorem rwrite_ok (h : RefAt g vf va vw firm ats what fuel false w) (hsame : what.length = ats.length) (hn : ats.length ≤ 1048576) (hf : fuel ≤ 9223372036854775807) (i : Int) (hi : 0 ≤ i ∧ i < (firm.length : Int)) (hfu : fuel ≠ 0) (p : List Value) (hp : IsPage p) :
    Calls Tryd.prog 36 #[.pointer (some ⟨g, 0, none⟩), .int .i64 i, .agg p.toArray] w (RWritePost g vf firm (ats ++ [i]) (what ++ [p]) (stepS fuel false).1 false 0 (Foot g vf va vw) w) := by
  obtain ⟨i0, hi0, hzz⟩ := Option.map_eq_some_iff.1 infoInt
  simp only [Prod.mk.injEq] at hzz
  have HI := Lib.hid hzz
  clear hzz
  have hb1 := (Below.refl w.heap.size w).alloc (Nat.le_refl _) (.cells p.toArray 63)
  have h1 := h.below hb1
  have hbox : (w.alloc (.cells p.toArray 63)).heap[w.heap.size]? = some (.cells p.toArray 63 (0, 0)) := heap_alloc_new w _
  obtain ⟨w1, hw1⟩ : ∃ w1, w1 = w.alloc (.cells p.toArray 63) := ⟨_, rfl⟩
  rw [← hw1] at hb1 h1 hbox
  have HW1 := Lib.hid hw1
  have hz1 : w1.heap.size = w.heap.size + 1 := by rw [hw1]; simp
  have c4' : (w.alloc (.cells p.toArray 63)).cell? ⟨g, 4, none⟩ = some (.bool false) := by rw [← hw1]; exact h1.cell 4
  clear hw1
  have c4 : w1.cell? ⟨g, 4, none⟩ = some (.bool false) := h1.cell 4
  have hno := no_any h1 i
  have hd : decide (i < 0 ∨ (firm.length : Int) ≤ i) = false := by simp; omega
  rw [hd] at hno
  have hstep := rstep_any h1 hf
  have hs2 : (stepS fuel false).2.1 = false ∧ (stepS fuel false).2.2 = 0 := by
    simp only [stepS, if_neg hfu, Bool.false_eq_true, if_false]
    split <;> exact ⟨rfl, rfl⟩
  rw [hs2.1, hs2.2] at hstep
  generalize (stepS fuel false).1 = fuel' at hstep
  go_enter Tryd.func36, Tryd.ntmps36
  go_wp2_with (first
    | (rw [← HW1.out]; go_at_call 47; refine hno.mono ?_; rintro e w' ⟨rfl, hw'⟩; rw [hw']; clear hw')
    | (go_at_call 55; refine hstep.mono ?_))
  rintro e w2 ⟨rfl, h2, hg2⟩
  have hbox2 : w2.heap[w.heap.size]? = some (.cells p.toArray 63 (0, 0)) := (hg2.block _ (by omega) (by have := h.lt; simp; omega)).trans hbox
  have hz2 := hg2.size
  have c1 : w2.cell? ⟨g, 1, none⟩ = some va := h2.cell 1
  have hgl := h2.lt
  have hown := h2.rowA
  have hvo2 : va.ownBlock ≠ some g := h2.apart.2.1
  have h12 := (Below.refl w2.heap.size w2).alloc (Nat.le_refl _) (.cells #[.int .i64 i] 3)
  have Hst := Lib.hid (fun (w3 : World) (hgr3 : (w2.alloc (.cells #[.int .i64 i] 3)).grownBy w3 va.ownBlock) => show w3.cell? ⟨g, 1, none⟩ = some va ∧ w3.frozen? ⟨g, 1, none⟩ = false from
    ⟨(hgr3.cell_far ⟨g, 1, none⟩ (by have := h12.size; simp only; omega) (fun e => hvo2 e.symm)).trans ((h12.cell (p := ⟨g, 1, none⟩) hgl).trans c1),
      (hgr3.frozen_far ⟨g, 1, none⟩ (by have := h12.size; simp only; omega) (fun e => hvo2 e.symm)).trans ((h12.frozen (p := ⟨g, 1, none⟩) hgl).trans (h2.thaw 1))⟩)
  obtain ⟨hq0, hq1, hq2⟩ := HI.out
  go_wp2_with (at_builtin; refine wpList_append_lies _ rfl _ _ _ rfl 0 3 i0 _ 1 8 Tryd.underlying69 hi0 hq0 hq1 hq2 rfl (by omega) va ats.length _ rfl (hown.alloc _) ⟨w2.heap.size, 0, none⟩ 1 1 [.int .i64 i] rfl rfl (World.news_of_block (cs := #[.int .i64 i]) (t := 3) (fr := (0, 0)) (heap_alloc_new w2 _)) (by simp [Value.oneCell']) (by omega) (by unfold maxLen; omega) (by omega) (by omega) (w2.heap.size + 1) (by simp) ?_)
  intro gg cap w4 hown4 hgr4 hat4 hlt4
  obtain ⟨hc4, hf4⟩ := Hst.out w4 hgr4
  obtain ⟨h5, ho5, hf5⟩ := h2.putAts h12 hown4 hgr4 (hat4.imp id (fun e => by omega))
  go_wp2
  have hnw : what.length ≤ 1048576 := by omega
  clear hsame
  generalize w4.setCell ⟨g, 1, none⟩ (.slice (some ⟨gg, 0, none⟩) (ats.length + 1) cap) = w5 at h5 ho5 ⊢
  have hnF : ¬ Foot g vf va vw w.heap.size := by
    intro hF
    rcases hF with e | e | e | e
    · have := h.lt; omega
    · have := (h.rowF.lt _ e).2; omega
    · have := (h.rowA.lt _ e).2; omega
    · have := (h.rowW.lt _ e).2; omega
  have hz5 := ho5.size
  have hbox5 := (ho5.block w.heap.size (by omega) hnF).trans hbox2
  refine wp_region_any (by kernel_rfl) ?_
  change wpAny _ _ _ _ _ _ _ (World.drew _)
  have h6 := h5.below (w' := w5.drew) ⟨rfl, rfl, rfl, Nat.le_refl _, fun _ _ => rfl⟩
  have ho6 : Only (Foot g vf va vw) w2 w5.drew := ⟨ho5.os, ho5.tape, ho5.output, ho5.size, ho5.block⟩
  have hbox6 : w5.drew.heap[w.heap.size]? = some (.cells p.toArray 63 (0, 0)) := hbox5
  generalize w5.drew = w6 at h6 ho6 hbox6 ⊢
  clear h5 ho5 hbox5 hbox2 hz5 hc4 hf4 hgr4 hown4 Hst c4 c4' c1 hno hstep
  have hz6 := ho6.size
  have hgl6 := h6.lt
  have hvw : vw.ownBlock ≠ some g := h6.apart.2.2.1
  have hrange : w6.rangeAt w.heap.size 0 p := fun j v hj => by rw [Nat.zero_add, cell_of_row w6 w.heap.size j _ _ _ hbox6]; simpa using hj
  have hld := run_loadAt_mid (P := Tryd.prog) w6 w.heap.size 0 63 p _ hrange Tryd.underlying63 rfl (by rw [hp.1]; exact info64)
  have c2 : w6.cell? ⟨g, 2, none⟩ = some vw := h6.cell 2
  have h67 := (Below.refl w6.heap.size w6).alloc (Nat.le_refl _) (.cells p.toArray 63)
  have ca : (w6.alloc (.cells p.toArray 63)).cell? ⟨g, 2, none⟩ = some vw := (h67.cell (p := ⟨g, 2, none⟩) hgl6).trans c2
  have Hst8 := Lib.hid (fun (w3 : World) (hgr3 : (w6.alloc (.cells p.toArray 63)).grownBy w3 vw.ownBlock) => show w3.cell? ⟨g, 2, none⟩ = some vw ∧ w3.frozen? ⟨g, 2, none⟩ = false from
    ⟨(hgr3.cell_far ⟨g, 2, none⟩ (by have := h67.size; simp only; omega) (fun e => hvw e.symm)).trans ca,
      (hgr3.frozen_far ⟨g, 2, none⟩ (by have := h67.size; simp only; omega) (fun e => hvw e.symm)).trans ((h67.frozen (p := ⟨g, 2, none⟩) hgl6).trans (h6.thaw 2))⟩)
  obtain ⟨ip, hip, hzp⟩ := Option.map_eq_some_iff.1 infoPage
  simp only [Prod.mk.injEq] at hzp
  obtain ⟨hp0, hp1, hp2⟩ := hzp
  have hfin : ∀ (gg2 cap2 : Nat) (w9 : World), RefAt g vf (.slice (some ⟨gg, 0, none⟩) (ats.length + 1) cap) (.slice (some ⟨gg2, 0, none⟩) (what.length + 1) cap2) firm (ats ++ [i]) (what ++ [p]) fuel' false w9 →
      Only (Foot g vf (.slice (some ⟨gg, 0, none⟩) (ats.length + 1) cap) vw) w6 w9 → (Foot g vf (.slice (some ⟨gg, 0, none⟩) (ats.length + 1) cap) vw gg2 ∨ w6.heap.size ≤ gg2) →
      RWritePost g vf firm (ats ++ [i]) (what ++ [p]) fuel' false 0 (Foot g vf va vw) w (.returned (.int .i64 0)) w9 := by
    intro gg2 cap2 w9 h9 ho9 hfo9
    have hFG : ∀ j, Foot g vf (.slice (some ⟨gg, 0, none⟩) (ats.length + 1) cap) vw j → Foot g vf va vw j ∨ w.heap.size ≤ j := by
      intro j hj
      rcases hj with e | e | e | e
      · exact .inl (.inl e)
      · exact .inl (.inr (.inl e))
      · obtain rfl : gg = j := by simpa [Value.ownBlock] using e
        exact hf5.imp id (fun e => by omega)
      · exact .inl (.inr (.inr (.inr e)))
    have hO : Only (Foot g vf va vw) w w9 := by
      exact (((Only.of_below (F := Foot g vf va vw) hb1).trans (Only.of_grown (F := fun k => k = g) hg2 (fun k e => by simpa using e.symm)) (fun j hj => .inl (.inl hj))).trans ho6 (fun j hj => .inl hj)).trans ho9 hFG
    refine ⟨rfl, _, _, h9, hO, fun k hk => ?_⟩
    rcases hk with e | e | e | e
    · exact .inl (.inl e)
    · exact .inl (.inr (.inl e))
    · exact hFG k (.inr (.inr (.inl e)))
    · obtain rfl : gg2 = k := by simpa [Value.ownBlock] using e
      rcases hfo9 with e | e
      · exact hFG gg2 e
      · exact .inr (by omega)
  refine wpAny_take (i := 0) (v := .pointer (some ⟨g, 0, none⟩)) rfl (by kernel_rfl) (by kernel_rfl) (by kernel_rfl) (fun _ _ _ h => h) (Or.inl ⟨by rfl, ?_⟩) ?_
  · intro w'; go_simp
  try simp only [List.getElem_toArray, List.getElem_cons_zero, Act.put, List.setIfInBounds_toArray, List.set]
  refine wpAny_take (i := 1) (v := .pointer (some ⟨g, 0, none⟩)) rfl (by kernel_rfl) (by kernel_rfl) (by kernel_rfl) (fun _ _ _ h => h) (Or.inl ⟨by rfl, ?_⟩) ?_
  · intro w'; go_simp
  try simp only [List.getElem_toArray, List.getElem_cons_succ, List.getElem_cons_zero, Act.put, List.setIfInBounds_toArray, List.set]
  refine wpAny_take (i := 2) (v := .pointer (some ⟨g, 0, none⟩)) rfl (by kernel_rfl) (by kernel_rfl) (by kernel_rfl) (fun _ _ _ h => h) (Or.inl ⟨by rfl, ?_⟩) ?_
  · intro w'; go_simp
  try simp only [List.getElem_toArray, List.getElem_cons_succ, List.getElem_cons_zero, Act.put, List.setIfInBounds_toArray, List.set]
  refine wpAny_take (i := 3) (v := .pointer (some ⟨g, 2, none⟩)) rfl (by kernel_rfl) (by kernel_rfl) (by kernel_rfl) (fun _ _ _ h => h) (Or.inl ⟨by rfl, ?_⟩) ?_
  · intro w'; go_simp
  try simp only [List.getElem_toArray, List.getElem_cons_succ, List.getElem_cons_zero, Act.put, List.setIfInBounds_toArray, List.set]
  refine wpAny_ready (rs := [4, 5]) (by kernel_rfl) (by simp) (AllReady.cons rfl (fun K hK => ?_) (AllReady.cons rfl (fun K hK => ?_) AllReady.nil))
  · refine step_quiet rfl (v := vw) (by have c := c2; go_simp) ?_
    refine hK _ _ ?_
    clear hK K
    try simp only [List.getElem_toArray, List.getElem_cons_succ, List.getElem_cons_zero, Act.put, List.setIfInBounds_toArray, List.set]
    refine wpAny_ready (rs := [5]) (by kernel_rfl) (by simp) (AllReady.cons rfl (fun K hK => ?_) AllReady.nil)
    refine step_quiet rfl (v := .agg p.toArray) (exec_load _ _ 63 _ rfl w.heap.size 0 rfl _ hld) ?_
    refine hK _ _ ?_
    clear hK K
    try simp only [List.getElem_toArray, List.getElem_cons_succ, List.getElem_cons_zero, Act.put, List.setIfInBounds_toArray, List.set]
    refine wpAny_ready (rs := [6]) (by kernel_rfl) (by simp) (AllReady.cons rfl (fun K hK => ?_) AllReady.nil)
    refine step_wp rfl (wp_build_page _ rfl p hp rfl ?_)
    refine hK _ _ ?_
    clear hK K
    try simp only [List.getElem_toArray, List.getElem_cons_succ, List.getElem_cons_zero, Act.put, List.setIfInBounds_toArray, List.set]
    refine wpAny_ready (rs := [7]) (by kernel_rfl) (by simp) (AllReady.cons rfl (fun K hK => ?_) AllReady.nil)
    refine step_append_lies _ rfl _ _ _ rfl 0 63 ip _ 64 64 Tryd.underlying80 hip hp0 hp1 hp2 (by rw [zeros_size]) (by omega) vw what.length _ rfl (h6.rowW.alloc _) ⟨w6.heap.size, 0, none⟩ 1 1 p rfl (by rw [hp.1]) (World.news_of_block (cs := p.toArray) (t := 63) (fr := (0, 0)) (heap_alloc_new w6 _)) hp.2 (by omega) (by unfold maxLen; omega) (by omega) (by omega) (w6.heap.size + 1) (by simp) ?_
    intro gg2 cap2 w8 hown8 hgr8 hat8 hlt8
    refine hK _ _ ?_
    clear hK K
    try simp only [List.getElem_toArray, List.getElem_cons_succ, List.getElem_cons_zero, Act.put, List.setIfInBounds_toArray, List.set]
    obtain ⟨hc8, hf8⟩ := Hst8.out w8 hgr8
    obtain ⟨h9, ho9, hfo9⟩ := h6.putWhat hp h67 hown8 hgr8 (hat8.imp id (fun e => by omega))
    refine wpAny_take (i := 8) (v := .pointer (some ⟨g, 0, none⟩)) rfl (by kernel_rfl) (by kernel_rfl) (by kernel_rfl) (fun _ _ _ h => h) (Or.inl ⟨by rfl, ?_⟩) ?_
    · intro w'; go_simp
    try simp only [List.getElem_toArray, List.getElem_cons_succ, List.getElem_cons_zero, Act.put, List.setIfInBounds_toArray, List.set]
    refine wpAny_take (i := 9) (v := .pointer (some ⟨g, 2, none⟩)) rfl (by kernel_rfl) (by kernel_rfl) (by kernel_rfl) (fun _ _ _ h => h) (Or.inl ⟨by rfl, ?_⟩) ?_
    · intro w'; go_simp
    try simp only [List.getElem_toArray, List.getElem_cons_succ, List.getElem_cons_zero, Act.put, List.setIfInBounds_toArray, List.set]
    refine wpAny_ready (rs := [10]) (by kernel_rfl) (by simp) (AllReady.cons rfl (fun K hK => ?_) AllReady.nil)
    go_simp
    refine hK _ _ ?_
    clear hK K
    try simp only [List.getElem_toArray, List.getElem_cons_succ, List.getElem_cons_zero, Act.put, List.setIfInBounds_toArray, List.set]
    refine wpAny_done (by kernel_rfl) ?_ _
    go_wp2
    go_ret
    exact hfin gg2 cap2 _ h9 ho9 hfo9
  · refine step_quiet rfl (v := .agg p.toArray) (exec_load _ _ 63 _ rfl w.heap.size 0 rfl _ hld) ?_
    refine hK _ _ ?_
    clear hK K
    try simp only [List.getElem_toArray, List.getElem_cons_succ, List.getElem_cons_zero, Act.put, List.setIfInBounds_toArray, List.set]
    refine wpAny_ready (rs := [4, 6]) (by kernel_rfl) (by simp) (AllReady.cons rfl (fun K hK => ?_) (AllReady.cons rfl (fun K hK => ?_) AllReady.nil))
    · refine step_quiet rfl (v := vw) (by have c := c2; go_simp) ?_
      refine hK _ _ ?_
      clear hK K
      try simp only [List.getElem_toArray, List.getElem_cons_succ, List.getElem_cons_zero, Act.put, List.setIfInBounds_toArray, List.set]
      refine wpAny_ready (rs := [6]) (by kernel_rfl) (by simp) (AllReady.cons rfl (fun K hK => ?_) AllReady.nil)
      refine step_wp rfl (wp_build_page _ rfl p hp rfl ?_)
      refine hK _ _ ?_
      clear hK K
      try simp only [List.getElem_toArray, List.getElem_cons_succ, List.getElem_cons_zero, Act.put, List.setIfInBounds_toArray, List.set]
      refine wpAny_ready (rs := [7]) (by kernel_rfl) (by simp) (AllReady.cons rfl (fun K hK => ?_) AllReady.nil)
      refine step_append_lies _ rfl _ _ _ rfl 0 63 ip _ 64 64 Tryd.underlying80 hip hp0 hp1 hp2 (by rw [zeros_size]) (by omega) vw what.length _ rfl (h6.rowW.alloc _) ⟨w6.heap.size, 0, none⟩ 1 1 p rfl (by rw [hp.1]) (World.news_of_block (cs := p.toArray) (t := 63) (fr := (0, 0)) (heap_alloc_new w6 _)) hp.2 (by omega) (by unfold maxLen; omega) (by omega) (by omega) (w6.heap.size + 1) (by simp) ?_
      intro gg2 cap2 w8 hown8 hgr8 hat8 hlt8
      refine hK _ _ ?_
      clear hK K
      try simp only [List.getElem_toArray, List.getElem_cons_succ, List.getElem_cons_zero, Act.put, List.setIfInBounds_toArray, List.set]
      obtain ⟨hc8, hf8⟩ := Hst8.out w8 hgr8
      obtain ⟨h9, ho9, hfo9⟩ := h6.putWhat hp h67 hown8 hgr8 (hat8.imp id (fun e => by omega))
      refine wpAny_take (i := 8) (v := .pointer (some ⟨g, 0, none⟩)) rfl (by kernel_rfl) (by kernel_rfl) (by kernel_rfl) (fun _ _ _ h => h) (Or.inl ⟨by rfl, ?_⟩) ?_
      · intro w'; go_simp
      try simp only [List.getElem_toArray, List.getElem_cons_succ, List.getElem_cons_zero, Act.put, List.setIfInBounds_toArray, List.set]
      refine wpAny_take (i := 9) (v := .pointer (some ⟨g, 2, none⟩)) rfl (by kernel_rfl) (by kernel_rfl) (by kernel_rfl) (fun _ _ _ h => h) (Or.inl ⟨by rfl, ?_⟩) ?_
      · intro w'; go_simp
      try simp only [List.getElem_toArray, List.getElem_cons_succ, List.getElem_cons_zero, Act.put, List.setIfInBounds_toArray, List.set]
      refine wpAny_ready (rs := [10]) (by kernel_rfl) (by simp) (AllReady.cons rfl (fun K hK => ?_) AllReady.nil)
      go_simp
      refine hK _ _ ?_
      clear hK K
      try simp only [List.getElem_toArray, List.getElem_cons_succ, List.getElem_cons_zero, Act.put, List.setIfInBounds_toArray, List.set]
      refine wpAny_done (by kernel_rfl) ?_ _
      go_wp2
      go_ret
      exact hfin gg2 cap2 _ h9 ho9 hfo9
    · refine step_wp rfl (wp_build_page _ rfl p hp rfl ?_)
      refine hK _ _ ?_
      clear hK K
      try simp only [List.getElem_toArray, List.getElem_cons_succ, List.getElem_cons_zero, Act.put, List.setIfInBounds_toArray, List.set]
      refine wpAny_ready (rs := [4]) (by kernel_rfl) (by simp) (AllReady.cons rfl (fun K hK => ?_) AllReady.nil)
      refine step_quiet rfl (v := vw) (by have c := ca; go_simp) ?_
      refine hK _ _ ?_
      clear hK K
      try simp only [List.getElem_toArray, List.getElem_cons_succ, List.getElem_cons_zero, Act.put, List.setIfInBounds_toArray, List.set]
      refine wpAny_ready (rs := [7]) (by kernel_rfl) (by simp) (AllReady.cons rfl (fun K hK => ?_) AllReady.nil)
      refine step_append_lies _ rfl _ _ _ rfl 0 63 ip _ 64 64 Tryd.underlying80 hip hp0 hp1 hp2 (by rw [zeros_size]) (by omega) vw what.length _ rfl (h6.rowW.alloc _) ⟨w6.heap.size, 0, none⟩ 1 1 p rfl (by rw [hp.1]) (World.news_of_block (cs := p.toArray) (t := 63) (fr := (0, 0)) (heap_alloc_new w6 _)) hp.2 (by omega) (by unfold maxLen; omega) (by omega) (by omega) (w6.heap.size + 1) (by simp) ?_
      intro gg2 cap2 w8 hown8 hgr8 hat8 hlt8
      refine hK _ _ ?_
      clear hK K
      try simp only [List.getElem_toArray, List.getElem_cons_succ, List.getElem_cons_zero, Act.put, List.setIfInBounds_toArray, List.set]
      obtain ⟨hc8, hf8⟩ := Hst8.out w8 hgr8
      obtain ⟨h9, ho9, hfo9⟩ := h6.putWhat hp h67 hown8 hgr8 (hat8.imp id (fun e => by omega))
      refine wpAny_take (i := 8) (v := .pointer (some ⟨g, 0, none⟩)) rfl (by kernel_rfl) (by kernel_rfl) (by kernel_rfl) (fun _ _ _ h => h) (Or.inl ⟨by rfl, ?_⟩) ?_
      · intro w'; go_simp
      try simp only [List.getElem_toArray, List.getElem_cons_succ, List.getElem_cons_zero, Act.put, List.setIfInBounds_toArray, List.set]
      refine wpAny_take (i := 9) (v := .pointer (some ⟨g, 2, none⟩)) rfl (by kernel_rfl) (by kernel_rfl) (by kernel_rfl) (fun _ _ _ h => h) (Or.inl ⟨by rfl, ?_⟩) ?_
      · intro w'; go_simp
      try simp only [List.getElem_toArray, List.getElem_cons_succ, List.getElem_cons_zero, Act.put, List.setIfInBounds_toArray, List.set]
      refine wpAny_ready (rs := [10]) (by kernel_rfl) (by simp) (AllReady.cons rfl (fun K hK => ?_) AllReady.nil)
      go_simp
      refine hK _ _ ?_
      clear hK K
      try simp only [List.getElem_toArray, List.getElem_cons_succ, List.getElem_cons_zero, Act.put, List.setIfInBounds_toArray, List.set]
      refine wpAny_done (by kernel_rfl) ?_ _
      go_wp2
      go_ret
      exact hfin gg2 cap2 _ h9 ho9 hfo9
end
end Go.Proofs.YtegdlpllljccgaaDoor

/-
  The reference's disk: Write where nothing is written.
-/
namespace Go.Proofs.YtegdlpllljccgaaDoor
open Go.RowKit Sh

section
variable {g : Nat} {vf va vw : Value} {firm what : List (List Value)} {ats : List Int} {fuel : Int} {off : Bool} {w : World}

/-- What Write answers, and leaves of fuel and of being off, where nothing is written. -/
def noWrite (firm : List (List Value)) (fuel : Int) (off : Bool) (i : Int) : Option (Int × Bool × Int) :=
  if off = true then some (fuel, true, 10) else if i < 0 ∨ (firm.length : Int) ≤ i then some (fuel, false, 1) else if fuel = 0 then some (fuel, true, 10) else none

set_option maxRecDepth 100000 in
set_option maxHeartbeats 4000000 in
theorem rwrite_no (h : RefAt g vf va vw firm ats what fuel off w) (hf : fuel ≤ 9223372036854775807) (i : Int) (p : List Value) (r : Int × Bool × Int) (hr : noWrite firm fuel off i = some r) :
    Calls Tryd.prog 36 #[.pointer (some ⟨g, 0, none⟩), .int .i64 i, .agg p.toArray] w fun e w' => e = .returned (.int .i64 r.2.2) ∧ RefAt g vf va vw firm ats what r.1 r.2.1 w' ∧ Only (fun k => k = g) w w' := by
  have hb1 := (Below.refl w.heap.size w).alloc (Nat.le_refl _) (.cells p.toArray 63)
  have h1 := h.below hb1
  have c4 : (w.alloc (.cells p.toArray 63)).cell? ⟨g, 4, none⟩ = some (.bool off) := h1.cell 4
  have hno := no_any h1 i
  have hstep := rstep_any h1 hf
  cases off with
  | true =>
    obtain rfl : (fuel, true, 10) = r := by simpa [noWrite] using hr
    go_enter Tryd.func36, Tryd.ntmps36
    go_wp2
    go_ret
    exact ⟨rfl, h1, Only.of_below hb1⟩
  | false =>
    by_cases hbad : i < 0 ∨ (firm.length : Int) ≤ i
    · obtain rfl : (fuel, false, 1) = r := by simpa [noWrite, hbad] using hr
      have hd : decide (i < 0 ∨ (firm.length : Int) ≤ i) = true := by simpa using hbad
      rw [hd] at hno
      clear hbad hd
      go_enter Tryd.func36, Tryd.ntmps36
      go_wp2_with (go_at_call 47; refine hno.mono ?_; rintro e w' ⟨rfl, rfl⟩)
      go_ret
      exact ⟨rfl, h1, Only.of_below hb1⟩
    · have h0 : fuel = 0 := by
        by_cases h0 : fuel = 0
        · exact h0
        · simp [noWrite, hbad, h0] at hr
      obtain rfl : (fuel, true, 10) = r := by simpa [noWrite, hbad, h0] using hr
      have hd : decide (i < 0 ∨ (firm.length : Int) ≤ i) = false := by simpa using hbad
      rw [hd] at hno
      have hs : stepS fuel false = (fuel, true, 10) := by simp [stepS, h0]
      rw [hs] at hstep
      clear hbad hd hs h0 hr
      go_enter Tryd.func36, Tryd.ntmps36
      go_wp2_with (first
        | (go_at_call 47; refine hno.mono ?_; rintro e w' ⟨rfl, rfl⟩)
        | (go_at_call 55; refine hstep.mono ?_; rintro e w2 ⟨rfl, h2, hg2⟩))
      go_ret
      exact ⟨rfl, h2, (Only.of_below (F := fun k => k = g) hb1).trans (Only.of_grown (F := fun k => k = g) hg2 (fun k e => by simpa using e.symm)) (fun j hj => .inl hj)⟩
end
end Go.Proofs.YtegdlpllljccgaaDoor

/-
  The reference's disk: Flush.
-/
namespace Go.Proofs.YtegdlpllljccgaaDoor
open Go.RowKit Sh

theorem wpStill_val {P : Program} {ops : Array Oper} {w : World} {Q : Act → Prop} {a : Act} {o : Oper} {rest : List Oper} (hg : o.guard = none) {v : Value} (hrun : (execOp a.eval o).run P w = .ok (.value v) w)
    (h : wpStill P ops w Q rest (a.put o.dst v)) : wpStill P ops w Q (o :: rest) a := by
  have hw : Region.wanted o (yielded ops a.tmps) = true := by simp [Region.wanted, hg]
  unfold wpStill
  rw [if_pos hw]
  unfold Oper.still
  rw [hrun, Oper.stillUpon_value]
  exact h

/-- A whole array stored into a row that is known whole. -/
theorem wpList_store_into {P : Program} {ops : Array Oper} {rest : List Oper} {o : Oper} {a : Act} {w : World} {Q : Exit → Act → World → Prop} (hgd : o.guard = none) (ty : TypeId) (x y : Operand)
    (ho : o.op = .store ty x y) (g off : Nat) (cells : Array Value) (hx : a.eval x = .pointer (some ⟨g, off, none⟩)) (hy : a.eval y = .agg cells) (cur : List Value) (t : TypeId) (hg : w.heap[g]? = some (.cells cur.toArray t (0, 0)))
    (hi : (P.info? ty).map (·.size) = some cells.size) (hfit : off + cells.size ≤ cur.length) (h1 : ∀ v ∈ cells.toList, v.oneCell' = true)
    (h : ∀ w', Hid (w'.heap[g]? = some (.cells (splice cur off cells.toList).toArray t (0, 0))) → Hid (w.grownBy w' (some g)) → wpList P ops Q rest (a.put o.dst undef) w') : wpList P ops Q (o :: rest) a w :=
  wpList_plain hgd fun K hK => by
    have hst := run_storeCells_at P g off t cells.toList 0 cur.toArray w hg (by simpa using hfit) h1
    have hrun : (storeVar ty ⟨g, off, none⟩ (.agg cells)).run P w = .ok () (w.setRow g (splice cur off cells.toList).toArray) := by
      cases hq : P.info? ty with
      | none => simp [hq] at hi
      | some i =>
        have hs : cells.size = i.size := by simp [hq] at hi; omega
        simp only [Nat.add_zero] at hst
        simp [storeVar, sizeOf, typeInfo, hq, Value.cells, hs, hst, splice]
    unfold Oper.wp execOp
    simp only [ho, hx, hy, Instr.storeAt, Instr.sureAddr, Sem.run_bind, Sem.run_pure, Result.andThen_ok, hrun]
    exact hK _ _ (h _ (setRow_heap w g _ _ t _ hg) ⟨rfl, rfl, rfl, by simp, fun k _ hne => setRow_other w g k _ (fun e => hne (by rw [e]))⟩)

/-- Firm is what was pending. -/
def flushS : List (List Value) → List Int → List (List Value) → List (List Value)
  | firm, a :: xs, p :: ys => flushS (firm.set a.toNat p) xs ys
  | firm, _, _ => firm

section
variable {g : Nat} {vf va vw : Value} {firm what : List (List Value)} {ats : List Int} {fuel : Int} {off : Bool} {w w' : World}

/-- A page of the firm ones is another one. -/
theorem RefAt.setFirm {gf cf : Nat} (h : RefAt g (.slice (some ⟨gf, 0, none⟩) firm.length cf) va vw firm ats what fuel off w) (k : Nat) (hk : k < firm.length) (p : List Value) (hp : IsPage p)
    (hst : ∀ cur : List Value, w.heap[gf]? = some (.cells cur.toArray 63 (0, 0)) → w'.heap[gf]? = some (.cells (splice cur (k * 64) p).toArray 63 (0, 0))) (hg : w.grownBy w' (some gf)) :
    RefAt g (.slice (some ⟨gf, 0, none⟩) firm.length cf) va vw (firm.set k p) ats what fuel off w' := by
  obtain ⟨a1, a2, a3, a4, a5, a6⟩ := h.apart
  have hgg : gf ≠ g := fun e => a1 (by rw [e]; rfl)
  have hr := own_store h.rowF h.firmOk rfl k hk p hp hst
  have hok : Pages (firm.set k p) := fun x hx => by
    rcases List.mem_or_eq_of_mem_set hx with hx | rfl
    · exact h.firmOk x hx
    · exact hp
  have n4 : vw.ownBlock = none ∨ vw.ownBlock ≠ some gf := by
    rcases a4 with e | e
    · simp [Value.ownBlock] at e
    · exact .inr (fun e2 => e (by rw [e2]; rfl))
  have n5 : va.ownBlock = none ∨ va.ownBlock ≠ some gf := by
    rcases a5 with e | e
    · simp [Value.ownBlock] at e
    · exact .inr (fun e2 => e (by rw [e2]; rfl))
  exact ⟨(hg.block g h.lt (fun e => hgg (by simpa using e.symm))).trans h.at_, by rw [List.length_set]; exact hr, h.rowA.kept hg n5, h.rowW.kept hg n4, hok, h.whatOk, a1, a2, a3, a4, a5, a6⟩

theorem RefAt.drew (h : RefAt g vf va vw firm ats what fuel off w) : RefAt g vf va vw firm ats what fuel off ({ w with drawn := w.drawn + 1 }) := by
  have hg : w.grownBy ({ w with drawn := w.drawn + 1 }) (some g) := ⟨rfl, rfl, rfl, Nat.le_refl _, fun _ _ _ => rfl⟩
  exact ⟨h.at_, h.rowF.kept hg (.inr h.apart.1), h.rowA.kept hg (.inr h.apart.2.1), h.rowW.kept hg (.inr h.apart.2.2.1), h.firmOk, h.whatOk, h.apart⟩
theorem Only.drew {F : Nat → Prop} {w w' : World} (h : Only F w w') : Only F w { w' with drawn := w'.drawn + 1 } :=
  h.trans (Only.of_grown (F := fun _ => False) (w' := { w' with drawn := w'.drawn + 1 }) (row := none) ⟨rfl, rfl, rfl, Nat.le_refl _, fun _ _ _ => rfl⟩ (fun _ e => by simp at e)) (fun _ e => e.elim)

/-- Nothing is pending any more. -/
theorem RefAt.putNone (h : RefAt g vf va vw firm ats what fuel off w) : RefAt g vf (.slice none 0 0) (.slice none 0 0) firm [] [] fuel off ((w.setCell ⟨g, 1, none⟩ (.slice none 0 0)).setCell ⟨g, 2, none⟩ (.slice none 0 0)) := by
  obtain ⟨a1, _, _, _, _, _⟩ := h.apart
  have g1 := grown_setCell w ⟨g, 1, none⟩ (.slice none 0 0)
  have g2 := grown_setCell (w.setCell ⟨g, 1, none⟩ (.slice none 0 0)) ⟨g, 2, none⟩ (.slice none 0 0)
  have ho : vf.ownBlock = none ∨ vf.ownBlock ≠ (Value.slice none 0 0).ownBlock := by cases hv : vf.ownBlock <;> simp [Value.ownBlock]
  exact ⟨by simp [World.setCell, Array.getElem?_modify, h.at_], (h.rowF.kept g1 (.inr a1)).kept g2 (.inr a1), World.ownsRow_nil _ _ _ _, World.ownsRow_nil _ _ _ _, h.firmOk, fun p hp => by simp at hp, a1, by simp [Value.ownBlock], by simp [Value.ownBlock], ho, ho, .inl rfl⟩

def FlushPost (g : Nat) (vf : Value) (firm : List (List Value)) (fuel : Int) (F : Nat → Prop) (w : World) (e : Ending) (w' : World) : Prop :=
  e = .returned (.int .i64 0) ∧ RefAt g vf (.slice none 0 0) (.slice none 0 0) firm [] [] fuel false w' ∧ Only F w w'

end
end Go.Proofs.YtegdlpllljccgaaDoor

/-
  The reference's disk: Flush where nothing is flushed.
-/
namespace Go.Proofs.YtegdlpllljccgaaDoor
open Go.RowKit Sh

section
variable {g : Nat} {vf va vw : Value} {firm what : List (List Value)} {ats : List Int} {fuel : Int} {off : Bool} {w : World}

end
end Go.Proofs.YtegdlpllljccgaaDoor

/-
  The reference's disk: Crash.
-/
namespace Go.Proofs.YtegdlpllljccgaaDoor
open Go.RowKit Sh

/-- What is left behind a crash: the firm pages, and of the pending ones the picked. -/
def crashS : Nat → List (List Value) → List Int → List (List Value) → List Int → List (List Value)
  | k, firm, a :: xs, p :: ys, pick => crashS (k + 1) (if (k : Int) ∈ pick then firm.set a.toNat p else firm) xs ys pick
  | _, firm, _, _, _ => firm

/-- A slice's numbers, wherever it lies below block N. -/
def Nums (N : Nat) (w : World) (bp : Option Addr) (xs : List Int) : Prop := xs = [] ∨ ∃ b o, bp = some ⟨b, o, none⟩ ∧ b < N ∧ ∀ (j : Nat) (v : Int), xs[j]? = some v → w.cell? ⟨b, o + j, none⟩ = some (.int .i64 v)
theorem Nums.below {N : Nat} {w w' : World} {bp : Option Addr} {xs : List Int} (h : Nums N w bp xs) (hb : Below N w w') : Nums N w' bp xs :=
  h.imp id (fun ⟨b, o, h1, h2, h3⟩ => ⟨b, o, h1, h2, fun j v hj => (hb.cell (p := ⟨b, o + j, none⟩) h2).trans (h3 j v hj)⟩)
theorem Nums.mono {N N' : Nat} {w : World} {bp : Option Addr} {xs : List Int} (h : Nums N w bp xs) (hN : N ≤ N') : Nums N' w bp xs :=
  h.imp id (fun ⟨b, o, h1, h2, h3⟩ => ⟨b, o, h1, by omega, h3⟩)

def CrashPost (firm : List (List Value)) (w : World) (e : Ending) (w' : World) : Prop := ∃ g vf, e = .returned (.pointer (some ⟨g, 0, none⟩)) ∧
  RefAt g vf (.slice none 0 0) (.slice none 0 0) firm [] [] (-1) false w' ∧ Below w.heap.size w w' ∧ w.heap.size ≤ g ∧ ∀ k, vf.ownBlock = some k → w.heap.size ≤ k

section
variable {g : Nat} {vf va vw : Value} {firm what : List (List Value)} {ats pick : List Int} {fuel : Int} {off : Bool} {w : World}

end
end Go.Proofs.YtegdlpllljccgaaDoor
