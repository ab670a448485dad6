/-
  A map from numbers to pages in memory.
-/
import Derived.Test.YtjkkbceddbkejaaGreatDoorBkMath
import Derived.Test.YtjkkbceddbkejaaGreatDoorJDk
import Derived.Maps.RangeWalk
set_option linter.unusedSimpArgs false
set_option linter.unusedVariables false
namespace Go.Proofs.YtjkkbceddbkejaaGreatDoor
open Go.RowKit Sh Go.Maps Go.ChangeMaps Go.MapKept

def pageV (p : List UInt8) : Value := .agg (p.map cu8).toArray
theorem pageV_inj {p q : List UInt8} (h : pageV p = pageV q) : p = q := by
  have : (p.map cu8).toArray = (q.map cu8).toArray := by simpa [pageV] using h
  exact cu8_inj (by simpa using congrArg Array.toList this)
open Classical in
noncomputable def pageE (v : Value) : Option (DataW Unit × List MemPlace) := if h : ∃ p : List UInt8, p.length = 64 ∧ v = pageV p then some (.lit (.string (Classical.choose h)), []) else none
theorem pageE_mk {p : List UInt8} (h : p.length = 64) : pageE (pageV p) = some (.lit (.string p), []) := by
  have hx : ∃ q : List UInt8, q.length = 64 ∧ pageV p = pageV q := ⟨p, h, rfl⟩
  unfold pageE
  rw [dif_pos hx, ← pageV_inj (Classical.choose_spec hx).2]
theorem pageE_inv {v : Value} {z : DataW Unit × List MemPlace} (h : pageE v = some z) : ∃ p : List UInt8, p.length = 64 ∧ v = pageV p ∧ z = (.lit (.string p), []) := by
  by_cases hx : ∃ q : List UInt8, q.length = 64 ∧ v = pageV q
  · obtain ⟨q, hq, rfl⟩ := hx
    rw [pageE_mk hq] at h
    exact ⟨q, hq, rfl, (Option.some.inj h).symm⟩
  · unfold pageE at h
    rw [dif_neg hx] at h
    cases h
theorem keyedInt : Keyed Tryz.prog 3 := int_keyed Tryz.underlying3
theorem key_int (i : Int) (h : -9223372036854775808 ≤ i ∧ i ≤ 9223372036854775807) : keyOf Tryz.prog 3 (.int .i64 i) = some (.int .i64 i) :=
  keyOf_int_mk Tryz.underlying3 (by simp [Lit.wf, IntKind.min, IntKind.max, IntKind.bits, IntKind.signed]; omega)
def z64p : List UInt8 := List.replicate 64 0
theorem zero_arr64 (w : World) : (zeroValue 33).run Tryz.prog w = .ok (.agg zeros64) w := by kernel_rfl
theorem zero_pageV (w : World) : (zeroValue 33).run Tryz.prog w = .ok (pageV z64p) w := by
  have e : pageV z64p = .agg zeros64 := by simp [pageV, z64p, zeros64, zeroPage, cu8, bz]
  rw [e]
  exact zero_arr64 w

/-- Block b is a map of these pages. -/
structure MapAt (b : Nat) (l : List Chg) (w : World) : Prop where
  owns : w.ownsMap Tryz.prog 3 pageE b l.length (mapD l)
  rises : Rising l
theorem owns_tight {w : World} {b n : Nat} {l : List Chg} (h : w.ownsMap Tryz.prog 3 pageE b n (mapD l)) : w.ownsMap Tryz.prog 3 pageE b l.length (mapD l) := by
  obtain ⟨es, clock, hb, F, hs, hD⟩ := h
  refine ⟨es, clock, hb, F, ?_, hD⟩
  have e := congrArg Maps.size hD
  rw [size_mapD] at e
  rw [e]
  simp [Maps.size, length_sorted]
theorem MapAt.lt {b : Nat} {l : List Chg} {w : World} (h : MapAt b l w) : b < w.heap.size := World.ownsMap.lt h.owns
theorem MapAt.of_block {b : Nat} {l : List Chg} {w w' : World} (h : MapAt b l w) (e : w'.heap[b]? = w.heap[b]?) : MapAt b l w' := by
  obtain ⟨es, clock, h1, h2⟩ := h.owns
  exact ⟨⟨es, clock, e.trans h1, h2⟩, h.rises⟩
theorem MapAt.below {b : Nat} {l : List Chg} {w w' : World} (h : MapAt b l w) (hb : Below w.heap.size w w') : MapAt b l w' := h.of_block (hb.block b h.lt)
theorem MapAt.made (w : World) : MapAt w.heap.size [] (w.alloc (.map #[] 0)) := ⟨World.ownsMap_made w _ _ _, List.Pairwise.nil⟩
theorem MapAt.lens {b : Nat} {l : List Chg} {w : World} (h : MapAt b l w) : ∀ c ∈ l, c.what.length = 64 := fun c hc => by
  obtain ⟨es, clock, _, F, _, hD⟩ := h.owns
  have hm : ((.int .i64 c.at_ : Lit), (.lit (.string c.what) : DataW Unit)) ∈ (es.toList.map (WideElems.rg Tryz.prog 3 pageE)).foldr DataW.insert [] := by
    have : entM l = (es.toList.map (WideElems.rg Tryz.prog 3 pageE)).foldr DataW.insert [] := by simpa [mapD] using hD
    rw [← this]; exact List.mem_map.2 ⟨c, hc, rfl⟩
  obtain ⟨x, hx, hxe⟩ := List.mem_map.1 (mem_sorted.1 hm)
  obtain ⟨y, hy⟩ := F.reads x hx
  obtain ⟨z, hz, hzd⟩ := WideElems.rd_val hy
  obtain ⟨p, hp, _, rfl⟩ := pageE_inv hz
  rw [WideElems.rg_of hy] at hxe
  rw [hxe] at hzd
  simp only [DataW.lit.injEq, Lit.string.injEq] at hzd
  rw [hzd]; exact hp

section
variable {b : Nat} {l : List Chg} {w : World}
theorem MapAt.look (h : MapAt b l w) (i : Nat) (hi : i < 9223372036854775807) :
    (Instr.lookup 105 (.map (some b)) (.int .i64 i) true).run Tryz.prog w = .ok (.tuple #[pageV ((getM l i).getD z64p), .bool (getM l i).isSome]) w := by
  obtain ⟨v, ps, hrun, hv⟩ := World.ownsMap.look_ok h.owns keyedInt Tryz.underlying105 (zero_pageV w) (pageE_mk (p := z64p) (by simp [z64p])) (key_int i (by omega))
  obtain ⟨p, hp, rfl, hz⟩ := pageE_inv hv
  rw [has_mapD] at hrun
  rw [atKey_mapD] at hz
  simp only [Prod.mk.injEq] at hz
  rw [hrun]
  cases hg : getM l i with
  | none =>
    rw [hg] at hz
    simp only [DataW.lit.injEq, Lit.string.injEq] at hz
    rw [Option.getD_none, hz.1]
  | some q =>
    rw [hg] at hz
    simp only [DataW.lit.injEq, Lit.string.injEq] at hz
    rw [Option.getD_some, hz.1]
theorem MapAt.len (h : MapAt b l w) (ty : TypeId) : (Builtin.len_ #[105] ty #[.map (some b)]).run Tryz.prog w = .ok (.int .i64 l.length) w := by
  rw [World.ownsMap.len h.owns Tryz.underlying105 ty, size_mapD]
theorem MapAt.store (h : MapAt b l w) (hn : l.length < maxLen) (i : Nat) (hi : i < 9223372036854775807) (p : List UInt8) (hp : p.length = 64) :
    ∃ w', (Instr.mapUpdate 105 (.map (some b)) (.int .i64 i) (pageV p)).run Tryz.prog w = .ok () w' ∧ MapAt b (putM l i p) w' ∧ w.grownBy w' (some b) := by
  obtain ⟨w', hrun, hown, ht⟩ := World.ownsMap.store h.owns keyedInt Tryz.underlying105 hn (key_int i (by omega)) (pageE_mk hp)
  rw [put_mapD h.rises] at hown
  exact ⟨w', hrun, ⟨owns_tight hown, rising_put h.rises⟩, ht.grown⟩
theorem MapAt.clear (h : MapAt b l w) (ty : TypeId) : ∃ w', (Builtin.clear_ #[105] ty #[.map (some b)]).run Tryz.prog w = .ok (.tuple #[]) w' ∧ MapAt b [] w' ∧ w.grownBy w' (some b) := by
  obtain ⟨es, clock, hb, _⟩ := h.owns
  refine ⟨setBlock w b (.map #[] clock), ?_, ⟨⟨#[], clock, heap_setBlock_same hb _, ⟨by simp, stamped_empty clock, by simp⟩, Nat.le_refl _, rfl⟩, List.Pairwise.nil⟩, ⟨rfl, rfl, rfl, by simp [setBlock], fun i _ hi => heap_setBlock_other hb _ (fun e => hi (by rw [e]))⟩⟩
  simp [Builtin.clear_, run_underlying Tryz.underlying105, MapKept.run_getObj_map hb, MapKept.run_setObj_map _ hb, Result.andThen, setBlock]
theorem wpList_look_page {ops : Array Oper} {rest : List Oper} {o : Oper} {a : Act} {Q : Exit → Act → World → Prop} (hg : o.guard = none) (m x : Operand) (hop : o.op = .lookup 105 m x true) (h : MapAt b l w) (i : Nat) (hi : i < 9223372036854775807)
    (hm : a.eval m = .map (some b)) (hx : a.eval x = .int .i64 i) (v : Value) (hv : Hid (v = pageV ((getM l i).getD z64p))) (k : Bool) (hk : Hid ((getM l i).isSome = k))
    (hK : wpList Tryz.prog ops Q rest (a.put o.dst (.tuple #[v, .bool k])) w) :
    wpList Tryz.prog ops Q (o :: rest) a w := by
  refine wpList_plain hg fun K' hK' => ?_
  have hrun := h.look i hi
  rw [← hv.out, hk.out] at hrun
  unfold Oper.wp
  simp only [execOp, hop, hm, hx, Sem.run_bind, hrun, Result.andThen, Sem.run_pure]
  exact hK' _ _ hK
theorem wpList_store_page {ops : Array Oper} {rest : List Oper} {o : Oper} {a : Act} {Q : Exit → Act → World → Prop} (hg : o.guard = none) (m x y : Operand) (hop : o.op = .mapUpdate 105 m x y) (h : MapAt b l w) (hn : l.length < maxLen) (i : Nat) (hi : i < 9223372036854775807) (p : List UInt8) (hp : p.length = 64)
    (hm : a.eval m = .map (some b)) (hx : a.eval x = .int .i64 i) (v : Value) (hv : Hid (v = pageV p)) (hy : a.eval y = v)
    (hK : ∀ w', Hid (MapAt b (putM l i p) w') → w.grownBy w' (some b) → wpList Tryz.prog ops Q rest (a.put o.dst undef) w') :
    wpList Tryz.prog ops Q (o :: rest) a w := by
  refine wpList_plain hg fun K' hK' => ?_
  obtain ⟨w', hrun, hown, ht⟩ := h.store hn i hi p hp
  rw [← hv.out] at hrun
  unfold Oper.wp
  simp only [execOp, hop, hm, hx, hy, Sem.run_bind, hrun, Result.andThen, Sem.run_pure]
  exact hK' _ _ (hK w' (Lib.hid hown) ht)
end
end Go.Proofs.YtjkkbceddbkejaaGreatDoor
