/-
  What the walks of cdb share.
-/
import Derived.Test.YtehhhbehclpkbaaCdNum
import Derived.StillTailTactics
import Derived.Laws.StructEq
import Derived.Deep.MidRow
import Derived.Laws.ResultCell
import Derived.Laws.Rows
import Derived.Laws.CopyOwn
import Derived.Laws.Tables
import Derived.Deep.Cut
import Derived.Deep.RegionHeld3
import Derived.Deep.DeepCutAuto
import Derived.Test.YtehhhbehclpkbaaPrLast
set_option linter.unusedSimpArgs false
set_option linter.unusedVariables false
namespace Go.Proofs.Ytehhhbehclpkbaa
open Go.RowKit Sh Cd

def TkP (t : Tk) (c : Nat) (w : World) (e : Ending) (w' : World) : Prop := e = .returned (.tuple #[t.V, .int .i64 (c : Int)]) ∧ Below w.heap.size w w'
theorem infoTk : (Try.prog.info? 25).map (·.size) = some 12 := by kernel_rfl
theorem infoB16 : (Try.prog.info? 34).map (·.size) = some 16 := by kernel_rfl
def z12 : Array Value := #[.int .i64 0, .int .u64 0, .int .u64 0, .bool false, .bool false, .int .i64 0, .int .i64 0, .int .i64 0, .int .i64 0, .int .i64 0, .int .i64 0, .bool false]
theorem Tk.cs_size (t : Tk) : t.cs.size = 12 := rfl
theorem Tk.cs_one (t : Tk) : t.cs.all (·.oneCell') = true := by simp [Tk.cs, Value.oneCell']
theorem load_task {w : World} {g : Nat} {cs : Array Value} (h : w.heap[g]? = some (.cells cs 25 (0, 0))) (hi : (Try.prog.info? 25).map (·.size) = some cs.size) : (Instr.loadAt 25 (.pointer (some ⟨g, 0, none⟩))).run Try.prog w = .ok (.agg cs) w :=
  run_loadAt_mid (P := Try.prog) w g 0 25 cs.toList _ (fun j v hj => by rw [Nat.zero_add, cell_of_row w g j _ _ _ h]; simpa using hj) Try.underlying25 rfl (by rw [hi]; simp)
/-- The two blocks that each of these begins with. -/
def two (w : World) (B : List UInt8) : World := (w.alloc (.cells (B.map cu8).toArray 34)).alloc (.cells #[.int .i64 0, .int .u64 0, .int .u64 0, .bool false, .bool false, .int .i64 0, .int .i64 0, .int .i64 0, .int .i64 0, .int .i64 0, .int .i64 0, .bool false] 25)
theorem two_box (w : World) (B : List UInt8) : BoxB B w.heap.size (two w B) := by
  unfold two BoxB
  rw [(Below.refl _ _).alloc (Nat.le_refl _) _ |>.block w.heap.size (by simp)]
  exact heap_alloc_new _ _
theorem two_bel (w : World) (B : List UInt8) : Below w.heap.size w (two w B) := ((Below.refl _ _).alloc (Nat.le_refl _) _).alloc (by simp) _
theorem three_at (w : World) (a b c : Obj) : (((w.alloc a).alloc b).alloc c).heap[w.heap.size]? = some a ∧ (((w.alloc a).alloc b).alloc c).heap[w.heap.size + 1]? = some b ∧ (((w.alloc a).alloc b).alloc c).heap[w.heap.size + 1 + 1]? = some c := by
  refine ⟨?_, ?_, ?_⟩
  · rw [Below.heap_alloc _ _ _ (by simp only [World.size_alloc]; omega), Below.heap_alloc _ _ _ (by simp only [World.size_alloc]; omega)]; exact heap_alloc_new w _
  · rw [Below.heap_alloc _ _ _ (by simp only [World.size_alloc]; omega)]; simpa using heap_alloc_new (w.alloc a) b
  · simpa using heap_alloc_new ((w.alloc a).alloc b) c
theorem twelve {w : World} {g : Nat} {v0 v1 v2 v3 v4 v5 v6 v7 v8 v9 v10 v11 : Value} {t : TypeId} (h : w.heap[g]? = some (.cells #[v0, v1, v2, v3, v4, v5, v6, v7, v8, v9, v10, v11] t (0, 0))) : w.cell? ⟨g, 0, none⟩ = some v0 ∧ w.cell? ⟨g, 1, none⟩ = some v1 ∧ w.cell? ⟨g, 2, none⟩ = some v2 ∧ w.cell? ⟨g, 3, none⟩ = some v3 ∧ w.cell? ⟨g, 4, none⟩ = some v4 ∧ w.cell? ⟨g, 5, none⟩ = some v5 ∧ w.cell? ⟨g, 6, none⟩ = some v6 ∧ w.cell? ⟨g, 7, none⟩ = some v7 ∧ w.cell? ⟨g, 8, none⟩ = some v8 ∧ w.cell? ⟨g, 9, none⟩ = some v9 ∧ w.cell? ⟨g, 10, none⟩ = some v10 ∧ w.cell? ⟨g, 11, none⟩ = some v11 :=
  ⟨cell_of_row w g 0 _ _ _ h, cell_of_row w g 1 _ _ _ h, cell_of_row w g 2 _ _ _ h, cell_of_row w g 3 _ _ _ h, cell_of_row w g 4 _ _ _ h, cell_of_row w g 5 _ _ _ h, cell_of_row w g 6 _ _ _ h, cell_of_row w g 7 _ _ _ h, cell_of_row w g 8 _ _ _ h, cell_of_row w g 9 _ _ _ h, cell_of_row w g 10 _ _ _ h, cell_of_row w g 11 _ _ _ h⟩
theorem three_bel (w : World) (a b c : Obj) : Below w.heap.size w (((w.alloc a).alloc b).alloc c) := (((Below.refl _ _).alloc (Nat.le_refl _) _).alloc (by simp) _).alloc (by simp; omega) _
/-- The bytes, the result and the task under way, each in its block. -/
structure Fr (w : World) (B : List UInt8) (C : Array Value) (wd : World) : Prop where
  hx : BoxB B w.heap.size wd
  hz : wd.heap[w.heap.size + 1]? = some (.cells #[.int .i64 0, .int .u64 0, .int .u64 0, .bool false, .bool false, .int .i64 0, .int .i64 0, .int .i64 0, .int .i64 0, .int .i64 0, .int .i64 0, .bool false] 25 (0, 0))
  ht : wd.heap[w.heap.size + 1 + 1]? = some (.cells C 25 (0, 0))
  hb : Below w.heap.size w wd
/-- .. the task in whatever block of the call's own. -/
structure Fg (w : World) (B : List UInt8) (C : Array Value) (g : Nat) (wd : World) : Prop where
  hx : BoxB B w.heap.size wd
  hz : wd.heap[w.heap.size + 1]? = some (.cells #[.int .i64 0, .int .u64 0, .int .u64 0, .bool false, .bool false, .int .i64 0, .int .i64 0, .int .i64 0, .int .i64 0, .int .i64 0, .int .i64 0, .bool false] 25 (0, 0))
  ht : wd.heap[g]? = some (.cells C 25 (0, 0))
  hb : Below w.heap.size w wd
  hg : w.heap.size + 1 + 1 ≤ g
theorem Fg.drew {w wd : World} {B : List UInt8} {C : Array Value} {g : Nat} (h : Fg w B C g wd) : Fg w B C g wd.drew := ⟨h.hx, h.hz, h.ht, h.hb.drew, h.hg⟩
theorem Fg.drawn {w wd : World} {B : List UInt8} {C : Array Value} {g : Nat} (h : Fg w B C g wd) : Fg w B C g { wd with drawn := wd.drawn + 1 } := h.drew
theorem Fg.cell {w wd : World} {B : List UInt8} {C : Array Value} {g : Nat} (h : Fg w B C g wd) (j : Nat) : wd.cell? ⟨g, j, none⟩ = C[j]? := cell_of_row wd _ j _ _ _ h.ht
theorem Fg.soft {w wd : World} {B : List UInt8} {C : Array Value} {g : Nat} (h : Fg w B C g wd) (j : Nat) : wd.frozen? ⟨g, j, none⟩ = false := by simp [World.frozen?, h.ht]
theorem Fg.set {w wd : World} {B : List UInt8} {C : Array Value} {g : Nat} (h : Fg w B C g wd) (j : Nat) (v : Value) : Fg w B (C.setIfInBounds j v) g (wd.setCell ⟨g, j, none⟩ v) := by
  have hg := h.hg
  have ho : ∀ k, k ≠ g → (wd.setCell ⟨g, j, none⟩ v).heap[k]? = wd.heap[k]? := fun k hk => Below.heap_setCell wd _ v k (by first | exact fun e => hk e.symm | exact fun e => hk e)
  refine ⟨?_, ?_, ?_, h.hb.setCell (p := ⟨g, j, none⟩) (by show w.heap.size ≤ g; omega) v, hg⟩
  · unfold BoxB; rw [ho _ (by omega)]; exact h.hx
  · rw [ho _ (by omega)]; exact h.hz
  · simp [World.setCell, Array.getElem?_modify, h.ht]
def TkE (t : Tk) (c : Nat) (w : World) (e : Ending) (w' : World) : Prop := ∃ u : Tk, e = .returned (.tuple #[u.V, .int .i64 (c : Int)]) ∧ (c = 0 → u = t) ∧ Below w.heap.size w w'
theorem Fr.of (w : World) (B : List UInt8) (C : Array Value) : Fr w B C (((w.alloc (.cells (B.map cu8).toArray 34)).alloc (.cells #[.int .i64 0, .int .u64 0, .int .u64 0, .bool false, .bool false, .int .i64 0, .int .i64 0, .int .i64 0, .int .i64 0, .int .i64 0, .int .i64 0, .bool false] 25)).alloc (.cells C 25)) :=
  ⟨(three_at w _ _ _).1, (three_at w _ _ _).2.1, (three_at w _ _ _).2.2, three_bel w _ _ _⟩
theorem Fr.drew {w wd : World} {B : List UInt8} {C : Array Value} (h : Fr w B C wd) : Fr w B C wd.drew := ⟨h.hx, h.hz, h.ht, h.hb.drew⟩
theorem Fr.drawn {w wd : World} {B : List UInt8} {C : Array Value} (h : Fr w B C wd) : Fr w B C { wd with drawn := wd.drawn + 1 } := h.drew
theorem Fr.cell {w wd : World} {B : List UInt8} {C : Array Value} (h : Fr w B C wd) (j : Nat) : wd.cell? ⟨w.heap.size + 1 + 1, j, none⟩ = C[j]? := cell_of_row wd _ j _ _ _ h.ht
theorem Fr.soft {w wd : World} {B : List UInt8} {C : Array Value} (h : Fr w B C wd) (j : Nat) : wd.frozen? ⟨w.heap.size + 1 + 1, j, none⟩ = false := by simp [World.frozen?, h.ht]
theorem Fr.set {w wd : World} {B : List UInt8} {C : Array Value} (h : Fr w B C wd) (j : Nat) (v : Value) : Fr w B (C.setIfInBounds j v) (wd.setCell ⟨w.heap.size + 1 + 1, j, none⟩ v) := by
  have ho : ∀ k, k ≠ w.heap.size + 1 + 1 → (wd.setCell ⟨w.heap.size + 1 + 1, j, none⟩ v).heap[k]? = wd.heap[k]? := fun k hk => Below.heap_setCell wd _ v k (by first | exact fun e => hk e.symm | exact fun e => hk e)
  refine ⟨?_, ?_, ?_, h.hb.setCell (p := ⟨w.heap.size + 1 + 1, j, none⟩) (by show w.heap.size ≤ w.heap.size + 1 + 1; omega) v⟩
  · unfold BoxB; rw [ho _ (by omega)]; exact h.hx
  · rw [ho _ (by omega)]; exact h.hz
  · simp [World.setCell, Array.getElem?_modify, h.ht]
theorem wpAnyH_oneR {P : Program} {md : Region.Mode} {ops : Array Oper} {Q : Exit → Act → World → Prop} {S : World → Prop} {fuel : Nat} {listed : Array Bool} {a : Act} {w : World} (i : Nat) (o : Oper) (hi : ops[i]? = some o) (hr : Region.ready md ops listed = [i])
    (hw : Region.wanted o (yielded ops a.tmps) = true) (h : ∀ K : Act → World → Prop, (∀ a' w', S w' → wpAnyH P md ops Q S fuel (listed.setIfInBounds i true) a' w' → K a' w') → Oper.wp P o a w K Q) : wpAnyH P md ops Q S (fuel + 1) listed a w := by
  refine wpAnyH_all hr (by simp) (fun j hj => ?_)
  obtain rfl : j = i := by simpa using hj
  unfold wpOp
  simp only [hi, hw, if_true]
  exact .inl (h _ fun _ _ h1 h2 => ⟨h1, h2⟩)
theorem wp_store_into {P : Program} {o : Oper} {a : Act} {w : World} {K : Act → World → Prop} {Q : Exit → Act → World → Prop} (ty : TypeId) (x y : Operand)
    (ho : o.op = .store ty x y) (g off : Nat) (cells : Array Value) (hx : a.eval x = .pointer (some ⟨g, off, none⟩)) (hy : a.eval y = .agg cells) (cur : List Value) (t : TypeId) (hg : w.heap[g]? = some (.cells cur.toArray t (0, 0)))
    (hi : (P.info? ty).map (·.size) = some cells.size) (hfit : off + cells.size ≤ cur.length) (h1 : ∀ v ∈ cells.toList, v.oneCell' = true)
    (h : ∀ w', w'.heap[g]? = some (.cells (splice cur off cells.toList).toArray t (0, 0)) → w.grownBy w' (some g) → K (a.put o.dst undef) w') : o.wp P a w K Q := by
  have hst := run_storeCells_at P g off t cells.toList 0 cur.toArray w hg (by simpa using hfit) h1
  have hrun : (storeVar ty ⟨g, off, none⟩ (.agg cells)).run P w = .ok () (w.setRow g (splice cur off cells.toList).toArray) := by
    cases hq : P.info? ty with
    | none => simp [hq] at hi
    | some i =>
      have hs : cells.size = i.size := by simp [hq] at hi; omega
      simp only [Nat.add_zero] at hst
      simp [storeVar, sizeOf, typeInfo, hq, Value.cells, hs, hst, splice]
  unfold Oper.wp execOp
  simp only [ho, hx, hy, Instr.storeAt, Instr.sureAddr, Sem.run_bind, Sem.run_pure, Result.andThen_ok, hrun]
  exact h _ (setRow_heap w g _ _ t _ hg) ⟨rfl, rfl, rfl, by simp, fun k _ hne => setRow_other w g k _ (fun e => hne (by rw [e]))⟩

theorem splice_whole (cur p : List Value) (h : p.length = cur.length) : splice cur 0 p = p := by
  simp [splice, h]
theorem wp_store_whole {P : Program} {o : Oper} {a : Act} {w : World} {K : Act → World → Prop} {Q : Exit → Act → World → Prop} (ty : TypeId) (x y : Operand)
    (ho : o.op = .store ty x y) (g : Nat) (cells : Array Value) (hx : a.eval x = .pointer (some ⟨g, 0, none⟩)) (hy : a.eval y = .agg cells) (cur : Array Value) (t : TypeId) (hg : w.heap[g]? = some (.cells cur t (0, 0)))
    (hi : (P.info? ty).map (·.size) = some cells.size) (hz : cur.size = cells.size) (h1 : cells.all (·.oneCell') = true)
    (h : ∀ w', Hid (w'.heap[g]? = some (.cells cells t (0, 0))) → Hid (w.grownBy w' (some g)) → K (a.put o.dst undef) w') : o.wp P a w K Q := by
  refine wp_store_into ty x y ho g 0 cells hx hy cur.toList t (by simpa using hg) hi (by rw [Nat.zero_add, Array.length_toList]; omega) (fun v hv => by
    rw [Array.all_eq_true'] at h1; exact h1 v (by simpa using hv)) (fun w' e1 e2 => h w' (Lib.hid ?_) (Lib.hid e2))
  rw [splice_whole _ _ (by simp; omega)] at e1
  simpa using e1
theorem below_of_grown {B g : Nat} {w a b : World} (h : Below B w a) (hg : a.grownBy b (some g)) (hB : B ≤ a.heap.size) (hBg : B ≤ g) : Below B w b :=
  h.trans ⟨hg.os, hg.tape, hg.output, hg.size, fun k hk => hg.block k (by omega) (by simp; omega)⟩
theorem wpStill_val {P : Program} {ops : Array Oper} {w : World} {Q : Act → Prop} {a : Act} {o : Oper} {rest : List Oper} (hg : o.guard = none) {v : Value} (hrun : (execOp a.eval o).run P w = .ok (.value v) w)
    (h : wpStill P ops w Q rest (a.put o.dst v)) : wpStill P ops w Q (o :: rest) a := by
  have hw : Region.wanted o (yielded ops a.tmps) = true := by simp [Region.wanted, hg]
  unfold wpStill
  rw [if_pos hw]
  unfold Oper.still
  rw [hrun, Oper.stillUpon_value]
  exact h
theorem results_cell_row_tmp {P : Program} {fn : Func} {p u : Tmp} {ty : TypeId} (h : fn.results = #[.cell p ty, .tmp u]) (tmps : Array Value) (w : World) (g : Nat) (t : TypeId) (cs : Array Value) (fr : Nat × Nat) (d : TypeDesc)
    (hp : tmps.getD p undef = .pointer (some ⟨g, 0, none⟩)) (hg : w.heap[g]? = some (.cells cs t fr))
    (hu : P.underlying ty = some d) (hd : (match d with | .struct _ | .array _ _ => true | _ => false) = true) (hi : (P.info? ty).map (·.size) = some cs.size) (x : Value) (hx : tmps.getD u undef = x) :
    (results fn tmps).run P w = .ok (.tuple #[.agg cs, x]) w := by
  have hp' : tmps[p]?.getD undef = .pointer (some ⟨g, 0, none⟩) := by simpa using hp
  have hx' : tmps[u]?.getD undef = x := by simpa using hx
  simp [results, h, hp', hx', asAddr, run_loadVar_row w g t ty cs fr d hg hu hd hi]
end Go.Proofs.Ytehhhbehclpkbaa
