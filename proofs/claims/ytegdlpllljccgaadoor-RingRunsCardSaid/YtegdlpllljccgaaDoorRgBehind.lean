/-
  The reference's ring: behind.
-/
import Derived.Test.YtegdlpllljccgaaDoorRgMark
set_option linter.unusedSimpArgs false
set_option linter.unusedVariables false
namespace Go.Proofs.YtegdlpllljccgaaDoor
open Go.RowKit Sh

/-- A whole value stored into a row that is known whole. -/
theorem wp_store_into {P : Program} {o : Oper} {a : Act} {w : World} {K : Act → World → Prop} {Q : Exit → Act → World → Prop} (ty : TypeId) (x y : Operand)
    (ho : o.op = .store ty x y) (g off : Nat) (cells : Array Value) (hx : a.eval x = .pointer (some ⟨g, off, none⟩)) (hy : a.eval y = .agg cells) (cur : List Value) (t : TypeId) (hg : w.heap[g]? = some (.cells cur.toArray t (0, 0)))
    (hi : (P.info? ty).map (·.size) = some cells.size) (hfit : off + cells.size ≤ cur.length) (h1 : ∀ v ∈ cells.toList, v.oneCell' = true)
    (h : ∀ w', w'.heap[g]? = some (.cells (splice cur off cells.toList).toArray t (0, 0)) → w.grownBy w' (some g) → K (a.put o.dst undef) w') : o.wp P a w K Q := by
  have hst := run_storeCells_at P g off t cells.toList 0 cur.toArray w hg (by simpa using hfit) h1
  have hrun : (storeVar ty ⟨g, off, none⟩ (.agg cells)).run P w = .ok () (w.setRow g (splice cur off cells.toList).toArray) := by
    cases hq : P.info? ty with
    | none => simp [hq] at hi
    | some i =>
      have hs : cells.size = i.size := by simp [hq] at hi; omega
      simp only [Nat.add_zero] at hst
      simp [storeVar, sizeOf, typeInfo, hq, Value.cells, hs, hst, splice]
  unfold Oper.wp execOp
  simp only [ho, hx, hy, Instr.storeAt, Instr.sureAddr, Sem.run_bind, Sem.run_pure, Result.andThen_ok, hrun]
  exact h _ (setRow_heap w g _ _ t _ hg) ⟨rfl, rfl, rfl, by simp, fun k _ hne => setRow_other w g k _ (fun e => hne (by rw [e]))⟩

theorem splice_ring (gd first n : Nat) (m m2 : Mk) (used : Nat) (h : m.last.length = 32) (h2 : m2.last.length = 32) :
    (splice (ringCells gd first n m used).toList 3 (markCells m2)).toArray = ringCells gd first n m2 used := by
  have e : (m.last.map cu8).length = 32 := by simp [h]
  have e2 : (m2.last.map cu8).length = 32 := by simp [h2]
  simp only [splice, ringCells, markCells]
  simp [h2, List.drop_append, h]
theorem set_ring (gd first n : Nat) (m : Mk) (used used2 : Nat) (h : m.last.length = 32) : (ringCells gd first n m used).setIfInBounds 37 (.int .i64 used2) = ringCells gd first n m used2 := by
  simp [ringCells, List.set_append, h]

section
variable {g gd first n used : Nat} {m : Mk} {w w' : World}
theorem RgAt.setUsed (h : RgAt g gd first n m used w) (u : Nat) : RgAt g gd first n m u (w.setCell ⟨g, 37, none⟩ (.int .i64 u)) := by
  refine ⟨?_, h.last⟩
  rw [← set_ring gd first n m used u h.last]
  simp [World.setCell, Array.getElem?_modify, h.at_]
theorem RgAt.thawed (h : RgAt g gd first n m used w) (j : Nat) : w.frozen? ⟨g, j, none⟩ = false := by simp [World.frozen?, h.at_]

set_option maxRecDepth 100000 in
set_option maxHeartbeats 4000000 in
theorem rbehind_any (h : RgAt g gd first n m used w) (hn0 : 0 < n) (hn1 : n ≤ 4096) (k : Nat) (hk : k ≤ 60) (hu : used ≤ 4096) (hpl : m.place ≤ 4096) (hnum : m.num < 18446744073709551616) (d : List UInt8) (hd : d.length = 32) :
    Calls Tryd.prog 42 #[.pointer (some ⟨g, 0, none⟩), .int .i64 k, .agg (d.map cu8).toArray] w
      fun e w' => e = .returned (.tuple #[]) ∧ RgAt g gd first n (behind n m k d) (used + takes k) w' ∧ Only (fun j => j = g) w w' := by
  obtain ⟨T, hT⟩ : ∃ T, takes k = T := ⟨_, rfl⟩
  have hTle : T ≤ 65 := by rw [← hT]; unfold takes; omega
  have hTk : ∀ w : World, Calls Tryd.prog 21 #[.int .i64 k] w fun e w' => e = .returned (.int .i64 T) ∧ w' = w := fun w => by rw [← hT]; exact rtakes_any k (by omega) w
  have hmod := Nat.mod_lt (m.place + T) hn0
  obtain ⟨P, hP⟩ : ∃ P : Nat, (m.place + T) % n = P := ⟨_, rfl⟩
  obtain ⟨N, hN⟩ : ∃ N : Nat, (m.num + 1) % 18446744073709551616 = N := ⟨_, rfl⟩
  have hm2 : behind n m k d = ⟨P, N, d⟩ := by unfold behind; rw [hT, hP, hN]
  rw [hm2, hT]
  have hn2 : ¬ n = 0 := by omega
  obtain ⟨U, hU⟩ : ∃ U : Nat, used + T = U := ⟨_, rfl⟩
  have w1 : IntKind.i64.wrap ((used : Int) + (T : Int)) = (U : Int) := by rw [IntWalk.i64_in _ (by omega)]; omega
  have w2 : IntKind.i64.wrap ((m.place : Int) + (T : Int)) = ((m.place + T : Nat) : Int) := by rw [IntWalk.i64_in _ (by omega)]; omega
  have wN : IntKind.u64.wrap ((m.num : Int) + 1) = (N : Int) := by rw [IntKind.wrap_u64, ← hN]; omega
  have w4 : ((m.place : Int) + (T : Int)) % (n : Int) = (P : Int) := by
    rw [← hP]
    show _ = ((m.place + T : Nat) : Int) % ((n : Nat) : Int)
    rw [Int.natCast_add]
  have w5 : ((m.place : Int) + (T : Int)).tmod (n : Int) = (P : Int) := by rw [Int.tmod_eq_emod_of_nonneg (by omega), w4]
  obtain ⟨dv, hdv⟩ : ∃ dv : List Value, d.map cu8 = dv := ⟨_, rfl⟩
  have hdl : dv.length = 32 := by rw [← hdv]; simp [hd]
  rw [hdv]
  have hb1 := (Below.refl w.heap.size w).alloc (Nat.le_refl _) (.cells dv.toArray 23)
  have hbox : (w.alloc (.cells dv.toArray 23)).heap[w.heap.size]? = some (.cells dv.toArray 23 (0, 0)) := heap_alloc_new w _
  have hlt := h.lt
  go_enter Tryd.func42, Tryd.ntmps42
  go_wp2
  generalize w.alloc (.cells dv.toArray 23) = wa at hb1 hbox ⊢
  refine wp_region_still_tail 7 (by kernel_rfl) (by kernel_rfl) ?_
  have hb2 : Below w.heap.size w { wa with drawn := wa.drawn + 1 } := hb1.drew
  have hbox2 : ({ wa with drawn := wa.drawn + 1 } : World).heap[w.heap.size]? = some (.cells dv.toArray 23 (0, 0)) := hbox
  obtain ⟨wd, hdr⟩ : ∃ wd : World, ({ wa with drawn := wa.drawn + 1 } : World) = wd := ⟨_, rfl⟩
  rw [hdr] at hb2 hbox2 ⊢
  clear hbox hb1 hdr
  have hS0 := h.below hb2
  obtain ⟨c0, c1, c2, c3, c4⟩ := hS0.cells
  have c37 := hS0.cell37
  have f37 := hS0.thawed 37
  simp only [List.take_succ_cons, List.take_zero, List.drop_succ_cons, List.drop_zero]
  iterate 5 still_step
  still_call (hTk wd)
  still_step
  refine wpStill_nil ?_
  have hS1 := hS0.setUsed U
  have hg1 := grown_setCell wd ⟨g, 37, none⟩ (.int .i64 U)
  have hb1 : wd.heap.size ≤ (wd.setCell ⟨g, 37, none⟩ (.int .i64 U)).heap.size := hg1.size
  have hgb : w.heap.size ≠ g := fun e => by have := h.lt; omega
  have hbox3 := (hg1.block w.heap.size (Array.getElem?_eq_some_iff.1 hbox2).1 (by simp; omega)).trans hbox2
  have ho1 : Only (fun j => j = g) w (wd.setCell ⟨g, 37, none⟩ (.int .i64 U)) := (Only.of_below hb2).trans (Only.of_grown (F := fun j => j = g) hg1 (fun j e => by simpa using e.symm)) (fun j hj => .inl hj)
  go_wp2
  clear c0 c1 c2 c3 c4 c37 f37 hS0 hb2 hbox2 hg1 hb1
  generalize wd.setCell ⟨g, 37, none⟩ (.int .i64 U) = wb at hS1 hbox3 ho1 ⊢
  refine wp_region_still_tail 22 (by kernel_rfl) (by kernel_rfl) ?_
  have hS2 : RgAt g gd first n m U { wb with drawn := wb.drawn + 1 } := ⟨hS1.at_, hS1.last⟩
  have ho2 : Only (fun j => j = g) w { wb with drawn := wb.drawn + 1 } := ho1.drew
  have hbox4 : ({ wb with drawn := wb.drawn + 1 } : World).heap[w.heap.size]? = some (.cells dv.toArray 23 (0, 0)) := hbox3
  obtain ⟨wc, hdr⟩ : ∃ wc : World, ({ wb with drawn := wb.drawn + 1 } : World) = wc := ⟨_, rfl⟩
  rw [hdr] at hS2 ho2 hbox4 ⊢
  clear hdr hS1 ho1 hbox3
  obtain ⟨c0, c1, c2, c3, c4⟩ := hS2.cells
  have hrange : wc.rangeAt w.heap.size 0 dv := fun j v hj => by rw [Nat.zero_add, cell_of_row wc w.heap.size j _ _ _ hbox4]; simpa using hj
  have HL := Lib.hid (run_loadAt_mid (P := Tryd.prog) wc w.heap.size 0 23 dv _ hrange Tryd.underlying23 rfl (by rw [hdl]; kernel_rfl))
  have HB := Lib.hid (built_mark ⟨P, N, d⟩ hd)
  rw [hdv] at HB
  simp only [List.take_succ_cons, List.take_zero, List.drop_succ_cons, List.drop_zero]
  iterate 7 still_step
  still_call (hTk wc)
  iterate 12 still_step
  refine wpStill_val rfl (v := .agg dv.toArray) ?_ ?_
  · unfold execOp
    rw [Sem.run_bind]
    exact (congrArg (fun r : Result Value => r.andThen fun v w' => (pure (Next.value v) : Sem Next).run Tryd.prog w') HL.out).trans rfl
  refine wpStill_val rfl (v := .agg (markCells ⟨P, N, d⟩).toArray) ?_ ?_
  · exact exec_build wc rfl (Eq.trans (congrArg (Program.built _ _) (by simp [Act.eval, Act.put])) HB.out)
  refine wpStill_nil ?_
  have hmk : (markCells ⟨P, N, d⟩).length = 34 := by simp [markCells, hd]
  have hlen : (ringCells gd first n m U).toList.length = 38 := by simp [ringCells, h.last]
  have hcells : wc.heap[g]? = some (.cells (ringCells gd first n m U).toList.toArray 55 (0, 0)) := hS2.at_
  have hsp := splice_ring gd first n m ⟨P, N, d⟩ U h.last hd
  have hone : ∀ v ∈ (markCells ⟨P, N, d⟩).toArray.toList, v.oneCell' = true := fun v hv => by
    simp only [markCells, List.mem_cons, List.mem_map] at hv
    rcases hv with rfl | rfl | ⟨x, _, rfl⟩ <;> rfl
  have HI : Hid ((Tryd.prog.info? 46).map (·.size) = some (markCells ⟨P, N, d⟩).toArray.size) := by
    rw [List.size_toArray, hmk]; exact (by kernel_rfl : (Tryd.prog.info? 46).map (·.size) = some 34)
  obtain ⟨mc, hmc⟩ : ∃ mc, markCells ⟨P, N, d⟩ = mc := ⟨_, rfl⟩
  obtain ⟨rc, hrc⟩ : ∃ rc, (ringCells gd first n m U).toList = rc := ⟨_, rfl⟩
  rw [hmc] at hmk hsp hone HI ⊢
  rw [hrc] at hlen hcells hsp
  have Hcells := Lib.hid hcells
  have hfit : Hid (3 + mc.toArray.size ≤ rc.length) := by show 3 + mc.toArray.size ≤ rc.length; rw [List.size_toArray]; omega
  have Hone := Lib.hid hone
  clear hcells hone HL HB c0 c1 c2 c3 c4
  go_wp2_with (first
    | (refine wpList_store_into rfl 46 _ _ rfl g 3 mc.toArray rfl rfl rc 55 Hcells.out HI.out hfit.out Hone.out ?_; intro w5 Hs5 Hg5))
  have hS5 : RgAt g gd first n ⟨P, N, d⟩ U w5 := ⟨by rw [← hsp]; exact Hs5.out, hd⟩
  have ho5 : Only (fun j => j = g) w w5 := ho2.trans (Only.of_grown (F := fun j => j = g) Hg5.out (fun j e => by simpa using e.symm)) (fun j hj => .inl hj)
  have hU2 : used + T = U := hU
  first | go_end0 | refine bodyPost_ret (v := .tuple #[]) (results_none rfl _ _ _) rfl ?_
  exact ⟨rfl, by first | exact hS5 | (rw [hU2]; exact hS5), ho5⟩
end
end Go.Proofs.YtegdlpllljccgaaDoor
