/-
  cdb.Decode; '==' of a task and itself.
-/
import Derived.Test.YtehhhbehclpkbaaCdDec
set_option linter.unusedSimpArgs false
set_option linter.unusedVariables false
namespace Go.Proofs.Ytehhhbehclpkbaa
open Go.RowKit Sh Cd

theorem part_cell {P : Program} (E : TypeId) (h : ∀ w, (isAgg E).run P w = .ok false w) (cs : Array Value) (k : Nat) (v : Value) (hv : cs[k]? = some v) (w : World) : (part E cs k).run P w = .ok v w := by
  unfold part
  rw [Sem.run_bind, h]
  simp [Result.andThen, hv]
theorem aggN (w : World) : (isAgg 3).run Try.prog w = .ok false w := by unfold isAgg; rw [Sem.run_bind, run_underlying Try.underlying3 w]; rfl
theorem aggU (w : World) : (isAgg 22).run Try.prog w = .ok false w := by unfold isAgg; rw [Sem.run_bind, run_underlying Try.underlying22 w]; rfl
theorem aggB (w : World) : (isAgg 4).run Try.prog w = .ok false w := by unfold isAgg; rw [Sem.run_bind, run_underlying Try.underlying4 w]; rfl
theorem eq_step {P : Program} {d : Nat} {xs ys : Array Value} {f : Field} {fs : List Field} {w : World} {a : Value} (hn : f.name ≠ "_") (pa : (part f.type xs f.offset).run P w = .ok a w) (pb : (part f.type ys f.offset).run P w = .ok a w)
    (he : (Op.equalIn d f.type a a).run P w = .ok true w) : (Op.eqFields d xs ys (f :: fs)).run P w = (Op.eqFields d xs ys fs).run P w := by
  rw [Op.eqFields, if_pos hn]
  simp only [Sem.run_bind, pa, pb, he, Result.andThen_ok]
  rfl
set_option maxRecDepth 100000 in
set_option maxHeartbeats 4000000 in
theorem task_refl (cs : Array Value) (t : Tk) (h : cs = t.cs) (w : World) : (binOp .eql 25 (.agg cs) (.agg cs)).run Try.prog w = .ok (.bool true) w := by
  subst h
  have eN : ∀ (x : Int), (Op.equalIn 9999 3 (.int .i64 x) (.int .i64 x)).run Try.prog w = .ok true w := fun x => by rw [run_equalIn_int (P := Try.prog) w 9998 3 .i64 .i64 x x Try.underlying3]; simp
  have eU : ∀ (x : Int), (Op.equalIn 9999 22 (.int .u64 x) (.int .u64 x)).run Try.prog w = .ok true w := fun x => by rw [run_equalIn_int (P := Try.prog) w 9998 22 .u64 .u64 x x Try.underlying22]; simp
  have eB : ∀ (x : Bool), (Op.equalIn 9999 4 (.bool x) (.bool x)).run Try.prog w = .ok true w := fun x => by rw [run_equalIn_bool' (P := Try.prog) w 9998 4 x x Try.underlying4]; simp
  have h0 : (Op.equalIn 10000 25 (.agg t.cs) (.agg t.cs)).run Try.prog w = .ok true w := by
    rw [run_equalIn_struct w 9999 25 _ _ (by kernel_rfl) (by kernel_rfl)]
    simp only [Program.fieldsOf, Try.underlying25]
    rw [eq_step (by decide) (part_cell (P := Try.prog) 3 aggN t.cs 0 _ rfl w) (part_cell (P := Try.prog) 3 aggN t.cs 0 _ rfl w) (eN _)]
    rw [eq_step (by decide) (part_cell (P := Try.prog) 22 aggU t.cs 1 _ rfl w) (part_cell (P := Try.prog) 22 aggU t.cs 1 _ rfl w) (eU _)]
    rw [eq_step (by decide) (part_cell (P := Try.prog) 22 aggU t.cs 2 _ rfl w) (part_cell (P := Try.prog) 22 aggU t.cs 2 _ rfl w) (eU _)]
    rw [eq_step (by decide) (part_cell (P := Try.prog) 4 aggB t.cs 3 _ rfl w) (part_cell (P := Try.prog) 4 aggB t.cs 3 _ rfl w) (eB _)]
    rw [eq_step (by decide) (part_cell (P := Try.prog) 4 aggB t.cs 4 _ rfl w) (part_cell (P := Try.prog) 4 aggB t.cs 4 _ rfl w) (eB _)]
    rw [eq_step (by decide) (part_cell (P := Try.prog) 3 aggN t.cs 5 _ rfl w) (part_cell (P := Try.prog) 3 aggN t.cs 5 _ rfl w) (eN _)]
    rw [eq_step (by decide) (part_cell (P := Try.prog) 3 aggN t.cs 6 _ rfl w) (part_cell (P := Try.prog) 3 aggN t.cs 6 _ rfl w) (eN _)]
    rw [eq_step (by decide) (part_cell (P := Try.prog) 3 aggN t.cs 7 _ rfl w) (part_cell (P := Try.prog) 3 aggN t.cs 7 _ rfl w) (eN _)]
    rw [eq_step (by decide) (part_cell (P := Try.prog) 3 aggN t.cs 8 _ rfl w) (part_cell (P := Try.prog) 3 aggN t.cs 8 _ rfl w) (eN _)]
    rw [eq_step (by decide) (part_cell (P := Try.prog) 3 aggN t.cs 9 _ rfl w) (part_cell (P := Try.prog) 3 aggN t.cs 9 _ rfl w) (eN _)]
    rw [eq_step (by decide) (part_cell (P := Try.prog) 3 aggN t.cs 10 _ rfl w) (part_cell (P := Try.prog) 3 aggN t.cs 10 _ rfl w) (eN _)]
    rw [eq_step (by decide) (part_cell (P := Try.prog) 4 aggB t.cs 11 _ rfl w) (part_cell (P := Try.prog) 4 aggB t.cs 11 _ rfl w) (eB _)]
    rfl
  rw [run_eql_struct, h0]
  rfl
set_option maxRecDepth 100000 in
set_option maxHeartbeats 4000000 in
theorem Decode_any (B : List UInt8) (hB : B.length = 16) (w : World) :
    Calls Try.prog 10 #[.agg (B.map cu8).toArray] w (TkP (decT B) (rowC B) w) := by
  have KD : Hid (∀ W, Calls Try.prog 11 #[.agg (B.map cu8).toArray] W (TkF (rowT B) (rowC B) W)) := Lib.hid (decode_any B hB)
  have HB := Lib.hid hB
  obtain ⟨T, HT⟩ : ∃ T, Hid (T = decT B) := ⟨_, Lib.hid rfl⟩
  obtain ⟨c, Hc⟩ : ∃ c, Hid (c = rowC B) := ⟨_, Lib.hid rfl⟩
  rw [← Hc.out] at KD
  rw [← HT.out, ← Hc.out]
  have hx := two_box w B
  have hz : (two w B).heap[w.heap.size + 1]? = some (.cells #[.int .i64 0, .int .u64 0, .int .u64 0, .bool false, .bool false, .int .i64 0, .int .i64 0, .int .i64 0, .int .i64 0, .int .i64 0, .int .i64 0, .bool false] 25 (0, 0)) := by unfold two; simpa using heap_alloc_new (w.alloc (.cells (B.map cu8).toArray 34)) _
  have hb := two_bel w B
  clear hB
  obtain ⟨av, Hav⟩ : ∃ av : Array Value, Hid (av = (B.map cu8).toArray) := ⟨_, Lib.hid rfl⟩
  have hai : Hid ((Try.prog.info? 34).map (·.size) = some av.size) := Lib.hid (by rw [Hav.out, List.size_toArray, List.length_map, HB.out]; exact infoB16)
  obtain ⟨zn, Hzn⟩ : ∃ zn : Array Value, Hid (zn = #[.int .i64 0, .int .u64 0, .int .u64 0, .bool false, .bool false, .int .i64 0, .int .i64 0, .int .i64 0, .int .i64 0, .int .i64 0, .int .i64 0, .bool false]) := ⟨_, Lib.hid rfl⟩
  have Hx8 : Hid ((two w B).heap[w.heap.size]? = some (.cells av 34 (0, 0))) := Lib.hid (by rw [Hav.out]; exact hx)
  have Hl2 := Lib.hid ((Array.getElem?_eq_some_iff.1 hz).1)
  have Hz8 : Hid ((two w B).heap[w.heap.size + 1]? = some (.cells zn 25 (0, 0))) := Lib.hid (by rw [Hzn.out]; exact hz)
  have Hb2 := Lib.hid hb
  unfold two at Hx8 Hz8 Hl2 Hb2
  rw [← Hav.out] at Hx8 Hz8 Hl2 Hb2 KD ⊢
  clear hx hz hb
  go_enter Try.func10, Try.ntmps10
  go_upto_region 1 with (fail)
  generalize (w.alloc (.cells av 34)).alloc (.cells #[.int .i64 0, .int .u64 0, .int .u64 0, .bool false, .bool false, .int .i64 0, .int .i64 0, .int .i64 0, .int .i64 0, .int .i64 0, .int .i64 0, .bool false] 25) = wa at Hx8 Hz8 Hl2 Hb2 ⊢
  go_cut [4, 5] (fun s4 s5 wd => ∃ (g4 : Nat) (cs : Array Value) (u : Tk), s4 = .pointer (some ⟨g4, 0, none⟩) ∧ s5 = .int .i64 (c : Nat) ∧ Hid (cs = u.cs) ∧ Hid (c = 0 → u = rowT B) ∧ Hid (wd.heap[g4]? = some (.cells cs 25 (0, 0))) ∧ Hid (wd.heap[w.heap.size + 1]? = some (.cells zn 25 (0, 0))) ∧ Hid (Below w.heap.size w wd))
  case first =>
    go_wp2_with (first
      | (refine wpList_load_row rfl 34 _ rfl w.heap.size rfl 34 av (0, 0) _ Hx8.out Try.underlying34 rfl hai.out ?_)
      | (go_at_call 11; refine (KD.out _).mono ?_; rintro e w1 ⟨u, cs, Hcs, rfl, Hu, hb1⟩; have Hb1w := Lib.hid hb1; have hci : Hid ((Try.prog.info? 25).map (·.size) = some cs.size) := Lib.hid (by rw [Hcs.out]; exact infoTk); have hcz : Hid ((#[.int .i64 0, .int .u64 0, .int .u64 0, .bool false, .bool false, .int .i64 0, .int .i64 0, .int .i64 0, .int .i64 0, .int .i64 0, .int .i64 0, .bool false] : Array Value).size = cs.size) := Lib.hid (by rw [Hcs.out]; rfl); have hc1 : Hid (cs.all (·.oneCell') = true) := Lib.hid (by rw [Hcs.out]; exact Tk.cs_one _); clear hb1)
      | (refine wpList_store_new rfl 25 _ _ rfl w1.heap.size rfl cs rfl rfl 25 #[.int .i64 0, .int .u64 0, .int .u64 0, .bool false, .bool false, .int .i64 0, .int .i64 0, .int .i64 0, .int .i64 0, .int .i64 0, .int .i64 0, .bool false] hci.out hcz.out hc1.out ?_))
    go_meet
    refine ⟨w1.heap.size, cs, u, rfl, rfl, Hcs, Hu, Lib.hid (by first | exact heap_alloc_new _ _ | simpa using heap_alloc_new w1 _), Lib.hid ?_, Lib.hid ((Hb2.out.trans (Hb1w.out.mono Hb2.out.size)).alloc (by have := Hb2.out.size; have := Hb1w.out.size; omega) _)⟩
    rw [Below.heap_alloc _ _ _ (by have := Hb1w.out.size; have := Hl2.out; omega), Hb1w.out.block _ Hl2.out, Hz8.out]
  case rest =>
    obtain ⟨g4, cs, u, rfl, rfl, Hcs, Hu, HT4, HZ4, HB4⟩ := hcut
    clear Hx8 Hz8 Hl2 Hb2 KD hai
    have hci : Hid ((Try.prog.info? 25).map (·.size) = some cs.size) := Lib.hid (by rw [Hcs.out]; exact infoTk)
    have hcz : Hid (zn.size = cs.size) := Lib.hid (by rw [Hcs.out, Hzn.out]; rfl)
    have hc1 : Hid (cs.all (·.oneCell') = true) := Lib.hid (by rw [Hcs.out]; exact Tk.cs_one _)
    by_cases h0 : c = 0
    · subst h0
      have hTu : Hid (T = u) := Lib.hid (by rw [HT.out, decT, ← Hc.out, if_pos rfl, Hu.out rfl])
      go_wp2_with (first
        | (refine wpList_load_row rfl 25 _ rfl g4 rfl 25 cs (0, 0) _ HT4.out Try.underlying25 rfl hci.out ?_)
        | (refine wpList_store_row rfl 25 _ _ rfl (w.heap.size + 1) cs rfl rfl 25 zn HZ4.out hci.out hcz.out hc1.out ?_))
      refine bodyPost_ret (v := .tuple #[.agg cs, .int .i64 0]) ?_ rfl ⟨by rw [Hcs.out, hTu.out]; rfl, below_setRow (g := w.heap.size + 1) HB4.out (by omega) cs⟩
      exact results_cell_row_tmp (ty := 25) rfl _ _ (w.heap.size + 1) 25 _ (0, 0) _ rfl (setRow_heap _ _ _ _ _ _ HZ4.out) Try.underlying25 rfl hci.out _ rfl
    · have hTu : Hid (T = {}) := Lib.hid (by rw [HT.out, decT, ← Hc.out, if_neg h0])
      have hn0 : ((c : Int) != 0) = true := by simpa using (by omega : (c : Int) ≠ 0)
      have hn1 : ((c : Int) == 0) = false := by rw [beq_eq_false_iff_ne]; omega
      have hzi : Hid ((Try.prog.info? 25).map (·.size) = some (#[.int .i64 0, .int .u64 0, .int .u64 0, .bool false, .bool false, .int .i64 0, .int .i64 0, .int .i64 0, .int .i64 0, .int .i64 0, .int .i64 0, .bool false] : Array Value).size) := Lib.hid infoTk
      have hzz : Hid (zn.size = (#[.int .i64 0, .int .u64 0, .int .u64 0, .bool false, .bool false, .int .i64 0, .int .i64 0, .int .i64 0, .int .i64 0, .int .i64 0, .int .i64 0, .bool false] : Array Value).size) := Lib.hid (by rw [Hzn.out])
      have hz1 : Hid ((#[.int .i64 0, .int .u64 0, .int .u64 0, .bool false, .bool false, .int .i64 0, .int .i64 0, .int .i64 0, .int .i64 0, .int .i64 0, .int .i64 0, .bool false] : Array Value).all (·.oneCell') = true) := Lib.hid (Tk.cs_one {})
      clear h0
      go_wp2_with (refine wpList_store_row rfl 25 _ _ rfl (w.heap.size + 1) #[.int .i64 0, .int .u64 0, .int .u64 0, .bool false, .bool false, .int .i64 0, .int .i64 0, .int .i64 0, .int .i64 0, .int .i64 0, .int .i64 0, .bool false] rfl rfl 25 zn HZ4.out hzi.out hzz.out hz1.out ?_)
      refine bodyPost_ret (v := .tuple #[.agg #[.int .i64 0, .int .u64 0, .int .u64 0, .bool false, .bool false, .int .i64 0, .int .i64 0, .int .i64 0, .int .i64 0, .int .i64 0, .int .i64 0, .bool false], .int .i64 (c : Nat)]) ?_ rfl ⟨by rw [hTu.out]; rfl, below_setRow (g := w.heap.size + 1) HB4.out (by omega) #[.int .i64 0, .int .u64 0, .int .u64 0, .bool false, .bool false, .int .i64 0, .int .i64 0, .int .i64 0, .int .i64 0, .int .i64 0, .int .i64 0, .bool false]⟩
      exact results_cell_row_tmp (ty := 25) rfl _ _ (w.heap.size + 1) 25 _ (0, 0) _ rfl (setRow_heap _ _ _ _ _ _ HZ4.out) Try.underlying25 rfl hzi.out _ rfl
end Go.Proofs.Ytehhhbehclpkbaa
