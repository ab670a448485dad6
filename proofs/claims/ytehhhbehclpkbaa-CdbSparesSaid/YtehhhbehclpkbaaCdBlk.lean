/-
  cdb.ofBlocks.
-/
import Derived.Test.YtehhhbehclpkbaaCdSpan
set_option linter.unusedSimpArgs false
set_option linter.unusedVariables false
namespace Go.Proofs.Ytehhhbehclpkbaa
open Go.RowKit Sh Cd

theorem doing_cases (o : Nat) : doing o = 0 ∨ doing o = 6 ∨ doing o = 7 ∨ doing o = 8 ∨ doing o = 10 ∨ doing o = 11 := by
  unfold doing
  split
  · simp
  split
  · simp
  split
  · simp
  split
  · simp
  split <;> simp
def SpQ (cs : Array Value) (b : Bool) (w : World) (e : Ending) (w' : World) : Prop := e = .returned (.tuple #[.agg cs, .bool b]) ∧ Below w.heap.size w w'
theorem blk_lt (B : List UInt8) : blkN B < 4294967296 := by
  unfold blkN
  have h1 := be_lt B 7 2
  have h2 := be_lt B 13 1
  have h3 := be_lt B 10 4
  split
  · exact Nat.lt_trans h1 (by decide)
  · split
    · exact Nat.lt_trans h2 (by decide)
    · exact Nat.lt_of_lt_of_le h3 (by decide)
set_option maxRecDepth 100000 in
set_option maxHeartbeats 4000000 in
theorem ofBlocks_any (B : List UInt8) (hB : B.length = 16) (w : World) :
    Calls Try.prog 17 #[.agg (B.map cu8).toArray] w (TkE (blkT B) (blkC B) w) := by
  have HB := Lib.hid hB
  have KS : Hid (∀ W, Calls Try.prog 19 #[.agg (B.map cu8).toArray] W (SpP (spanT B) (doing (b8 B 0) != 0) W)) := Lib.hid (span_any B hB)
  have hbk := blk_lt B
  obtain ⟨b1, hb1⟩ : ∃ x, b8 B 1 = x := ⟨_, rfl⟩
  have l1 : b1 < 256 := by rw [← hb1]; exact b8_lt B 1
  obtain ⟨LB, hLB⟩ : ∃ x, lbaN B = x := ⟨_, rfl⟩
  obtain ⟨BK, hBK⟩ : ∃ x, blkN B = x := ⟨_, rfl⟩
  obtain ⟨D, hD⟩ : ∃ x, doing (b8 B 0) = x := ⟨_, rfl⟩
  have hst : spanT B = { op := D, lba := LB, blk := BK } := by rw [spanT, hD, hLB, hBK]
  have Hst := Lib.hid hst
  rw [hst, hD] at KS
  rw [hBK] at hbk
  have HLB := Lib.hid hLB; have HBK := Lib.hid hBK; have Hb1 := Lib.hid hb1; have HD := Lib.hid hD
  obtain ⟨T, HT⟩ : ∃ T, Hid (T = blkT B) := ⟨_, Lib.hid rfl⟩
  obtain ⟨c, Hc⟩ : ∃ c, Hid (c = blkC B) := ⟨_, Lib.hid rfl⟩
  rw [← HT.out, ← Hc.out]
  clear hst hLB hBK hb1 hD hB
  obtain ⟨M, HM⟩ : ∃ M, Hid (M = decide (8 < BK)) := ⟨_, Lib.hid rfl⟩
  obtain ⟨ok, Hok⟩ : ∃ ok, Hid (ok = (D != 0)) := ⟨_, Lib.hid rfl⟩
  rw [← Hok.out] at KS
  obtain ⟨av, Hav⟩ : ∃ av : Array Value, Hid (av = (B.map cu8).toArray) := ⟨_, Lib.hid rfl⟩
  have hai : Hid ((Try.prog.info? 34).map (·.size) = some av.size) := Lib.hid (by rw [Hav.out, List.size_toArray, List.length_map, HB.out]; exact infoB16)
  rw [← Hav.out] at KS ⊢
  have KQ : Hid (∀ W, Calls Try.prog 19 #[.agg av] W (SpQ #[.int .i64 (D : Nat), .int .u64 (LB : Nat), .int .u64 (BK : Nat), .bool false, .bool false, .int .i64 0, .int .i64 0, .int .i64 0, .int .i64 0, .int .i64 0, .int .i64 0, .bool false] ok W)) := Lib.hid fun W => KS.out W
  clear KS
  go_enter Try.func17, Try.ntmps17
  go_upto_region 1 with (fail)
  have hx : ((w.alloc (.cells av 34)).alloc (.cells #[.int .i64 0, .int .u64 0, .int .u64 0, .bool false, .bool false, .int .i64 0, .int .i64 0, .int .i64 0, .int .i64 0, .int .i64 0, .int .i64 0, .bool false] 25)).heap[w.heap.size]? = some (.cells av 34 (0, 0)) := by rw [Hav.out]; exact two_box w B
  have hz : ((w.alloc (.cells av 34)).alloc (.cells #[.int .i64 0, .int .u64 0, .int .u64 0, .bool false, .bool false, .int .i64 0, .int .i64 0, .int .i64 0, .int .i64 0, .int .i64 0, .int .i64 0, .bool false] 25)).heap[w.heap.size + 1]? = some (.cells #[.int .i64 0, .int .u64 0, .int .u64 0, .bool false, .bool false, .int .i64 0, .int .i64 0, .int .i64 0, .int .i64 0, .int .i64 0, .int .i64 0, .bool false] 25 (0, 0)) := by simpa using heap_alloc_new (w.alloc (.cells av 34)) _
  have hb : Below w.heap.size w ((w.alloc (.cells av 34)).alloc (.cells #[.int .i64 0, .int .u64 0, .int .u64 0, .bool false, .bool false, .int .i64 0, .int .i64 0, .int .i64 0, .int .i64 0, .int .i64 0, .int .i64 0, .bool false] 25)) := ((Below.refl _ _).alloc (Nat.le_refl _) _).alloc (by simp) _
  have hsz : w.heap.size + 1 + 1 ≤ ((w.alloc (.cells av 34)).alloc (.cells #[.int .i64 0, .int .u64 0, .int .u64 0, .bool false, .bool false, .int .i64 0, .int .i64 0, .int .i64 0, .int .i64 0, .int .i64 0, .int .i64 0, .bool false] 25)).heap.size := by simp
  generalize (w.alloc (.cells av 34)).alloc (.cells #[.int .i64 0, .int .u64 0, .int .u64 0, .bool false, .bool false, .int .i64 0, .int .i64 0, .int .i64 0, .int .i64 0, .int .i64 0, .int .i64 0, .bool false] 25) = wa at hx hz hb hsz ⊢
  have Hx := Lib.hid hx; have Hz := Lib.hid hz; have Hb := Lib.hid hb
  clear hx hz hb
  go_cut [4, 5] (fun s4 s5 wd => ∃ g4 : Nat, s4 = .pointer (some ⟨g4, 0, none⟩) ∧ s5 = .bool ok ∧ Hid (Fg w B #[.int .i64 (D : Nat), .int .u64 (LB : Nat), .int .u64 (BK : Nat), .bool false, .bool false, .int .i64 0, .int .i64 0, .int .i64 0, .int .i64 0, .int .i64 0, .int .i64 0, .bool false] g4 wd))
  case first =>
    go_wp2_with (first
      | (refine wpList_load_row rfl 34 _ rfl w.heap.size rfl 34 av (0, 0) _ Hx.out Try.underlying34 rfl hai.out ?_)
      | (go_at_call 19; refine (KQ.out _).mono ?_; rintro e w1 ⟨rfl, hb1⟩; have Hb1w := Lib.hid hb1; have hs1 := hb1.size; clear hb1))
    go_meet
    refine ⟨w1.heap.size, rfl, rfl, Lib.hid ⟨?_, ?_, by first | exact heap_alloc_new _ _ | simpa using heap_alloc_new w1 _, (Hb.out.trans (Hb1w.out.mono Hb.out.size)).alloc (by have := Hb.out.size; omega) _, by omega⟩⟩
    · unfold BoxB
      rw [Below.heap_alloc _ _ _ (by omega), Hb1w.out.block _ (by omega), Hx.out, Hav.out]
    · rw [Below.heap_alloc _ _ _ (by omega), Hb1w.out.block _ (by omega), Hz.out]
  case rest =>
    obtain ⟨g4, rfl, rfl, HF⟩ := hcut
    clear Hx Hz Hb hsz wa KQ hai
    have l8 : (0 : Int) ≤ BK := by omega
    have hm : decide (8 < (BK : Int)) = M := by rw [HM.out, decide_eq_decide]; omega
    obtain ⟨SZ, hSZ⟩ : ∃ x, 64 * BK = x := ⟨_, rfl⟩
    obtain ⟨SZ2, hSZ2⟩ : ∃ x, 128 * BK = x := ⟨_, rfl⟩
    have s1 : (64 : Int) * (BK : Int) = (SZ : Int) := by omega
    have s2 : (SZ : Int) * 2 = (SZ2 : Int) := by omega
    have s3 : (SZ : Int) < 274877906944 := by omega
    have HSZ := Lib.hid hSZ; have HSZ2 := Lib.hid hSZ2
    obtain ⟨F3, HF3⟩ : ∃ F, Hid (bit3 b1 = F) := ⟨_, Lib.hid rfl⟩
    have hf3 : (bits .and .u8 (b1 : Int) 8 != 0) = F3 := by rw [← HF3.out]; exact bit3_of l1
    obtain ⟨O, HO⟩ : ∃ O, Hid (O = oth3 b1) := ⟨_, Lib.hid rfl⟩
    have ho : (bits .andNot .u8 (b1 : Int) 8 != 0) = O := by rw [HO.out]; exact oth3_of l1
    clear hSZ hSZ2
    have hDD : D = 0 ∨ D = 6 ∨ D = 7 ∨ D = 8 ∨ D = 10 ∨ D = 11 := by rw [← HD.out]; exact doing_cases _
    rcases hDD with rfl | rfl | rfl | rfl | rfl | rfl
    · obtain rfl : ok = false := Hok.out
      obtain rfl : c = 8192 := by rw [Hc.out]; unfold blkC; rw [HD.out]; rfl
      rename World => wd
      obtain ⟨cs, Hcs⟩ : ∃ cs : Array Value, Hid (cs = ({ op := 0, lba := LB, blk := BK } : Tk).cs) := ⟨_, Lib.hid rfl⟩
      obtain ⟨zn, Hzn⟩ : ∃ zn : Array Value, Hid (zn = #[.int .i64 0, .int .u64 0, .int .u64 0, .bool false, .bool false, .int .i64 0, .int .i64 0, .int .i64 0, .int .i64 0, .int .i64 0, .int .i64 0, .bool false]) := ⟨_, Lib.hid rfl⟩
      have hz8 : wd.heap[w.heap.size + 1]? = some (.cells zn 25 (0, 0)) := by rw [Hzn.out]; exact HF.out.hz
      have ht8 : wd.heap[g4]? = some (.cells cs 25 (0, 0)) := by rw [Hcs.out]; exact HF.out.ht
      have hb8 : Below w.heap.size w wd := HF.out.hb
      have hci : Hid ((Try.prog.info? 25).map (·.size) = some cs.size) := Lib.hid (by rw [Hcs.out]; exact infoTk)
      have hcz : Hid (zn.size = cs.size) := Lib.hid (by rw [Hcs.out, Hzn.out]; rfl)
      have hc1 : Hid (cs.all (·.oneCell') = true) := Lib.hid (by rw [Hcs.out]; exact Tk.cs_one _)
      have HZ8 := Lib.hid hz8; have HT8 := Lib.hid ht8; have HB8 := Lib.hid hb8
      clear hz8 ht8 hb8
      go_wp2_with (first
        | (refine wpList_load_row rfl 25 _ rfl g4 rfl 25 cs (0, 0) _ HT8.out Try.underlying25 rfl hci.out ?_)
        | (refine wpList_store_row rfl 25 _ _ rfl (w.heap.size + 1) cs rfl rfl 25 zn HZ8.out hci.out hcz.out hc1.out ?_))
      refine bodyPost_ret (v := .tuple #[.agg cs, .int .i64 (8192 : Nat)]) ?_ rfl ⟨_, by rw [Hcs.out]; rfl, (fun h => absurd h (by decide)), below_setRow (g := w.heap.size + 1) HB8.out (by omega) cs⟩
      exact results_cell_row_tmp (ty := 25) rfl _ _ (w.heap.size + 1) 25 _ (0, 0) _ rfl (setRow_heap _ _ _ _ _ _ HZ8.out) Try.underlying25 rfl hci.out _ rfl
    · obtain rfl : ok = true := Hok.out
      have x7 : wc.cell? ⟨w.heap.size, 1, none⟩ = some (.int .u8 (b1 : Nat)) := by rw [HF.out.hx.cell HB.out 1 (by omega), Hb1.out]
      have k7 : wc.cell? ⟨g4, 2, none⟩ = some (.int .u64 (BK : Nat)) := HF.out.cell 2
      have o7 : wc.cell? ⟨g4, 0, none⟩ = some (.int .i64 6) := HF.out.cell 0
      have d0 : (wc).cell? ⟨g4, 8, none⟩ = some (.int .i64 0) := (HF.out).cell 8
      have f0 := (HF.out).soft 8
      have d1 : ((wc).setCell ⟨g4, 8, none⟩ (.int .i64 (SZ : Nat))).cell? ⟨g4, 3, none⟩ = some (.bool false) := ((HF.out).set 8 (.int .i64 (SZ : Nat))).cell 3
      have f1 := ((HF.out).set 8 (.int .i64 (SZ : Nat))).soft 3
      have HF9 := Lib.hid (((HF.out).set 8 (.int .i64 (SZ : Nat))).set 3 (.bool F3))
      have hTT : Hid (T = ({ op := 6, lba := LB, blk := BK, fua := F3, all := SZ } : Tk)) := Lib.hid (by rw [HT.out]; unfold blkT; rw [HD.out]; simp only [Hst.out, HBK.out, Hb1.out, HF3.out, HSZ.out, HSZ2.out, reduceIte, Nat.reduceEqDiff])
      go_upto_region 17 with (fail)
      generalize ((wc).setCell ⟨g4, 8, none⟩ (.int .i64 (SZ : Nat))).setCell ⟨g4, 3, none⟩ (.bool F3) = wd at HF9 ⊢
      obtain ⟨cs, Hcs⟩ : ∃ cs : Array Value, Hid (cs = ({ op := 6, lba := LB, blk := BK, fua := F3, all := SZ } : Tk).cs) := ⟨_, Lib.hid rfl⟩
      obtain ⟨zn, Hzn⟩ : ∃ zn : Array Value, Hid (zn = #[.int .i64 0, .int .u64 0, .int .u64 0, .bool false, .bool false, .int .i64 0, .int .i64 0, .int .i64 0, .int .i64 0, .int .i64 0, .int .i64 0, .bool false]) := ⟨_, Lib.hid rfl⟩
      have hz8 : wd.heap[w.heap.size + 1]? = some (.cells zn 25 (0, 0)) := by rw [Hzn.out]; exact HF9.out.hz
      have ht8 : wd.heap[g4]? = some (.cells cs 25 (0, 0)) := by rw [Hcs.out]; exact HF9.out.ht
      have hb8 : Below w.heap.size w wd := HF9.out.hb
      have hci : Hid ((Try.prog.info? 25).map (·.size) = some cs.size) := Lib.hid (by rw [Hcs.out]; exact infoTk)
      have hcz : Hid (zn.size = cs.size) := Lib.hid (by rw [Hcs.out, Hzn.out]; rfl)
      have hc1 : Hid (cs.all (·.oneCell') = true) := Lib.hid (by rw [Hcs.out]; exact Tk.cs_one _)
      have x8 : wd.cell? ⟨w.heap.size, 1, none⟩ = some (.int .u8 (b1 : Nat)) := by rw [HF9.out.hx.cell HB.out 1 (by omega), Hb1.out]
      cases O
      · obtain rfl : c = code M := by rw [Hc.out]; unfold blkC; rw [HD.out]; simp [HBK.out, Hb1.out, ← HO.out, ← HM.out]
        obtain ⟨wq, hq⟩ : ∃ wq : World, ({ wd with drawn := wd.drawn + 1 } : World) = wq := ⟨_, rfl⟩
        have hz9 : wq.heap[w.heap.size + 1]? = some (.cells zn 25 (0, 0)) := by rw [← hq]; exact hz8
        have ht9 : wq.heap[g4]? = some (.cells cs 25 (0, 0)) := by rw [← hq]; exact ht8
        have hb9 : Below w.heap.size w wq := by rw [← hq]; exact hb8.drew
        have x9 : wq.cell? ⟨w.heap.size, 1, none⟩ = some (.int .u8 (b1 : Nat)) := by rw [← hq]; exact x8
        refine wp_region_up 9 (fun v => v = wq) (by kernel_rfl) ?_
        rw [hq]
        have hS : wq = wq := rfl
        have HL := Lib.hid (load_task ht9 hci.out)
        have HZ9 := Lib.hid hz9
        clear hq hz8 ht8 hb8 ht9 hz9 x8
        refine up_take (i := 0) (v := .agg cs) rfl (by kernel_rfl) (by kernel_rfl) (fun _ _ _ h => h) (Or.inl ⟨by rfl, ?_⟩) hS ?_
        · intro w' hS'; subst hS'; exact exec_load _ _ _ _ rfl _ _ rfl _ HL.out
        try simp only [List.getElem_toArray, List.getElem_cons_succ, List.getElem_cons_zero, Act.put, List.setIfInBounds_toArray, List.set]
        refine up_take (i := 1) (v := .pointer (some ⟨w.heap.size, 1, none⟩)) rfl (by kernel_rfl) (by kernel_rfl) (fun _ _ _ h => h) (Or.inl ⟨by rfl, ?_⟩) hS ?_
        · intro w' _; go_simp
        try simp only [List.getElem_toArray, List.getElem_cons_succ, List.getElem_cons_zero, Act.put, List.setIfInBounds_toArray, List.set]
        refine up_take (i := 2) (v := .int .u8 (b1 : Nat)) rfl (by kernel_rfl) (by kernel_rfl) (fun _ _ _ h => h) (Or.inl ⟨by rfl, ?_⟩) hS ?_
        · intro w' hS'
          subst hS'
          go_simp
        try simp only [List.getElem_toArray, List.getElem_cons_succ, List.getElem_cons_zero, Act.put, List.setIfInBounds_toArray, List.set]
        refine up_take (i := 3) (v := .int .u8 (bits .andNot .u8 (b1 : Nat) 8)) rfl (by kernel_rfl) (by kernel_rfl) (fun _ _ _ h => h) (Or.inl ⟨by rfl, ?_⟩) hS ?_
        · intro w' _; go_simp
        try simp only [List.getElem_toArray, List.getElem_cons_succ, List.getElem_cons_zero, Act.put, List.setIfInBounds_toArray, List.set]
        refine up_take (i := 4) (v := .bool false) rfl (by kernel_rfl) (by kernel_rfl) (fun _ _ _ h => h) (Or.inl ⟨by rfl, ?_⟩) hS ?_
        · intro w' _; go_simp
        try simp only [List.getElem_toArray, List.getElem_cons_succ, List.getElem_cons_zero, Act.put, List.setIfInBounds_toArray, List.set]
        refine up_take (i := 5) (v := .bool false) rfl (by kernel_rfl) (by kernel_rfl) (fun _ _ _ h => h) (Or.inl ⟨by rfl, ?_⟩) hS ?_
        · intro w' _; go_simp
        try simp only [List.getElem_toArray, List.getElem_cons_succ, List.getElem_cons_zero, Act.put, List.setIfInBounds_toArray, List.set]
        refine up_take (i := 6) (v := .bool M) rfl (by kernel_rfl) (by kernel_rfl) (fun _ _ _ h => h) (Or.inl ⟨by rfl, ?_⟩) hS ?_
        · intro w' _; go_simp
        try simp only [List.getElem_toArray, List.getElem_cons_succ, List.getElem_cons_zero, Act.put, List.setIfInBounds_toArray, List.set]
        refine up_take (i := 7) (v := .bool M) rfl (by kernel_rfl) (by kernel_rfl) (fun _ _ _ h => h) (Or.inl ⟨by rfl, ?_⟩) hS ?_
        · intro w' _; go_simp
        try simp only [List.getElem_toArray, List.getElem_cons_succ, List.getElem_cons_zero, Act.put, List.setIfInBounds_toArray, List.set]
        refine up_one 8 _ rfl (by kernel_rfl) (by decide) (by rfl) (fun K hK => ?_)
        go_simp
        refine (fieldIf_any (w := wq) M).mono ?_
        rintro e w' ⟨rfl, rfl⟩
        refine hK _ _ rfl ?_
        clear hK K
        try simp only [List.getElem_toArray, List.getElem_cons_succ, List.getElem_cons_zero, Act.put, List.setIfInBounds_toArray, List.set]
        refine up_tail ?_
        refine up_last 9 _ rfl (by kernel_rfl) (by decide) (by rfl) (fun K hK => ?_)
        refine wp_store_whole 25 _ _ rfl (w.heap.size + 1) cs rfl rfl zn 25 HZ9.out hci.out hcz.out hc1.out ?_
        intro w5 Hs5 Hg5
        refine hK _ _ ?_
        clear hK K
        try simp only [List.getElem_toArray, List.getElem_cons_succ, List.getElem_cons_zero, Act.put, List.setIfInBounds_toArray, List.set]
        refine up_last 10 _ rfl (by kernel_rfl) (by decide) (by rfl) (fun K hK => ?_)
        go_simp
        refine hK _ _ ?_
        clear hK K
        try simp only [List.getElem_toArray, List.getElem_cons_succ, List.getElem_cons_zero, Act.put, List.setIfInBounds_toArray, List.set]
        refine up_done (by kernel_rfl) ?_ _
        go_wp2
        refine bodyPost_ret (v := .tuple #[.agg cs, .int .i64 (code M : Nat)]) ?_ rfl ⟨_, by rw [Hcs.out]; rfl, fun _ => hTT.out.symm, below_of_grown (g := w.heap.size + 1) hb9 Hg5.out (by have := hb9.size; omega) (by omega)⟩
        exact results_cell_row_tmp (ty := 25) rfl _ _ (w.heap.size + 1) 25 _ (0, 0) _ rfl Hs5.out Try.underlying25 rfl hci.out _ rfl
      · obtain rfl : c = code true := by rw [Hc.out]; unfold blkC; rw [HD.out]; simp [HBK.out, Hb1.out, ← HO.out, ← HM.out]
        obtain ⟨wq, hq⟩ : ∃ wq : World, ({ wd with drawn := wd.drawn + 1 } : World) = wq := ⟨_, rfl⟩
        have hz9 : wq.heap[w.heap.size + 1]? = some (.cells zn 25 (0, 0)) := by rw [← hq]; exact hz8
        have ht9 : wq.heap[g4]? = some (.cells cs 25 (0, 0)) := by rw [← hq]; exact ht8
        have hb9 : Below w.heap.size w wq := by rw [← hq]; exact hb8.drew
        have x9 : wq.cell? ⟨w.heap.size, 1, none⟩ = some (.int .u8 (b1 : Nat)) := by rw [← hq]; exact x8
        refine wp_region_up 9 (fun v => v = wq) (by kernel_rfl) ?_
        rw [hq]
        have hS : wq = wq := rfl
        have HL := Lib.hid (load_task ht9 hci.out)
        have HZ9 := Lib.hid hz9
        clear hq hz8 ht8 hb8 ht9 hz9 x8
        refine up_take (i := 0) (v := .agg cs) rfl (by kernel_rfl) (by kernel_rfl) (fun _ _ _ h => h) (Or.inl ⟨by rfl, ?_⟩) hS ?_
        · intro w' hS'; subst hS'; exact exec_load _ _ _ _ rfl _ _ rfl _ HL.out
        try simp only [List.getElem_toArray, List.getElem_cons_succ, List.getElem_cons_zero, Act.put, List.setIfInBounds_toArray, List.set]
        refine up_take (i := 1) (v := .pointer (some ⟨w.heap.size, 1, none⟩)) rfl (by kernel_rfl) (by kernel_rfl) (fun _ _ _ h => h) (Or.inl ⟨by rfl, ?_⟩) hS ?_
        · intro w' _; go_simp
        try simp only [List.getElem_toArray, List.getElem_cons_succ, List.getElem_cons_zero, Act.put, List.setIfInBounds_toArray, List.set]
        refine up_take (i := 2) (v := .int .u8 (b1 : Nat)) rfl (by kernel_rfl) (by kernel_rfl) (fun _ _ _ h => h) (Or.inl ⟨by rfl, ?_⟩) hS ?_
        · intro w' hS'
          subst hS'
          go_simp
        try simp only [List.getElem_toArray, List.getElem_cons_succ, List.getElem_cons_zero, Act.put, List.setIfInBounds_toArray, List.set]
        refine up_take (i := 3) (v := .int .u8 (bits .andNot .u8 (b1 : Nat) 8)) rfl (by kernel_rfl) (by kernel_rfl) (fun _ _ _ h => h) (Or.inl ⟨by rfl, ?_⟩) hS ?_
        · intro w' _; go_simp
        try simp only [List.getElem_toArray, List.getElem_cons_succ, List.getElem_cons_zero, Act.put, List.setIfInBounds_toArray, List.set]
        refine up_take (i := 4) (v := .bool true) rfl (by kernel_rfl) (by kernel_rfl) (fun _ _ _ h => h) (Or.inl ⟨by rfl, ?_⟩) hS ?_
        · intro w' _; go_simp
        try simp only [List.getElem_toArray, List.getElem_cons_succ, List.getElem_cons_zero, Act.put, List.setIfInBounds_toArray, List.set]
        refine up_take (i := 5) (v := .bool true) rfl (by kernel_rfl) (by kernel_rfl) (fun _ _ _ h => h) (Or.inl ⟨by rfl, ?_⟩) hS ?_
        · intro w' _; go_simp
        try simp only [List.getElem_toArray, List.getElem_cons_succ, List.getElem_cons_zero, Act.put, List.setIfInBounds_toArray, List.set]
        refine up_take (i := 6) (v := undef) rfl (by kernel_rfl) (by kernel_rfl) (fun _ _ _ h => h) (Or.inr ⟨by rfl, rfl⟩) hS ?_
        try simp only [List.getElem_toArray, List.getElem_cons_succ, List.getElem_cons_zero, Act.put, List.setIfInBounds_toArray, List.set]
        refine up_take (i := 7) (v := .bool true) rfl (by kernel_rfl) (by kernel_rfl) (fun _ _ _ h => h) (Or.inl ⟨by rfl, ?_⟩) hS ?_
        · intro w' _; go_simp
        try simp only [List.getElem_toArray, List.getElem_cons_succ, List.getElem_cons_zero, Act.put, List.setIfInBounds_toArray, List.set]
        refine up_one 8 _ rfl (by kernel_rfl) (by decide) (by rfl) (fun K hK => ?_)
        go_simp
        refine (fieldIf_any (w := wq) true).mono ?_
        rintro e w' ⟨rfl, rfl⟩
        refine hK _ _ rfl ?_
        clear hK K
        try simp only [List.getElem_toArray, List.getElem_cons_succ, List.getElem_cons_zero, Act.put, List.setIfInBounds_toArray, List.set]
        refine up_tail ?_
        refine up_last 9 _ rfl (by kernel_rfl) (by decide) (by rfl) (fun K hK => ?_)
        refine wp_store_whole 25 _ _ rfl (w.heap.size + 1) cs rfl rfl zn 25 HZ9.out hci.out hcz.out hc1.out ?_
        intro w5 Hs5 Hg5
        refine hK _ _ ?_
        clear hK K
        try simp only [List.getElem_toArray, List.getElem_cons_succ, List.getElem_cons_zero, Act.put, List.setIfInBounds_toArray, List.set]
        refine up_last 10 _ rfl (by kernel_rfl) (by decide) (by rfl) (fun K hK => ?_)
        go_simp
        refine hK _ _ ?_
        clear hK K
        try simp only [List.getElem_toArray, List.getElem_cons_succ, List.getElem_cons_zero, Act.put, List.setIfInBounds_toArray, List.set]
        refine up_done (by kernel_rfl) ?_ _
        go_wp2
        refine bodyPost_ret (v := .tuple #[.agg cs, .int .i64 (code true : Nat)]) ?_ rfl ⟨_, by rw [Hcs.out]; rfl, fun _ => hTT.out.symm, below_of_grown (g := w.heap.size + 1) hb9 Hg5.out (by have := hb9.size; omega) (by omega)⟩
        exact results_cell_row_tmp (ty := 25) rfl _ _ (w.heap.size + 1) 25 _ (0, 0) _ rfl Hs5.out Try.underlying25 rfl hci.out _ rfl
    · obtain rfl : ok = true := Hok.out
      have x7 : wc.cell? ⟨w.heap.size, 1, none⟩ = some (.int .u8 (b1 : Nat)) := by rw [HF.out.hx.cell HB.out 1 (by omega), Hb1.out]
      have k7 : wc.cell? ⟨g4, 2, none⟩ = some (.int .u64 (BK : Nat)) := HF.out.cell 2
      have o7 : wc.cell? ⟨g4, 0, none⟩ = some (.int .i64 7) := HF.out.cell 0
      have d0 : (wc).cell? ⟨g4, 9, none⟩ = some (.int .i64 0) := (HF.out).cell 9
      have f0 := (HF.out).soft 9
      have d1 : ((wc).setCell ⟨g4, 9, none⟩ (.int .i64 (SZ : Nat))).cell? ⟨g4, 8, none⟩ = some (.int .i64 0) := ((HF.out).set 9 (.int .i64 (SZ : Nat))).cell 8
      have f1 := ((HF.out).set 9 (.int .i64 (SZ : Nat))).soft 8
      have d2 : (((wc).setCell ⟨g4, 9, none⟩ (.int .i64 (SZ : Nat))).setCell ⟨g4, 8, none⟩ (.int .i64 0)).cell? ⟨g4, 3, none⟩ = some (.bool false) := (((HF.out).set 9 (.int .i64 (SZ : Nat))).set 8 (.int .i64 0)).cell 3
      have f2 := (((HF.out).set 9 (.int .i64 (SZ : Nat))).set 8 (.int .i64 0)).soft 3
      have HF9 := Lib.hid ((((HF.out).set 9 (.int .i64 (SZ : Nat))).set 8 (.int .i64 0)).set 3 (.bool F3))
      have hTT : Hid (T = ({ op := 7, lba := LB, blk := BK, fua := F3, len := SZ } : Tk)) := Lib.hid (by rw [HT.out]; unfold blkT; rw [HD.out]; simp only [Hst.out, HBK.out, Hb1.out, HF3.out, HSZ.out, HSZ2.out, reduceIte, Nat.reduceEqDiff])
      go_upto_region 17 with (fail)
      generalize (((wc).setCell ⟨g4, 9, none⟩ (.int .i64 (SZ : Nat))).setCell ⟨g4, 8, none⟩ (.int .i64 0)).setCell ⟨g4, 3, none⟩ (.bool F3) = wd at HF9 ⊢
      obtain ⟨cs, Hcs⟩ : ∃ cs : Array Value, Hid (cs = ({ op := 7, lba := LB, blk := BK, fua := F3, len := SZ } : Tk).cs) := ⟨_, Lib.hid rfl⟩
      obtain ⟨zn, Hzn⟩ : ∃ zn : Array Value, Hid (zn = #[.int .i64 0, .int .u64 0, .int .u64 0, .bool false, .bool false, .int .i64 0, .int .i64 0, .int .i64 0, .int .i64 0, .int .i64 0, .int .i64 0, .bool false]) := ⟨_, Lib.hid rfl⟩
      have hz8 : wd.heap[w.heap.size + 1]? = some (.cells zn 25 (0, 0)) := by rw [Hzn.out]; exact HF9.out.hz
      have ht8 : wd.heap[g4]? = some (.cells cs 25 (0, 0)) := by rw [Hcs.out]; exact HF9.out.ht
      have hb8 : Below w.heap.size w wd := HF9.out.hb
      have hci : Hid ((Try.prog.info? 25).map (·.size) = some cs.size) := Lib.hid (by rw [Hcs.out]; exact infoTk)
      have hcz : Hid (zn.size = cs.size) := Lib.hid (by rw [Hcs.out, Hzn.out]; rfl)
      have hc1 : Hid (cs.all (·.oneCell') = true) := Lib.hid (by rw [Hcs.out]; exact Tk.cs_one _)
      have x8 : wd.cell? ⟨w.heap.size, 1, none⟩ = some (.int .u8 (b1 : Nat)) := by rw [HF9.out.hx.cell HB.out 1 (by omega), Hb1.out]
      cases O
      · obtain rfl : c = code M := by rw [Hc.out]; unfold blkC; rw [HD.out]; simp [HBK.out, Hb1.out, ← HO.out, ← HM.out]
        obtain ⟨wq, hq⟩ : ∃ wq : World, ({ wd with drawn := wd.drawn + 1 } : World) = wq := ⟨_, rfl⟩
        have hz9 : wq.heap[w.heap.size + 1]? = some (.cells zn 25 (0, 0)) := by rw [← hq]; exact hz8
        have ht9 : wq.heap[g4]? = some (.cells cs 25 (0, 0)) := by rw [← hq]; exact ht8
        have hb9 : Below w.heap.size w wq := by rw [← hq]; exact hb8.drew
        have x9 : wq.cell? ⟨w.heap.size, 1, none⟩ = some (.int .u8 (b1 : Nat)) := by rw [← hq]; exact x8
        refine wp_region_up 9 (fun v => v = wq) (by kernel_rfl) ?_
        rw [hq]
        have hS : wq = wq := rfl
        have HL := Lib.hid (load_task ht9 hci.out)
        have HZ9 := Lib.hid hz9
        clear hq hz8 ht8 hb8 ht9 hz9 x8
        refine up_take (i := 0) (v := .agg cs) rfl (by kernel_rfl) (by kernel_rfl) (fun _ _ _ h => h) (Or.inl ⟨by rfl, ?_⟩) hS ?_
        · intro w' hS'; subst hS'; exact exec_load _ _ _ _ rfl _ _ rfl _ HL.out
        try simp only [List.getElem_toArray, List.getElem_cons_succ, List.getElem_cons_zero, Act.put, List.setIfInBounds_toArray, List.set]
        refine up_take (i := 1) (v := .pointer (some ⟨w.heap.size, 1, none⟩)) rfl (by kernel_rfl) (by kernel_rfl) (fun _ _ _ h => h) (Or.inl ⟨by rfl, ?_⟩) hS ?_
        · intro w' _; go_simp
        try simp only [List.getElem_toArray, List.getElem_cons_succ, List.getElem_cons_zero, Act.put, List.setIfInBounds_toArray, List.set]
        refine up_take (i := 2) (v := .int .u8 (b1 : Nat)) rfl (by kernel_rfl) (by kernel_rfl) (fun _ _ _ h => h) (Or.inl ⟨by rfl, ?_⟩) hS ?_
        · intro w' hS'
          subst hS'
          go_simp
        try simp only [List.getElem_toArray, List.getElem_cons_succ, List.getElem_cons_zero, Act.put, List.setIfInBounds_toArray, List.set]
        refine up_take (i := 3) (v := .int .u8 (bits .andNot .u8 (b1 : Nat) 8)) rfl (by kernel_rfl) (by kernel_rfl) (fun _ _ _ h => h) (Or.inl ⟨by rfl, ?_⟩) hS ?_
        · intro w' _; go_simp
        try simp only [List.getElem_toArray, List.getElem_cons_succ, List.getElem_cons_zero, Act.put, List.setIfInBounds_toArray, List.set]
        refine up_take (i := 4) (v := .bool false) rfl (by kernel_rfl) (by kernel_rfl) (fun _ _ _ h => h) (Or.inl ⟨by rfl, ?_⟩) hS ?_
        · intro w' _; go_simp
        try simp only [List.getElem_toArray, List.getElem_cons_succ, List.getElem_cons_zero, Act.put, List.setIfInBounds_toArray, List.set]
        refine up_take (i := 5) (v := .bool false) rfl (by kernel_rfl) (by kernel_rfl) (fun _ _ _ h => h) (Or.inl ⟨by rfl, ?_⟩) hS ?_
        · intro w' _; go_simp
        try simp only [List.getElem_toArray, List.getElem_cons_succ, List.getElem_cons_zero, Act.put, List.setIfInBounds_toArray, List.set]
        refine up_take (i := 6) (v := .bool M) rfl (by kernel_rfl) (by kernel_rfl) (fun _ _ _ h => h) (Or.inl ⟨by rfl, ?_⟩) hS ?_
        · intro w' _; go_simp
        try simp only [List.getElem_toArray, List.getElem_cons_succ, List.getElem_cons_zero, Act.put, List.setIfInBounds_toArray, List.set]
        refine up_take (i := 7) (v := .bool M) rfl (by kernel_rfl) (by kernel_rfl) (fun _ _ _ h => h) (Or.inl ⟨by rfl, ?_⟩) hS ?_
        · intro w' _; go_simp
        try simp only [List.getElem_toArray, List.getElem_cons_succ, List.getElem_cons_zero, Act.put, List.setIfInBounds_toArray, List.set]
        refine up_one 8 _ rfl (by kernel_rfl) (by decide) (by rfl) (fun K hK => ?_)
        go_simp
        refine (fieldIf_any (w := wq) M).mono ?_
        rintro e w' ⟨rfl, rfl⟩
        refine hK _ _ rfl ?_
        clear hK K
        try simp only [List.getElem_toArray, List.getElem_cons_succ, List.getElem_cons_zero, Act.put, List.setIfInBounds_toArray, List.set]
        refine up_tail ?_
        refine up_last 9 _ rfl (by kernel_rfl) (by decide) (by rfl) (fun K hK => ?_)
        refine wp_store_whole 25 _ _ rfl (w.heap.size + 1) cs rfl rfl zn 25 HZ9.out hci.out hcz.out hc1.out ?_
        intro w5 Hs5 Hg5
        refine hK _ _ ?_
        clear hK K
        try simp only [List.getElem_toArray, List.getElem_cons_succ, List.getElem_cons_zero, Act.put, List.setIfInBounds_toArray, List.set]
        refine up_last 10 _ rfl (by kernel_rfl) (by decide) (by rfl) (fun K hK => ?_)
        go_simp
        refine hK _ _ ?_
        clear hK K
        try simp only [List.getElem_toArray, List.getElem_cons_succ, List.getElem_cons_zero, Act.put, List.setIfInBounds_toArray, List.set]
        refine up_done (by kernel_rfl) ?_ _
        go_wp2
        refine bodyPost_ret (v := .tuple #[.agg cs, .int .i64 (code M : Nat)]) ?_ rfl ⟨_, by rw [Hcs.out]; rfl, fun _ => hTT.out.symm, below_of_grown (g := w.heap.size + 1) hb9 Hg5.out (by have := hb9.size; omega) (by omega)⟩
        exact results_cell_row_tmp (ty := 25) rfl _ _ (w.heap.size + 1) 25 _ (0, 0) _ rfl Hs5.out Try.underlying25 rfl hci.out _ rfl
      · obtain rfl : c = code true := by rw [Hc.out]; unfold blkC; rw [HD.out]; simp [HBK.out, Hb1.out, ← HO.out, ← HM.out]
        obtain ⟨wq, hq⟩ : ∃ wq : World, ({ wd with drawn := wd.drawn + 1 } : World) = wq := ⟨_, rfl⟩
        have hz9 : wq.heap[w.heap.size + 1]? = some (.cells zn 25 (0, 0)) := by rw [← hq]; exact hz8
        have ht9 : wq.heap[g4]? = some (.cells cs 25 (0, 0)) := by rw [← hq]; exact ht8
        have hb9 : Below w.heap.size w wq := by rw [← hq]; exact hb8.drew
        have x9 : wq.cell? ⟨w.heap.size, 1, none⟩ = some (.int .u8 (b1 : Nat)) := by rw [← hq]; exact x8
        refine wp_region_up 9 (fun v => v = wq) (by kernel_rfl) ?_
        rw [hq]
        have hS : wq = wq := rfl
        have HL := Lib.hid (load_task ht9 hci.out)
        have HZ9 := Lib.hid hz9
        clear hq hz8 ht8 hb8 ht9 hz9 x8
        refine up_take (i := 0) (v := .agg cs) rfl (by kernel_rfl) (by kernel_rfl) (fun _ _ _ h => h) (Or.inl ⟨by rfl, ?_⟩) hS ?_
        · intro w' hS'; subst hS'; exact exec_load _ _ _ _ rfl _ _ rfl _ HL.out
        try simp only [List.getElem_toArray, List.getElem_cons_succ, List.getElem_cons_zero, Act.put, List.setIfInBounds_toArray, List.set]
        refine up_take (i := 1) (v := .pointer (some ⟨w.heap.size, 1, none⟩)) rfl (by kernel_rfl) (by kernel_rfl) (fun _ _ _ h => h) (Or.inl ⟨by rfl, ?_⟩) hS ?_
        · intro w' _; go_simp
        try simp only [List.getElem_toArray, List.getElem_cons_succ, List.getElem_cons_zero, Act.put, List.setIfInBounds_toArray, List.set]
        refine up_take (i := 2) (v := .int .u8 (b1 : Nat)) rfl (by kernel_rfl) (by kernel_rfl) (fun _ _ _ h => h) (Or.inl ⟨by rfl, ?_⟩) hS ?_
        · intro w' hS'
          subst hS'
          go_simp
        try simp only [List.getElem_toArray, List.getElem_cons_succ, List.getElem_cons_zero, Act.put, List.setIfInBounds_toArray, List.set]
        refine up_take (i := 3) (v := .int .u8 (bits .andNot .u8 (b1 : Nat) 8)) rfl (by kernel_rfl) (by kernel_rfl) (fun _ _ _ h => h) (Or.inl ⟨by rfl, ?_⟩) hS ?_
        · intro w' _; go_simp
        try simp only [List.getElem_toArray, List.getElem_cons_succ, List.getElem_cons_zero, Act.put, List.setIfInBounds_toArray, List.set]
        refine up_take (i := 4) (v := .bool true) rfl (by kernel_rfl) (by kernel_rfl) (fun _ _ _ h => h) (Or.inl ⟨by rfl, ?_⟩) hS ?_
        · intro w' _; go_simp
        try simp only [List.getElem_toArray, List.getElem_cons_succ, List.getElem_cons_zero, Act.put, List.setIfInBounds_toArray, List.set]
        refine up_take (i := 5) (v := .bool true) rfl (by kernel_rfl) (by kernel_rfl) (fun _ _ _ h => h) (Or.inl ⟨by rfl, ?_⟩) hS ?_
        · intro w' _; go_simp
        try simp only [List.getElem_toArray, List.getElem_cons_succ, List.getElem_cons_zero, Act.put, List.setIfInBounds_toArray, List.set]
        refine up_take (i := 6) (v := undef) rfl (by kernel_rfl) (by kernel_rfl) (fun _ _ _ h => h) (Or.inr ⟨by rfl, rfl⟩) hS ?_
        try simp only [List.getElem_toArray, List.getElem_cons_succ, List.getElem_cons_zero, Act.put, List.setIfInBounds_toArray, List.set]
        refine up_take (i := 7) (v := .bool true) rfl (by kernel_rfl) (by kernel_rfl) (fun _ _ _ h => h) (Or.inl ⟨by rfl, ?_⟩) hS ?_
        · intro w' _; go_simp
        try simp only [List.getElem_toArray, List.getElem_cons_succ, List.getElem_cons_zero, Act.put, List.setIfInBounds_toArray, List.set]
        refine up_one 8 _ rfl (by kernel_rfl) (by decide) (by rfl) (fun K hK => ?_)
        go_simp
        refine (fieldIf_any (w := wq) true).mono ?_
        rintro e w' ⟨rfl, rfl⟩
        refine hK _ _ rfl ?_
        clear hK K
        try simp only [List.getElem_toArray, List.getElem_cons_succ, List.getElem_cons_zero, Act.put, List.setIfInBounds_toArray, List.set]
        refine up_tail ?_
        refine up_last 9 _ rfl (by kernel_rfl) (by decide) (by rfl) (fun K hK => ?_)
        refine wp_store_whole 25 _ _ rfl (w.heap.size + 1) cs rfl rfl zn 25 HZ9.out hci.out hcz.out hc1.out ?_
        intro w5 Hs5 Hg5
        refine hK _ _ ?_
        clear hK K
        try simp only [List.getElem_toArray, List.getElem_cons_succ, List.getElem_cons_zero, Act.put, List.setIfInBounds_toArray, List.set]
        refine up_last 10 _ rfl (by kernel_rfl) (by decide) (by rfl) (fun K hK => ?_)
        go_simp
        refine hK _ _ ?_
        clear hK K
        try simp only [List.getElem_toArray, List.getElem_cons_succ, List.getElem_cons_zero, Act.put, List.setIfInBounds_toArray, List.set]
        refine up_done (by kernel_rfl) ?_ _
        go_wp2
        refine bodyPost_ret (v := .tuple #[.agg cs, .int .i64 (code true : Nat)]) ?_ rfl ⟨_, by rw [Hcs.out]; rfl, fun _ => hTT.out.symm, below_of_grown (g := w.heap.size + 1) hb9 Hg5.out (by have := hb9.size; omega) (by omega)⟩
        exact results_cell_row_tmp (ty := 25) rfl _ _ (w.heap.size + 1) 25 _ (0, 0) _ rfl Hs5.out Try.underlying25 rfl hci.out _ rfl
    · obtain rfl : ok = true := Hok.out
      have x7 : wc.cell? ⟨w.heap.size, 1, none⟩ = some (.int .u8 (b1 : Nat)) := by rw [HF.out.hx.cell HB.out 1 (by omega), Hb1.out]
      have k7 : wc.cell? ⟨g4, 2, none⟩ = some (.int .u64 (BK : Nat)) := HF.out.cell 2
      have o7 : wc.cell? ⟨g4, 0, none⟩ = some (.int .i64 8) := HF.out.cell 0
      have d0 : (wc).cell? ⟨g4, 9, none⟩ = some (.int .i64 0) := (HF.out).cell 9
      have f0 := (HF.out).soft 9
      have d1 : ((wc).setCell ⟨g4, 9, none⟩ (.int .i64 64)).cell? ⟨g4, 4, none⟩ = some (.bool false) := ((HF.out).set 9 (.int .i64 64)).cell 4
      have f1 := ((HF.out).set 9 (.int .i64 64)).soft 4
      have HF9 := Lib.hid (((HF.out).set 9 (.int .i64 64)).set 4 (.bool F3))
      have hTT : Hid (T = ({ op := 8, lba := LB, blk := BK, unm := F3, len := 64 } : Tk)) := Lib.hid (by rw [HT.out]; unfold blkT; rw [HD.out]; simp only [Hst.out, HBK.out, Hb1.out, HF3.out, HSZ.out, HSZ2.out, reduceIte, Nat.reduceEqDiff])
      go_upto_region 20 with (fail)
      generalize ((wc).setCell ⟨g4, 9, none⟩ (.int .i64 64)).setCell ⟨g4, 4, none⟩ (.bool F3) = wd at HF9 ⊢
      obtain ⟨cs, Hcs⟩ : ∃ cs : Array Value, Hid (cs = ({ op := 8, lba := LB, blk := BK, unm := F3, len := 64 } : Tk).cs) := ⟨_, Lib.hid rfl⟩
      obtain ⟨zn, Hzn⟩ : ∃ zn : Array Value, Hid (zn = #[.int .i64 0, .int .u64 0, .int .u64 0, .bool false, .bool false, .int .i64 0, .int .i64 0, .int .i64 0, .int .i64 0, .int .i64 0, .int .i64 0, .bool false]) := ⟨_, Lib.hid rfl⟩
      have hz8 : wd.heap[w.heap.size + 1]? = some (.cells zn 25 (0, 0)) := by rw [Hzn.out]; exact HF9.out.hz
      have ht8 : wd.heap[g4]? = some (.cells cs 25 (0, 0)) := by rw [Hcs.out]; exact HF9.out.ht
      have hb8 : Below w.heap.size w wd := HF9.out.hb
      have hci : Hid ((Try.prog.info? 25).map (·.size) = some cs.size) := Lib.hid (by rw [Hcs.out]; exact infoTk)
      have hcz : Hid (zn.size = cs.size) := Lib.hid (by rw [Hcs.out, Hzn.out]; rfl)
      have hc1 : Hid (cs.all (·.oneCell') = true) := Lib.hid (by rw [Hcs.out]; exact Tk.cs_one _)
      have x8 : wd.cell? ⟨w.heap.size, 1, none⟩ = some (.int .u8 (b1 : Nat)) := by rw [HF9.out.hx.cell HB.out 1 (by omega), Hb1.out]
      have k8 : wd.cell? ⟨g4, 2, none⟩ = some (.int .u64 (BK : Nat)) := HF9.out.cell 2
      obtain ⟨Z, HZ⟩ : ∃ Z, Hid (Z = (BK == 0)) := ⟨_, Lib.hid rfl⟩
      have hz0 : ((BK : Int) == 0) = Z := by rw [HZ.out, Bool.eq_iff_iff]; simp
      cases O
      · cases Z
        · obtain rfl : c = code M := by rw [Hc.out]; unfold blkC; rw [HD.out]; simp [HBK.out, Hb1.out, ← HO.out, ← HM.out, ← HZ.out]
          obtain ⟨wq, hq⟩ : ∃ wq : World, ({ wd with drawn := wd.drawn + 1 } : World) = wq := ⟨_, rfl⟩
          have hz9 : wq.heap[w.heap.size + 1]? = some (.cells zn 25 (0, 0)) := by rw [← hq]; exact hz8
          have ht9 : wq.heap[g4]? = some (.cells cs 25 (0, 0)) := by rw [← hq]; exact ht8
          have hb9 : Below w.heap.size w wq := by rw [← hq]; exact hb8.drew
          have x9 : wq.cell? ⟨w.heap.size, 1, none⟩ = some (.int .u8 (b1 : Nat)) := by rw [← hq]; exact x8
          have k9 : wq.cell? ⟨g4, 2, none⟩ = some (.int .u64 (BK : Nat)) := by rw [← hq]; exact k8
          refine wp_region_up 14 (fun v => v = wq) (by kernel_rfl) ?_
          rw [hq]
          have hS : wq = wq := rfl
          have HL := Lib.hid (load_task ht9 hci.out)
          have HZ9 := Lib.hid hz9
          clear hq hz8 ht8 hb8 ht9 hz9 x8 k8
          refine up_take (i := 0) (v := .agg cs) rfl (by kernel_rfl) (by kernel_rfl) (fun _ _ _ h => h) (Or.inl ⟨by rfl, ?_⟩) hS ?_
          · intro w' hS'; subst hS'; exact exec_load _ _ _ _ rfl _ _ rfl _ HL.out
          try simp only [List.getElem_toArray, List.getElem_cons_succ, List.getElem_cons_zero, Act.put, List.setIfInBounds_toArray, List.set]
          refine up_take (i := 1) (v := .pointer (some ⟨w.heap.size, 1, none⟩)) rfl (by kernel_rfl) (by kernel_rfl) (fun _ _ _ h => h) (Or.inl ⟨by rfl, ?_⟩) hS ?_
          · intro w' _; go_simp
          try simp only [List.getElem_toArray, List.getElem_cons_succ, List.getElem_cons_zero, Act.put, List.setIfInBounds_toArray, List.set]
          refine up_take (i := 2) (v := .int .u8 (b1 : Nat)) rfl (by kernel_rfl) (by kernel_rfl) (fun _ _ _ h => h) (Or.inl ⟨by rfl, ?_⟩) hS ?_
          · intro w' hS'
            subst hS'
            go_simp
          try simp only [List.getElem_toArray, List.getElem_cons_succ, List.getElem_cons_zero, Act.put, List.setIfInBounds_toArray, List.set]
          refine up_take (i := 3) (v := .int .u8 (bits .andNot .u8 (b1 : Nat) 8)) rfl (by kernel_rfl) (by kernel_rfl) (fun _ _ _ h => h) (Or.inl ⟨by rfl, ?_⟩) hS ?_
          · intro w' _; go_simp
          try simp only [List.getElem_toArray, List.getElem_cons_succ, List.getElem_cons_zero, Act.put, List.setIfInBounds_toArray, List.set]
          refine up_take (i := 4) (v := .bool false) rfl (by kernel_rfl) (by kernel_rfl) (fun _ _ _ h => h) (Or.inl ⟨by rfl, ?_⟩) hS ?_
          · intro w' _; go_simp
          try simp only [List.getElem_toArray, List.getElem_cons_succ, List.getElem_cons_zero, Act.put, List.setIfInBounds_toArray, List.set]
          refine up_take (i := 5) (v := .bool false) rfl (by kernel_rfl) (by kernel_rfl) (fun _ _ _ h => h) (Or.inl ⟨by rfl, ?_⟩) hS ?_
          · intro w' _; go_simp
          try simp only [List.getElem_toArray, List.getElem_cons_succ, List.getElem_cons_zero, Act.put, List.setIfInBounds_toArray, List.set]
          refine up_take (i := 6) (v := .pointer (some ⟨g4, 2, none⟩)) rfl (by kernel_rfl) (by kernel_rfl) (fun _ _ _ h => h) (Or.inl ⟨by rfl, ?_⟩) hS ?_
          · intro w' _; go_simp
          try simp only [List.getElem_toArray, List.getElem_cons_succ, List.getElem_cons_zero, Act.put, List.setIfInBounds_toArray, List.set]
          refine up_take (i := 7) (v := .int .u64 (BK : Nat)) rfl (by kernel_rfl) (by kernel_rfl) (fun _ _ _ h => h) (Or.inl ⟨by rfl, ?_⟩) hS ?_
          · intro w' hS'
            subst hS'
            go_simp
          try simp only [List.getElem_toArray, List.getElem_cons_succ, List.getElem_cons_zero, Act.put, List.setIfInBounds_toArray, List.set]
          refine up_take (i := 8) (v := .bool false) rfl (by kernel_rfl) (by kernel_rfl) (fun _ _ _ h => h) (Or.inl ⟨by rfl, ?_⟩) hS ?_
          · intro w' _; go_simp
          try simp only [List.getElem_toArray, List.getElem_cons_succ, List.getElem_cons_zero, Act.put, List.setIfInBounds_toArray, List.set]
          refine up_take (i := 9) (v := .bool false) rfl (by kernel_rfl) (by kernel_rfl) (fun _ _ _ h => h) (Or.inl ⟨by rfl, ?_⟩) hS ?_
          · intro w' _; go_simp
          try simp only [List.getElem_toArray, List.getElem_cons_succ, List.getElem_cons_zero, Act.put, List.setIfInBounds_toArray, List.set]
          refine up_take (i := 10) (v := .bool false) rfl (by kernel_rfl) (by kernel_rfl) (fun _ _ _ h => h) (Or.inl ⟨by rfl, ?_⟩) hS ?_
          · intro w' _; go_simp
          try simp only [List.getElem_toArray, List.getElem_cons_succ, List.getElem_cons_zero, Act.put, List.setIfInBounds_toArray, List.set]
          refine up_take (i := 11) (v := .bool M) rfl (by kernel_rfl) (by kernel_rfl) (fun _ _ _ h => h) (Or.inl ⟨by rfl, ?_⟩) hS ?_
          · intro w' _; go_simp
          try simp only [List.getElem_toArray, List.getElem_cons_succ, List.getElem_cons_zero, Act.put, List.setIfInBounds_toArray, List.set]
          refine up_take (i := 12) (v := .bool M) rfl (by kernel_rfl) (by kernel_rfl) (fun _ _ _ h => h) (Or.inl ⟨by rfl, ?_⟩) hS ?_
          · intro w' _; go_simp
          try simp only [List.getElem_toArray, List.getElem_cons_succ, List.getElem_cons_zero, Act.put, List.setIfInBounds_toArray, List.set]
          refine up_one 13 _ rfl (by kernel_rfl) (by decide) (by rfl) (fun K hK => ?_)
          go_simp
          refine (fieldIf_any (w := wq) M).mono ?_
          rintro e w' ⟨rfl, rfl⟩
          refine hK _ _ rfl ?_
          clear hK K
          try simp only [List.getElem_toArray, List.getElem_cons_succ, List.getElem_cons_zero, Act.put, List.setIfInBounds_toArray, List.set]
          refine up_tail ?_
          refine up_last 14 _ rfl (by kernel_rfl) (by decide) (by rfl) (fun K hK => ?_)
          refine wp_store_whole 25 _ _ rfl (w.heap.size + 1) cs rfl rfl zn 25 HZ9.out hci.out hcz.out hc1.out ?_
          intro w5 Hs5 Hg5
          refine hK _ _ ?_
          clear hK K
          try simp only [List.getElem_toArray, List.getElem_cons_succ, List.getElem_cons_zero, Act.put, List.setIfInBounds_toArray, List.set]
          refine up_last 15 _ rfl (by kernel_rfl) (by decide) (by rfl) (fun K hK => ?_)
          go_simp
          refine hK _ _ ?_
          clear hK K
          try simp only [List.getElem_toArray, List.getElem_cons_succ, List.getElem_cons_zero, Act.put, List.setIfInBounds_toArray, List.set]
          refine up_done (by kernel_rfl) ?_ _
          go_wp2
          refine bodyPost_ret (v := .tuple #[.agg cs, .int .i64 (code M : Nat)]) ?_ rfl ⟨_, by rw [Hcs.out]; rfl, fun _ => hTT.out.symm, below_of_grown (g := w.heap.size + 1) hb9 Hg5.out (by have := hb9.size; omega) (by omega)⟩
          exact results_cell_row_tmp (ty := 25) rfl _ _ (w.heap.size + 1) 25 _ (0, 0) _ rfl Hs5.out Try.underlying25 rfl hci.out _ rfl
        · obtain rfl : c = code true := by rw [Hc.out]; unfold blkC; rw [HD.out]; simp [HBK.out, Hb1.out, ← HO.out, ← HM.out, ← HZ.out]
          obtain ⟨wq, hq⟩ : ∃ wq : World, ({ wd with drawn := wd.drawn + 1 } : World) = wq := ⟨_, rfl⟩
          have hz9 : wq.heap[w.heap.size + 1]? = some (.cells zn 25 (0, 0)) := by rw [← hq]; exact hz8
          have ht9 : wq.heap[g4]? = some (.cells cs 25 (0, 0)) := by rw [← hq]; exact ht8
          have hb9 : Below w.heap.size w wq := by rw [← hq]; exact hb8.drew
          have x9 : wq.cell? ⟨w.heap.size, 1, none⟩ = some (.int .u8 (b1 : Nat)) := by rw [← hq]; exact x8
          have k9 : wq.cell? ⟨g4, 2, none⟩ = some (.int .u64 (BK : Nat)) := by rw [← hq]; exact k8
          refine wp_region_up 14 (fun v => v = wq) (by kernel_rfl) ?_
          rw [hq]
          have hS : wq = wq := rfl
          have HL := Lib.hid (load_task ht9 hci.out)
          have HZ9 := Lib.hid hz9
          clear hq hz8 ht8 hb8 ht9 hz9 x8 k8
          refine up_take (i := 0) (v := .agg cs) rfl (by kernel_rfl) (by kernel_rfl) (fun _ _ _ h => h) (Or.inl ⟨by rfl, ?_⟩) hS ?_
          · intro w' hS'; subst hS'; exact exec_load _ _ _ _ rfl _ _ rfl _ HL.out
          try simp only [List.getElem_toArray, List.getElem_cons_succ, List.getElem_cons_zero, Act.put, List.setIfInBounds_toArray, List.set]
          refine up_take (i := 1) (v := .pointer (some ⟨w.heap.size, 1, none⟩)) rfl (by kernel_rfl) (by kernel_rfl) (fun _ _ _ h => h) (Or.inl ⟨by rfl, ?_⟩) hS ?_
          · intro w' _; go_simp
          try simp only [List.getElem_toArray, List.getElem_cons_succ, List.getElem_cons_zero, Act.put, List.setIfInBounds_toArray, List.set]
          refine up_take (i := 2) (v := .int .u8 (b1 : Nat)) rfl (by kernel_rfl) (by kernel_rfl) (fun _ _ _ h => h) (Or.inl ⟨by rfl, ?_⟩) hS ?_
          · intro w' hS'
            subst hS'
            go_simp
          try simp only [List.getElem_toArray, List.getElem_cons_succ, List.getElem_cons_zero, Act.put, List.setIfInBounds_toArray, List.set]
          refine up_take (i := 3) (v := .int .u8 (bits .andNot .u8 (b1 : Nat) 8)) rfl (by kernel_rfl) (by kernel_rfl) (fun _ _ _ h => h) (Or.inl ⟨by rfl, ?_⟩) hS ?_
          · intro w' _; go_simp
          try simp only [List.getElem_toArray, List.getElem_cons_succ, List.getElem_cons_zero, Act.put, List.setIfInBounds_toArray, List.set]
          refine up_take (i := 4) (v := .bool false) rfl (by kernel_rfl) (by kernel_rfl) (fun _ _ _ h => h) (Or.inl ⟨by rfl, ?_⟩) hS ?_
          · intro w' _; go_simp
          try simp only [List.getElem_toArray, List.getElem_cons_succ, List.getElem_cons_zero, Act.put, List.setIfInBounds_toArray, List.set]
          refine up_take (i := 5) (v := .bool false) rfl (by kernel_rfl) (by kernel_rfl) (fun _ _ _ h => h) (Or.inl ⟨by rfl, ?_⟩) hS ?_
          · intro w' _; go_simp
          try simp only [List.getElem_toArray, List.getElem_cons_succ, List.getElem_cons_zero, Act.put, List.setIfInBounds_toArray, List.set]
          refine up_take (i := 6) (v := .pointer (some ⟨g4, 2, none⟩)) rfl (by kernel_rfl) (by kernel_rfl) (fun _ _ _ h => h) (Or.inl ⟨by rfl, ?_⟩) hS ?_
          · intro w' _; go_simp
          try simp only [List.getElem_toArray, List.getElem_cons_succ, List.getElem_cons_zero, Act.put, List.setIfInBounds_toArray, List.set]
          refine up_take (i := 7) (v := .int .u64 (BK : Nat)) rfl (by kernel_rfl) (by kernel_rfl) (fun _ _ _ h => h) (Or.inl ⟨by rfl, ?_⟩) hS ?_
          · intro w' hS'
            subst hS'
            go_simp
          try simp only [List.getElem_toArray, List.getElem_cons_succ, List.getElem_cons_zero, Act.put, List.setIfInBounds_toArray, List.set]
          refine up_take (i := 8) (v := .bool true) rfl (by kernel_rfl) (by kernel_rfl) (fun _ _ _ h => h) (Or.inl ⟨by rfl, ?_⟩) hS ?_
          · intro w' _; go_simp
          try simp only [List.getElem_toArray, List.getElem_cons_succ, List.getElem_cons_zero, Act.put, List.setIfInBounds_toArray, List.set]
          refine up_take (i := 9) (v := .bool true) rfl (by kernel_rfl) (by kernel_rfl) (fun _ _ _ h => h) (Or.inl ⟨by rfl, ?_⟩) hS ?_
          · intro w' _; go_simp
          try simp only [List.getElem_toArray, List.getElem_cons_succ, List.getElem_cons_zero, Act.put, List.setIfInBounds_toArray, List.set]
          refine up_take (i := 10) (v := .bool true) rfl (by kernel_rfl) (by kernel_rfl) (fun _ _ _ h => h) (Or.inl ⟨by rfl, ?_⟩) hS ?_
          · intro w' _; go_simp
          try simp only [List.getElem_toArray, List.getElem_cons_succ, List.getElem_cons_zero, Act.put, List.setIfInBounds_toArray, List.set]
          refine up_take (i := 11) (v := undef) rfl (by kernel_rfl) (by kernel_rfl) (fun _ _ _ h => h) (Or.inr ⟨by rfl, rfl⟩) hS ?_
          try simp only [List.getElem_toArray, List.getElem_cons_succ, List.getElem_cons_zero, Act.put, List.setIfInBounds_toArray, List.set]
          refine up_take (i := 12) (v := .bool true) rfl (by kernel_rfl) (by kernel_rfl) (fun _ _ _ h => h) (Or.inl ⟨by rfl, ?_⟩) hS ?_
          · intro w' _; go_simp
          try simp only [List.getElem_toArray, List.getElem_cons_succ, List.getElem_cons_zero, Act.put, List.setIfInBounds_toArray, List.set]
          refine up_one 13 _ rfl (by kernel_rfl) (by decide) (by rfl) (fun K hK => ?_)
          go_simp
          refine (fieldIf_any (w := wq) true).mono ?_
          rintro e w' ⟨rfl, rfl⟩
          refine hK _ _ rfl ?_
          clear hK K
          try simp only [List.getElem_toArray, List.getElem_cons_succ, List.getElem_cons_zero, Act.put, List.setIfInBounds_toArray, List.set]
          refine up_tail ?_
          refine up_last 14 _ rfl (by kernel_rfl) (by decide) (by rfl) (fun K hK => ?_)
          refine wp_store_whole 25 _ _ rfl (w.heap.size + 1) cs rfl rfl zn 25 HZ9.out hci.out hcz.out hc1.out ?_
          intro w5 Hs5 Hg5
          refine hK _ _ ?_
          clear hK K
          try simp only [List.getElem_toArray, List.getElem_cons_succ, List.getElem_cons_zero, Act.put, List.setIfInBounds_toArray, List.set]
          refine up_last 15 _ rfl (by kernel_rfl) (by decide) (by rfl) (fun K hK => ?_)
          go_simp
          refine hK _ _ ?_
          clear hK K
          try simp only [List.getElem_toArray, List.getElem_cons_succ, List.getElem_cons_zero, Act.put, List.setIfInBounds_toArray, List.set]
          refine up_done (by kernel_rfl) ?_ _
          go_wp2
          refine bodyPost_ret (v := .tuple #[.agg cs, .int .i64 (code true : Nat)]) ?_ rfl ⟨_, by rw [Hcs.out]; rfl, fun _ => hTT.out.symm, below_of_grown (g := w.heap.size + 1) hb9 Hg5.out (by have := hb9.size; omega) (by omega)⟩
          exact results_cell_row_tmp (ty := 25) rfl _ _ (w.heap.size + 1) 25 _ (0, 0) _ rfl Hs5.out Try.underlying25 rfl hci.out _ rfl
      · obtain rfl : c = code true := by rw [Hc.out]; unfold blkC; rw [HD.out]; simp [HBK.out, Hb1.out, ← HO.out, ← HM.out]
        obtain ⟨wq, hq⟩ : ∃ wq : World, ({ wd with drawn := wd.drawn + 1 } : World) = wq := ⟨_, rfl⟩
        have hz9 : wq.heap[w.heap.size + 1]? = some (.cells zn 25 (0, 0)) := by rw [← hq]; exact hz8
        have ht9 : wq.heap[g4]? = some (.cells cs 25 (0, 0)) := by rw [← hq]; exact ht8
        have hb9 : Below w.heap.size w wq := by rw [← hq]; exact hb8.drew
        have x9 : wq.cell? ⟨w.heap.size, 1, none⟩ = some (.int .u8 (b1 : Nat)) := by rw [← hq]; exact x8
        have k9 : wq.cell? ⟨g4, 2, none⟩ = some (.int .u64 (BK : Nat)) := by rw [← hq]; exact k8
        refine wp_region_up 14 (fun v => v = wq) (by kernel_rfl) ?_
        rw [hq]
        have hS : wq = wq := rfl
        have HL := Lib.hid (load_task ht9 hci.out)
        have HZ9 := Lib.hid hz9
        clear hq hz8 ht8 hb8 ht9 hz9 x8 k8
        refine up_take (i := 0) (v := .agg cs) rfl (by kernel_rfl) (by kernel_rfl) (fun _ _ _ h => h) (Or.inl ⟨by rfl, ?_⟩) hS ?_
        · intro w' hS'; subst hS'; exact exec_load _ _ _ _ rfl _ _ rfl _ HL.out
        try simp only [List.getElem_toArray, List.getElem_cons_succ, List.getElem_cons_zero, Act.put, List.setIfInBounds_toArray, List.set]
        refine up_take (i := 1) (v := .pointer (some ⟨w.heap.size, 1, none⟩)) rfl (by kernel_rfl) (by kernel_rfl) (fun _ _ _ h => h) (Or.inl ⟨by rfl, ?_⟩) hS ?_
        · intro w' _; go_simp
        try simp only [List.getElem_toArray, List.getElem_cons_succ, List.getElem_cons_zero, Act.put, List.setIfInBounds_toArray, List.set]
        refine up_take (i := 2) (v := .int .u8 (b1 : Nat)) rfl (by kernel_rfl) (by kernel_rfl) (fun _ _ _ h => h) (Or.inl ⟨by rfl, ?_⟩) hS ?_
        · intro w' hS'
          subst hS'
          go_simp
        try simp only [List.getElem_toArray, List.getElem_cons_succ, List.getElem_cons_zero, Act.put, List.setIfInBounds_toArray, List.set]
        refine up_take (i := 3) (v := .int .u8 (bits .andNot .u8 (b1 : Nat) 8)) rfl (by kernel_rfl) (by kernel_rfl) (fun _ _ _ h => h) (Or.inl ⟨by rfl, ?_⟩) hS ?_
        · intro w' _; go_simp
        try simp only [List.getElem_toArray, List.getElem_cons_succ, List.getElem_cons_zero, Act.put, List.setIfInBounds_toArray, List.set]
        refine up_take (i := 4) (v := .bool true) rfl (by kernel_rfl) (by kernel_rfl) (fun _ _ _ h => h) (Or.inl ⟨by rfl, ?_⟩) hS ?_
        · intro w' _; go_simp
        try simp only [List.getElem_toArray, List.getElem_cons_succ, List.getElem_cons_zero, Act.put, List.setIfInBounds_toArray, List.set]
        refine up_take (i := 5) (v := .bool true) rfl (by kernel_rfl) (by kernel_rfl) (fun _ _ _ h => h) (Or.inl ⟨by rfl, ?_⟩) hS ?_
        · intro w' _; go_simp
        try simp only [List.getElem_toArray, List.getElem_cons_succ, List.getElem_cons_zero, Act.put, List.setIfInBounds_toArray, List.set]
        refine up_take (i := 6) (v := undef) rfl (by kernel_rfl) (by kernel_rfl) (fun _ _ _ h => h) (Or.inr ⟨by rfl, rfl⟩) hS ?_
        try simp only [List.getElem_toArray, List.getElem_cons_succ, List.getElem_cons_zero, Act.put, List.setIfInBounds_toArray, List.set]
        refine up_take (i := 7) (v := undef) rfl (by kernel_rfl) (by kernel_rfl) (fun _ _ _ h => h) (Or.inr ⟨by rfl, rfl⟩) hS ?_
        try simp only [List.getElem_toArray, List.getElem_cons_succ, List.getElem_cons_zero, Act.put, List.setIfInBounds_toArray, List.set]
        refine up_take (i := 8) (v := undef) rfl (by kernel_rfl) (by kernel_rfl) (fun _ _ _ h => h) (Or.inr ⟨by rfl, rfl⟩) hS ?_
        try simp only [List.getElem_toArray, List.getElem_cons_succ, List.getElem_cons_zero, Act.put, List.setIfInBounds_toArray, List.set]
        refine up_take (i := 9) (v := .bool true) rfl (by kernel_rfl) (by kernel_rfl) (fun _ _ _ h => h) (Or.inl ⟨by rfl, ?_⟩) hS ?_
        · intro w' _; go_simp
        try simp only [List.getElem_toArray, List.getElem_cons_succ, List.getElem_cons_zero, Act.put, List.setIfInBounds_toArray, List.set]
        refine up_take (i := 10) (v := .bool true) rfl (by kernel_rfl) (by kernel_rfl) (fun _ _ _ h => h) (Or.inl ⟨by rfl, ?_⟩) hS ?_
        · intro w' _; go_simp
        try simp only [List.getElem_toArray, List.getElem_cons_succ, List.getElem_cons_zero, Act.put, List.setIfInBounds_toArray, List.set]
        refine up_take (i := 11) (v := undef) rfl (by kernel_rfl) (by kernel_rfl) (fun _ _ _ h => h) (Or.inr ⟨by rfl, rfl⟩) hS ?_
        try simp only [List.getElem_toArray, List.getElem_cons_succ, List.getElem_cons_zero, Act.put, List.setIfInBounds_toArray, List.set]
        refine up_take (i := 12) (v := .bool true) rfl (by kernel_rfl) (by kernel_rfl) (fun _ _ _ h => h) (Or.inl ⟨by rfl, ?_⟩) hS ?_
        · intro w' _; go_simp
        try simp only [List.getElem_toArray, List.getElem_cons_succ, List.getElem_cons_zero, Act.put, List.setIfInBounds_toArray, List.set]
        refine up_one 13 _ rfl (by kernel_rfl) (by decide) (by rfl) (fun K hK => ?_)
        go_simp
        refine (fieldIf_any (w := wq) true).mono ?_
        rintro e w' ⟨rfl, rfl⟩
        refine hK _ _ rfl ?_
        clear hK K
        try simp only [List.getElem_toArray, List.getElem_cons_succ, List.getElem_cons_zero, Act.put, List.setIfInBounds_toArray, List.set]
        refine up_tail ?_
        refine up_last 14 _ rfl (by kernel_rfl) (by decide) (by rfl) (fun K hK => ?_)
        refine wp_store_whole 25 _ _ rfl (w.heap.size + 1) cs rfl rfl zn 25 HZ9.out hci.out hcz.out hc1.out ?_
        intro w5 Hs5 Hg5
        refine hK _ _ ?_
        clear hK K
        try simp only [List.getElem_toArray, List.getElem_cons_succ, List.getElem_cons_zero, Act.put, List.setIfInBounds_toArray, List.set]
        refine up_last 15 _ rfl (by kernel_rfl) (by decide) (by rfl) (fun K hK => ?_)
        go_simp
        refine hK _ _ ?_
        clear hK K
        try simp only [List.getElem_toArray, List.getElem_cons_succ, List.getElem_cons_zero, Act.put, List.setIfInBounds_toArray, List.set]
        refine up_done (by kernel_rfl) ?_ _
        go_wp2
        refine bodyPost_ret (v := .tuple #[.agg cs, .int .i64 (code true : Nat)]) ?_ rfl ⟨_, by rw [Hcs.out]; rfl, fun _ => hTT.out.symm, below_of_grown (g := w.heap.size + 1) hb9 Hg5.out (by have := hb9.size; omega) (by omega)⟩
        exact results_cell_row_tmp (ty := 25) rfl _ _ (w.heap.size + 1) 25 _ (0, 0) _ rfl Hs5.out Try.underlying25 rfl hci.out _ rfl
    · obtain rfl : ok = true := Hok.out
      by_cases hB0 : BK = 0
      · subst hB0
        obtain rfl : c = 9216 := by rw [Hc.out]; unfold blkC; rw [HD.out]; simp [HBK.out]
        have x7 : wc.cell? ⟨w.heap.size, 1, none⟩ = some (.int .u8 (b1 : Nat)) := by rw [HF.out.hx.cell HB.out 1 (by omega), Hb1.out]
        have k7 : wc.cell? ⟨g4, 2, none⟩ = some (.int .u64 ((0 : Nat) : Int)) := HF.out.cell 2
        have o7 : wc.cell? ⟨g4, 0, none⟩ = some (.int .i64 10) := HF.out.cell 0
        go_upto_region 12 with (fail)
        rename World => wd
        clear x7 k7 o7
        obtain ⟨cs, Hcs⟩ : ∃ cs : Array Value, Hid (cs = ({ op := 10, lba := LB, blk := 0 } : Tk).cs) := ⟨_, Lib.hid rfl⟩
        obtain ⟨zn, Hzn⟩ : ∃ zn : Array Value, Hid (zn = #[.int .i64 0, .int .u64 0, .int .u64 0, .bool false, .bool false, .int .i64 0, .int .i64 0, .int .i64 0, .int .i64 0, .int .i64 0, .int .i64 0, .bool false]) := ⟨_, Lib.hid rfl⟩
        have hz8 : wd.heap[w.heap.size + 1]? = some (.cells zn 25 (0, 0)) := by rw [Hzn.out]; exact HF.out.hz
        have ht8 : wd.heap[g4]? = some (.cells cs 25 (0, 0)) := by rw [Hcs.out]; exact HF.out.ht
        have hb8 : Below w.heap.size w wd := HF.out.hb
        have hci : Hid ((Try.prog.info? 25).map (·.size) = some cs.size) := Lib.hid (by rw [Hcs.out]; exact infoTk)
        have hcz : Hid (zn.size = cs.size) := Lib.hid (by rw [Hcs.out, Hzn.out]; rfl)
        have hc1 : Hid (cs.all (·.oneCell') = true) := Lib.hid (by rw [Hcs.out]; exact Tk.cs_one _)
        have HZ8 := Lib.hid hz8; have HT8 := Lib.hid ht8; have HB8 := Lib.hid hb8
        clear hz8 ht8 hb8
        go_wp2_with (first
          | (refine wpList_load_row rfl 25 _ rfl g4 rfl 25 cs (0, 0) _ HT8.out Try.underlying25 rfl hci.out ?_)
          | (refine wpList_store_row rfl 25 _ _ rfl (w.heap.size + 1) cs rfl rfl 25 zn HZ8.out hci.out hcz.out hc1.out ?_))
        refine bodyPost_ret (v := .tuple #[.agg cs, .int .i64 (9216 : Nat)]) ?_ rfl ⟨_, by rw [Hcs.out]; rfl, (fun h => absurd h (by decide)), below_setRow (g := w.heap.size + 1) HB8.out (by omega) cs⟩
        exact results_cell_row_tmp (ty := 25) rfl _ _ (w.heap.size + 1) 25 _ (0, 0) _ rfl (setRow_heap _ _ _ _ _ _ HZ8.out) Try.underlying25 rfl hci.out _ rfl
      · have HNE := Lib.hid hB0
        have hz0 : ((BK : Int) == 0) = false := by rw [beq_eq_false_iff_ne]; omega
        clear hB0
        have x7 : wc.cell? ⟨w.heap.size, 1, none⟩ = some (.int .u8 (b1 : Nat)) := by rw [HF.out.hx.cell HB.out 1 (by omega), Hb1.out]
        have k7 : wc.cell? ⟨g4, 2, none⟩ = some (.int .u64 (BK : Nat)) := HF.out.cell 2
        have o7 : wc.cell? ⟨g4, 0, none⟩ = some (.int .i64 10) := HF.out.cell 0
        have d0 : (wc).cell? ⟨g4, 9, none⟩ = some (.int .i64 0) := (HF.out).cell 9
        have f0 := (HF.out).soft 9
        have d1 : ((wc).setCell ⟨g4, 9, none⟩ (.int .i64 (SZ2 : Nat))).cell? ⟨g4, 8, none⟩ = some (.int .i64 0) := ((HF.out).set 9 (.int .i64 (SZ2 : Nat))).cell 8
        have f1 := ((HF.out).set 9 (.int .i64 (SZ2 : Nat))).soft 8
        have d2 : (((wc).setCell ⟨g4, 9, none⟩ (.int .i64 (SZ2 : Nat))).setCell ⟨g4, 8, none⟩ (.int .i64 0)).cell? ⟨g4, 3, none⟩ = some (.bool false) := (((HF.out).set 9 (.int .i64 (SZ2 : Nat))).set 8 (.int .i64 0)).cell 3
        have f2 := (((HF.out).set 9 (.int .i64 (SZ2 : Nat))).set 8 (.int .i64 0)).soft 3
        have HF9 := Lib.hid ((((HF.out).set 9 (.int .i64 (SZ2 : Nat))).set 8 (.int .i64 0)).set 3 (.bool F3))
        have hTT : Hid (T = ({ op := 10, lba := LB, blk := BK, fua := F3, len := SZ2 } : Tk)) := Lib.hid (by rw [HT.out]; unfold blkT; rw [HD.out]; simp only [Hst.out, HBK.out, Hb1.out, HF3.out, HSZ.out, HSZ2.out, reduceIte, Nat.reduceEqDiff])
        go_upto_region 17 with (fail)
        generalize (((wc).setCell ⟨g4, 9, none⟩ (.int .i64 (SZ2 : Nat))).setCell ⟨g4, 8, none⟩ (.int .i64 0)).setCell ⟨g4, 3, none⟩ (.bool F3) = wd at HF9 ⊢
        obtain ⟨cs, Hcs⟩ : ∃ cs : Array Value, Hid (cs = ({ op := 10, lba := LB, blk := BK, fua := F3, len := SZ2 } : Tk).cs) := ⟨_, Lib.hid rfl⟩
        obtain ⟨zn, Hzn⟩ : ∃ zn : Array Value, Hid (zn = #[.int .i64 0, .int .u64 0, .int .u64 0, .bool false, .bool false, .int .i64 0, .int .i64 0, .int .i64 0, .int .i64 0, .int .i64 0, .int .i64 0, .bool false]) := ⟨_, Lib.hid rfl⟩
        have hz8 : wd.heap[w.heap.size + 1]? = some (.cells zn 25 (0, 0)) := by rw [Hzn.out]; exact HF9.out.hz
        have ht8 : wd.heap[g4]? = some (.cells cs 25 (0, 0)) := by rw [Hcs.out]; exact HF9.out.ht
        have hb8 : Below w.heap.size w wd := HF9.out.hb
        have hci : Hid ((Try.prog.info? 25).map (·.size) = some cs.size) := Lib.hid (by rw [Hcs.out]; exact infoTk)
        have hcz : Hid (zn.size = cs.size) := Lib.hid (by rw [Hcs.out, Hzn.out]; rfl)
        have hc1 : Hid (cs.all (·.oneCell') = true) := Lib.hid (by rw [Hcs.out]; exact Tk.cs_one _)
        have x8 : wd.cell? ⟨w.heap.size, 1, none⟩ = some (.int .u8 (b1 : Nat)) := by rw [HF9.out.hx.cell HB.out 1 (by omega), Hb1.out]
        cases O
        · obtain rfl : c = code M := by rw [Hc.out]; unfold blkC; rw [HD.out]; simp [HBK.out, Hb1.out, ← HO.out, ← HM.out, HNE.out]
          obtain ⟨wq, hq⟩ : ∃ wq : World, ({ wd with drawn := wd.drawn + 1 } : World) = wq := ⟨_, rfl⟩
          have hz9 : wq.heap[w.heap.size + 1]? = some (.cells zn 25 (0, 0)) := by rw [← hq]; exact hz8
          have ht9 : wq.heap[g4]? = some (.cells cs 25 (0, 0)) := by rw [← hq]; exact ht8
          have hb9 : Below w.heap.size w wq := by rw [← hq]; exact hb8.drew
          have x9 : wq.cell? ⟨w.heap.size, 1, none⟩ = some (.int .u8 (b1 : Nat)) := by rw [← hq]; exact x8
          refine wp_region_up 9 (fun v => v = wq) (by kernel_rfl) ?_
          rw [hq]
          have hS : wq = wq := rfl
          have HL := Lib.hid (load_task ht9 hci.out)
          have HZ9 := Lib.hid hz9
          clear hq hz8 ht8 hb8 ht9 hz9 x8
          refine up_take (i := 0) (v := .agg cs) rfl (by kernel_rfl) (by kernel_rfl) (fun _ _ _ h => h) (Or.inl ⟨by rfl, ?_⟩) hS ?_
          · intro w' hS'; subst hS'; exact exec_load _ _ _ _ rfl _ _ rfl _ HL.out
          try simp only [List.getElem_toArray, List.getElem_cons_succ, List.getElem_cons_zero, Act.put, List.setIfInBounds_toArray, List.set]
          refine up_take (i := 1) (v := .pointer (some ⟨w.heap.size, 1, none⟩)) rfl (by kernel_rfl) (by kernel_rfl) (fun _ _ _ h => h) (Or.inl ⟨by rfl, ?_⟩) hS ?_
          · intro w' _; go_simp
          try simp only [List.getElem_toArray, List.getElem_cons_succ, List.getElem_cons_zero, Act.put, List.setIfInBounds_toArray, List.set]
          refine up_take (i := 2) (v := .int .u8 (b1 : Nat)) rfl (by kernel_rfl) (by kernel_rfl) (fun _ _ _ h => h) (Or.inl ⟨by rfl, ?_⟩) hS ?_
          · intro w' hS'
            subst hS'
            go_simp
          try simp only [List.getElem_toArray, List.getElem_cons_succ, List.getElem_cons_zero, Act.put, List.setIfInBounds_toArray, List.set]
          refine up_take (i := 3) (v := .int .u8 (bits .andNot .u8 (b1 : Nat) 8)) rfl (by kernel_rfl) (by kernel_rfl) (fun _ _ _ h => h) (Or.inl ⟨by rfl, ?_⟩) hS ?_
          · intro w' _; go_simp
          try simp only [List.getElem_toArray, List.getElem_cons_succ, List.getElem_cons_zero, Act.put, List.setIfInBounds_toArray, List.set]
          refine up_take (i := 4) (v := .bool false) rfl (by kernel_rfl) (by kernel_rfl) (fun _ _ _ h => h) (Or.inl ⟨by rfl, ?_⟩) hS ?_
          · intro w' _; go_simp
          try simp only [List.getElem_toArray, List.getElem_cons_succ, List.getElem_cons_zero, Act.put, List.setIfInBounds_toArray, List.set]
          refine up_take (i := 5) (v := .bool false) rfl (by kernel_rfl) (by kernel_rfl) (fun _ _ _ h => h) (Or.inl ⟨by rfl, ?_⟩) hS ?_
          · intro w' _; go_simp
          try simp only [List.getElem_toArray, List.getElem_cons_succ, List.getElem_cons_zero, Act.put, List.setIfInBounds_toArray, List.set]
          refine up_take (i := 6) (v := .bool M) rfl (by kernel_rfl) (by kernel_rfl) (fun _ _ _ h => h) (Or.inl ⟨by rfl, ?_⟩) hS ?_
          · intro w' _; go_simp
          try simp only [List.getElem_toArray, List.getElem_cons_succ, List.getElem_cons_zero, Act.put, List.setIfInBounds_toArray, List.set]
          refine up_take (i := 7) (v := .bool M) rfl (by kernel_rfl) (by kernel_rfl) (fun _ _ _ h => h) (Or.inl ⟨by rfl, ?_⟩) hS ?_
          · intro w' _; go_simp
          try simp only [List.getElem_toArray, List.getElem_cons_succ, List.getElem_cons_zero, Act.put, List.setIfInBounds_toArray, List.set]
          refine up_one 8 _ rfl (by kernel_rfl) (by decide) (by rfl) (fun K hK => ?_)
          go_simp
          refine (fieldIf_any (w := wq) M).mono ?_
          rintro e w' ⟨rfl, rfl⟩
          refine hK _ _ rfl ?_
          clear hK K
          try simp only [List.getElem_toArray, List.getElem_cons_succ, List.getElem_cons_zero, Act.put, List.setIfInBounds_toArray, List.set]
          refine up_tail ?_
          refine up_last 9 _ rfl (by kernel_rfl) (by decide) (by rfl) (fun K hK => ?_)
          refine wp_store_whole 25 _ _ rfl (w.heap.size + 1) cs rfl rfl zn 25 HZ9.out hci.out hcz.out hc1.out ?_
          intro w5 Hs5 Hg5
          refine hK _ _ ?_
          clear hK K
          try simp only [List.getElem_toArray, List.getElem_cons_succ, List.getElem_cons_zero, Act.put, List.setIfInBounds_toArray, List.set]
          refine up_last 10 _ rfl (by kernel_rfl) (by decide) (by rfl) (fun K hK => ?_)
          go_simp
          refine hK _ _ ?_
          clear hK K
          try simp only [List.getElem_toArray, List.getElem_cons_succ, List.getElem_cons_zero, Act.put, List.setIfInBounds_toArray, List.set]
          refine up_done (by kernel_rfl) ?_ _
          go_wp2
          refine bodyPost_ret (v := .tuple #[.agg cs, .int .i64 (code M : Nat)]) ?_ rfl ⟨_, by rw [Hcs.out]; rfl, fun _ => hTT.out.symm, below_of_grown (g := w.heap.size + 1) hb9 Hg5.out (by have := hb9.size; omega) (by omega)⟩
          exact results_cell_row_tmp (ty := 25) rfl _ _ (w.heap.size + 1) 25 _ (0, 0) _ rfl Hs5.out Try.underlying25 rfl hci.out _ rfl
        · obtain rfl : c = code true := by rw [Hc.out]; unfold blkC; rw [HD.out]; simp [HBK.out, Hb1.out, ← HO.out, ← HM.out, HNE.out]
          obtain ⟨wq, hq⟩ : ∃ wq : World, ({ wd with drawn := wd.drawn + 1 } : World) = wq := ⟨_, rfl⟩
          have hz9 : wq.heap[w.heap.size + 1]? = some (.cells zn 25 (0, 0)) := by rw [← hq]; exact hz8
          have ht9 : wq.heap[g4]? = some (.cells cs 25 (0, 0)) := by rw [← hq]; exact ht8
          have hb9 : Below w.heap.size w wq := by rw [← hq]; exact hb8.drew
          have x9 : wq.cell? ⟨w.heap.size, 1, none⟩ = some (.int .u8 (b1 : Nat)) := by rw [← hq]; exact x8
          refine wp_region_up 9 (fun v => v = wq) (by kernel_rfl) ?_
          rw [hq]
          have hS : wq = wq := rfl
          have HL := Lib.hid (load_task ht9 hci.out)
          have HZ9 := Lib.hid hz9
          clear hq hz8 ht8 hb8 ht9 hz9 x8
          refine up_take (i := 0) (v := .agg cs) rfl (by kernel_rfl) (by kernel_rfl) (fun _ _ _ h => h) (Or.inl ⟨by rfl, ?_⟩) hS ?_
          · intro w' hS'; subst hS'; exact exec_load _ _ _ _ rfl _ _ rfl _ HL.out
          try simp only [List.getElem_toArray, List.getElem_cons_succ, List.getElem_cons_zero, Act.put, List.setIfInBounds_toArray, List.set]
          refine up_take (i := 1) (v := .pointer (some ⟨w.heap.size, 1, none⟩)) rfl (by kernel_rfl) (by kernel_rfl) (fun _ _ _ h => h) (Or.inl ⟨by rfl, ?_⟩) hS ?_
          · intro w' _; go_simp
          try simp only [List.getElem_toArray, List.getElem_cons_succ, List.getElem_cons_zero, Act.put, List.setIfInBounds_toArray, List.set]
          refine up_take (i := 2) (v := .int .u8 (b1 : Nat)) rfl (by kernel_rfl) (by kernel_rfl) (fun _ _ _ h => h) (Or.inl ⟨by rfl, ?_⟩) hS ?_
          · intro w' hS'
            subst hS'
            go_simp
          try simp only [List.getElem_toArray, List.getElem_cons_succ, List.getElem_cons_zero, Act.put, List.setIfInBounds_toArray, List.set]
          refine up_take (i := 3) (v := .int .u8 (bits .andNot .u8 (b1 : Nat) 8)) rfl (by kernel_rfl) (by kernel_rfl) (fun _ _ _ h => h) (Or.inl ⟨by rfl, ?_⟩) hS ?_
          · intro w' _; go_simp
          try simp only [List.getElem_toArray, List.getElem_cons_succ, List.getElem_cons_zero, Act.put, List.setIfInBounds_toArray, List.set]
          refine up_take (i := 4) (v := .bool true) rfl (by kernel_rfl) (by kernel_rfl) (fun _ _ _ h => h) (Or.inl ⟨by rfl, ?_⟩) hS ?_
          · intro w' _; go_simp
          try simp only [List.getElem_toArray, List.getElem_cons_succ, List.getElem_cons_zero, Act.put, List.setIfInBounds_toArray, List.set]
          refine up_take (i := 5) (v := .bool true) rfl (by kernel_rfl) (by kernel_rfl) (fun _ _ _ h => h) (Or.inl ⟨by rfl, ?_⟩) hS ?_
          · intro w' _; go_simp
          try simp only [List.getElem_toArray, List.getElem_cons_succ, List.getElem_cons_zero, Act.put, List.setIfInBounds_toArray, List.set]
          refine up_take (i := 6) (v := undef) rfl (by kernel_rfl) (by kernel_rfl) (fun _ _ _ h => h) (Or.inr ⟨by rfl, rfl⟩) hS ?_
          try simp only [List.getElem_toArray, List.getElem_cons_succ, List.getElem_cons_zero, Act.put, List.setIfInBounds_toArray, List.set]
          refine up_take (i := 7) (v := .bool true) rfl (by kernel_rfl) (by kernel_rfl) (fun _ _ _ h => h) (Or.inl ⟨by rfl, ?_⟩) hS ?_
          · intro w' _; go_simp
          try simp only [List.getElem_toArray, List.getElem_cons_succ, List.getElem_cons_zero, Act.put, List.setIfInBounds_toArray, List.set]
          refine up_one 8 _ rfl (by kernel_rfl) (by decide) (by rfl) (fun K hK => ?_)
          go_simp
          refine (fieldIf_any (w := wq) true).mono ?_
          rintro e w' ⟨rfl, rfl⟩
          refine hK _ _ rfl ?_
          clear hK K
          try simp only [List.getElem_toArray, List.getElem_cons_succ, List.getElem_cons_zero, Act.put, List.setIfInBounds_toArray, List.set]
          refine up_tail ?_
          refine up_last 9 _ rfl (by kernel_rfl) (by decide) (by rfl) (fun K hK => ?_)
          refine wp_store_whole 25 _ _ rfl (w.heap.size + 1) cs rfl rfl zn 25 HZ9.out hci.out hcz.out hc1.out ?_
          intro w5 Hs5 Hg5
          refine hK _ _ ?_
          clear hK K
          try simp only [List.getElem_toArray, List.getElem_cons_succ, List.getElem_cons_zero, Act.put, List.setIfInBounds_toArray, List.set]
          refine up_last 10 _ rfl (by kernel_rfl) (by decide) (by rfl) (fun K hK => ?_)
          go_simp
          refine hK _ _ ?_
          clear hK K
          try simp only [List.getElem_toArray, List.getElem_cons_succ, List.getElem_cons_zero, Act.put, List.setIfInBounds_toArray, List.set]
          refine up_done (by kernel_rfl) ?_ _
          go_wp2
          refine bodyPost_ret (v := .tuple #[.agg cs, .int .i64 (code true : Nat)]) ?_ rfl ⟨_, by rw [Hcs.out]; rfl, fun _ => hTT.out.symm, below_of_grown (g := w.heap.size + 1) hb9 Hg5.out (by have := hb9.size; omega) (by omega)⟩
          exact results_cell_row_tmp (ty := 25) rfl _ _ (w.heap.size + 1) 25 _ (0, 0) _ rfl Hs5.out Try.underlying25 rfl hci.out _ rfl
    · obtain rfl : ok = true := Hok.out
      have x7 : wc.cell? ⟨w.heap.size, 1, none⟩ = some (.int .u8 (b1 : Nat)) := by rw [HF.out.hx.cell HB.out 1 (by omega), Hb1.out]
      have k7 : wc.cell? ⟨g4, 2, none⟩ = some (.int .u64 (BK : Nat)) := HF.out.cell 2
      have o7 : wc.cell? ⟨g4, 0, none⟩ = some (.int .i64 11) := HF.out.cell 0
      have HF9 := HF
      have hTT : Hid (T = ({ op := 11, lba := LB, blk := BK } : Tk)) := Lib.hid (by rw [HT.out]; unfold blkT; rw [HD.out]; simp only [Hst.out, reduceIte])
      go_upto_region 21 with (fail)
      rename World => wd
      obtain ⟨X, HX⟩ : ∃ X, Hid (X = (b1 != 0)) := ⟨_, Lib.hid rfl⟩
      have hX : ((b1 : Int) != 0) = X := by rw [HX.out, Bool.eq_iff_iff]; simp
      obtain ⟨cs, Hcs⟩ : ∃ cs : Array Value, Hid (cs = ({ op := 11, lba := LB, blk := BK } : Tk).cs) := ⟨_, Lib.hid rfl⟩
      obtain ⟨zn, Hzn⟩ : ∃ zn : Array Value, Hid (zn = #[.int .i64 0, .int .u64 0, .int .u64 0, .bool false, .bool false, .int .i64 0, .int .i64 0, .int .i64 0, .int .i64 0, .int .i64 0, .int .i64 0, .bool false]) := ⟨_, Lib.hid rfl⟩
      have hz8 : wd.heap[w.heap.size + 1]? = some (.cells zn 25 (0, 0)) := by rw [Hzn.out]; exact HF9.out.hz
      have ht8 : wd.heap[g4]? = some (.cells cs 25 (0, 0)) := by rw [Hcs.out]; exact HF9.out.ht
      have hb8 : Below w.heap.size w wd := HF9.out.hb
      have hci : Hid ((Try.prog.info? 25).map (·.size) = some cs.size) := Lib.hid (by rw [Hcs.out]; exact infoTk)
      have hcz : Hid (zn.size = cs.size) := Lib.hid (by rw [Hcs.out, Hzn.out]; rfl)
      have hc1 : Hid (cs.all (·.oneCell') = true) := Lib.hid (by rw [Hcs.out]; exact Tk.cs_one _)
      have x8 : wd.cell? ⟨w.heap.size, 1, none⟩ = some (.int .u8 (b1 : Nat)) := by rw [HF9.out.hx.cell HB.out 1 (by omega), Hb1.out]
      obtain rfl : c = code X := by rw [Hc.out]; unfold blkC; rw [HD.out]; simp [HBK.out, Hb1.out, ← HO.out, ← HM.out, ← HX.out]
      obtain ⟨wq, hq⟩ : ∃ wq : World, ({ wd with drawn := wd.drawn + 1 } : World) = wq := ⟨_, rfl⟩
      have hz9 : wq.heap[w.heap.size + 1]? = some (.cells zn 25 (0, 0)) := by rw [← hq]; exact hz8
      have ht9 : wq.heap[g4]? = some (.cells cs 25 (0, 0)) := by rw [← hq]; exact ht8
      have hb9 : Below w.heap.size w wq := by rw [← hq]; exact hb8.drew
      have x9 : wq.cell? ⟨w.heap.size, 1, none⟩ = some (.int .u8 (b1 : Nat)) := by rw [← hq]; exact x8
      refine wp_region_up 5 (fun v => v = wq) (by kernel_rfl) ?_
      rw [hq]
      have hS : wq = wq := rfl
      have HL := Lib.hid (load_task ht9 hci.out)
      have HZ9 := Lib.hid hz9
      clear hq hz8 ht8 hb8 ht9 hz9 x8
      refine up_take (i := 0) (v := .agg cs) rfl (by kernel_rfl) (by kernel_rfl) (fun _ _ _ h => h) (Or.inl ⟨by rfl, ?_⟩) hS ?_
      · intro w' hS'; subst hS'; exact exec_load _ _ _ _ rfl _ _ rfl _ HL.out
      try simp only [List.getElem_toArray, List.getElem_cons_succ, List.getElem_cons_zero, Act.put, List.setIfInBounds_toArray, List.set]
      refine up_take (i := 1) (v := .pointer (some ⟨w.heap.size, 1, none⟩)) rfl (by kernel_rfl) (by kernel_rfl) (fun _ _ _ h => h) (Or.inl ⟨by rfl, ?_⟩) hS ?_
      · intro w' _; go_simp
      try simp only [List.getElem_toArray, List.getElem_cons_succ, List.getElem_cons_zero, Act.put, List.setIfInBounds_toArray, List.set]
      refine up_take (i := 2) (v := .int .u8 (b1 : Nat)) rfl (by kernel_rfl) (by kernel_rfl) (fun _ _ _ h => h) (Or.inl ⟨by rfl, ?_⟩) hS ?_
      · intro w' hS'
        subst hS'
        go_simp
      try simp only [List.getElem_toArray, List.getElem_cons_succ, List.getElem_cons_zero, Act.put, List.setIfInBounds_toArray, List.set]
      refine up_take (i := 3) (v := .bool X) rfl (by kernel_rfl) (by kernel_rfl) (fun _ _ _ h => h) (Or.inl ⟨by rfl, ?_⟩) hS ?_
      · intro w' _; go_simp
      try simp only [List.getElem_toArray, List.getElem_cons_succ, List.getElem_cons_zero, Act.put, List.setIfInBounds_toArray, List.set]
      refine up_one 4 _ rfl (by kernel_rfl) (by decide) (by rfl) (fun K hK => ?_)
      go_simp
      refine (fieldIf_any (w := wq) X).mono ?_
      rintro e w' ⟨rfl, rfl⟩
      refine hK _ _ rfl ?_
      clear hK K
      try simp only [List.getElem_toArray, List.getElem_cons_succ, List.getElem_cons_zero, Act.put, List.setIfInBounds_toArray, List.set]
      refine up_tail ?_
      refine up_last 5 _ rfl (by kernel_rfl) (by decide) (by rfl) (fun K hK => ?_)
      refine wp_store_whole 25 _ _ rfl (w.heap.size + 1) cs rfl rfl zn 25 HZ9.out hci.out hcz.out hc1.out ?_
      intro w5 Hs5 Hg5
      refine hK _ _ ?_
      clear hK K
      try simp only [List.getElem_toArray, List.getElem_cons_succ, List.getElem_cons_zero, Act.put, List.setIfInBounds_toArray, List.set]
      refine up_last 6 _ rfl (by kernel_rfl) (by decide) (by rfl) (fun K hK => ?_)
      go_simp
      refine hK _ _ ?_
      clear hK K
      try simp only [List.getElem_toArray, List.getElem_cons_succ, List.getElem_cons_zero, Act.put, List.setIfInBounds_toArray, List.set]
      refine up_done (by kernel_rfl) ?_ _
      go_wp2
      refine bodyPost_ret (v := .tuple #[.agg cs, .int .i64 (code X : Nat)]) ?_ rfl ⟨_, by rw [Hcs.out]; rfl, fun _ => hTT.out.symm, below_of_grown (g := w.heap.size + 1) hb9 Hg5.out (by have := hb9.size; omega) (by omega)⟩
      exact results_cell_row_tmp (ty := 25) rfl _ _ (w.heap.size + 1) 25 _ (0, 0) _ rfl Hs5.out Try.underlying25 rfl hci.out _ rfl
end Go.Proofs.Ytehhhbehclpkbaa
