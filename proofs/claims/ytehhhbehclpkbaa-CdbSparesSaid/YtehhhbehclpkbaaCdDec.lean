/-
  cdb.decode.
-/
import Derived.Test.YtehhhbehclpkbaaCdRow1
import Derived.Test.YtehhhbehclpkbaaCdOrd
import Derived.Test.YtehhhbehclpkbaaCdBlk
set_option linter.unusedSimpArgs false
set_option linter.unusedVariables false
namespace Go.Proofs.Ytehhhbehclpkbaa
open Go.RowKit Sh Cd

def TkF (t : Tk) (c : Nat) (w : World) (e : Ending) (w' : World) : Prop := ∃ (u : Tk) (cs : Array Value), Hid (cs = u.cs) ∧ e = .returned (.tuple #[.agg cs, .int .i64 (c : Int)]) ∧ Hid (c = 0 → u = t) ∧ Below w.heap.size w w'
theorem TkP.f {t : Tk} {c : Nat} {w : World} {e : Ending} {w' : World} (h : TkP t c w e w') : TkF t c w e w' := ⟨t, t.cs, Lib.hid rfl, h.1, Lib.hid fun _ => rfl, h.2⟩
theorem TkE.f {t : Tk} {c : Nat} {w : World} {e : Ending} {w' : World} (h : TkE t c w e w') : TkF t c w e w' := by
  obtain ⟨u, h1, h2, h3⟩ := h
  exact ⟨u, u.cs, Lib.hid rfl, h1, Lib.hid h2, h3⟩
set_option maxRecDepth 100000 in
set_option maxHeartbeats 4000000 in
theorem decode_any (B : List UInt8) (hB : B.length = 16) (w : World) :
    Calls Try.prog 11 #[.agg (B.map cu8).toArray] w (TkF (rowT B) (rowC B) w) := by
  have HB := Lib.hid hB
  obtain ⟨b0, hb0⟩ : ∃ x, b8 B 0 = x := ⟨_, rfl⟩
  obtain ⟨b1, hb1⟩ : ∃ x, b8 B 1 = x := ⟨_, rfl⟩
  obtain ⟨b2, hb2⟩ : ∃ x, b8 B 2 = x := ⟨_, rfl⟩
  have l1 : b1 < 256 := by rw [← hb1]; exact b8_lt B 1
  have Hb0 := Lib.hid hb0; have Hb1 := Lib.hid hb1; have Hb2 := Lib.hid hb2
  obtain ⟨T, HT⟩ : ∃ T, Hid (T = rowT B) := ⟨_, Lib.hid rfl⟩
  obtain ⟨c, Hc⟩ : ∃ c, Hid (c = rowC B) := ⟨_, Lib.hid rfl⟩
  rw [← HT.out, ← Hc.out]
  have K12 : Hid (∀ W, Calls Try.prog 12 #[.agg (B.map cu8).toArray] W (TkF (inqT B) (inqC B) W)) := Lib.hid fun W => (inquire_any B hB W).mono fun _ _ h => h.f
  have K15 : Hid (∀ W, Calls Try.prog 15 #[.agg (B.map cu8).toArray] W (TkF (ordT B) (ordC B) W)) := Lib.hid fun W => (orderOf_any B hB W).mono fun _ _ h => h.f
  have K16 : Hid (∀ W, Calls Try.prog 16 #[.agg (B.map cu8).toArray] W (TkF (unmT B) (unmC B) W)) := Lib.hid fun W => (unmapOf_any B hB W).mono fun _ _ h => h.f
  have K17 : Hid (∀ W, Calls Try.prog 17 #[.agg (B.map cu8).toArray] W (TkF (blkT B) (blkC B) W)) := Lib.hid fun W => (ofBlocks_any B hB W).mono fun _ _ h => h.f
  have HN : Hid (∀ W : World, W.cell? ⟨w.heap.size, 7, none⟩ = some (.int .u8 (b8 B 7 : Nat)) → W.cell? ⟨w.heap.size, 8, none⟩ = some (.int .u8 (b8 B 8 : Nat)) → Calls Try.prog 13 #[.slice (some ⟨w.heap.size, 7, none⟩) 2 9] W fun e w' => e = .returned (.int .i64 (be B 7 2 : Nat)) ∧ W = w') := Lib.hid fun W h7 h8 => length_any (by simp; omega) (by omega) (fun j hj => by
    rcases (by omega : j = 0 ∨ j = 1) with rfl | rfl
    · simpa [at8, b8, bz] using h7
    · simpa [at8, b8, bz] using h8
    )
  have hx := two_box w B
  have hz : (two w B).heap[w.heap.size + 1]? = some (.cells #[.int .i64 0, .int .u64 0, .int .u64 0, .bool false, .bool false, .int .i64 0, .int .i64 0, .int .i64 0, .int .i64 0, .int .i64 0, .int .i64 0, .bool false] 25 (0, 0)) := by unfold two; simpa using heap_alloc_new (w.alloc (.cells (B.map cu8).toArray 34)) _
  have hb := two_bel w B
  have hc1 := hx.cell hB 1 (by omega)
  have hc7 := hx.cell hB 7 (by omega)
  have hc8 := hx.cell hB 8 (by omega)
  have hc0 := hx.cell hB 0 (by omega)
  rw [hb0] at hc0
  rw [hb1] at hc1
  unfold two at hc0 hc1 hc7 hc8
  clear hb0 hb1 hb2 hB
  obtain ⟨av, Hav⟩ : ∃ av : Array Value, Hid (av = (B.map cu8).toArray) := ⟨_, Lib.hid rfl⟩
  have hai : Hid ((Try.prog.info? 34).map (·.size) = some av.size) := Lib.hid (by rw [Hav.out, List.size_toArray, List.length_map, HB.out]; exact infoB16)
  obtain ⟨zn, Hzn⟩ : ∃ zn : Array Value, Hid (zn = #[.int .i64 0, .int .u64 0, .int .u64 0, .bool false, .bool false, .int .i64 0, .int .i64 0, .int .i64 0, .int .i64 0, .int .i64 0, .int .i64 0, .bool false]) := ⟨_, Lib.hid rfl⟩
  have hzs : zn.size = 12 := by rw [Hzn.out]; rfl
  have Hzs := Lib.hid hzs
  have Hx := Lib.hid hx; have Hz := Lib.hid hz; have Hb := Lib.hid hb
  clear hx hz hb hzs
  by_cases h0 : b0 = 0
  · subst h0
    obtain rfl : c = 0 := by rw [Hc.out, rowC, Hb0.out]; rfl
    have hTT : Hid (T = ({ op := 1 } : Tk)) := Lib.hid (by rw [HT.out, rowT, Hb0.out]; rfl)
    clear hc1 hc7 hc8 HN K12 K15 K16 K17
    go_enter Try.func11, Try.ntmps11
    go_wp2
    refine bodyPost_ret (v := .tuple #[.agg #[.int .i64 1, .int .u64 0, .int .u64 0, .bool false, .bool false, .int .i64 0, .int .i64 0, .int .i64 0, .int .i64 0, .int .i64 0, .int .i64 0, .bool false], .int .i64 0]) (by simp [results, Try.results11, go_sem]) rfl ⟨({ op := 1 } : Tk), _, Lib.hid rfl, rfl, Lib.hid fun _ => hTT.out.symm, ((Below.refl _ _).alloc (Nat.le_refl _) _).alloc (by simp) _⟩
  by_cases h18 : b0 = 18
  · subst h18
    clear h0
    obtain rfl : c = inqC B := by rw [Hc.out, rowC, Hb0.out]; rfl
    have hTT : Hid (T = inqT B) := Lib.hid (by rw [HT.out, rowT, Hb0.out]; rfl)
    clear hc1 hc7 hc8 HN
    have Hx8 : Hid ((two w B).heap[w.heap.size]? = some (.cells av 34 (0, 0))) := Lib.hid (by rw [Hav.out]; exact Hx.out)
    have hl2 : w.heap.size + 1 < (two w B).heap.size := (Array.getElem?_eq_some_iff.1 Hz.out).1
    have Hl2 := Lib.hid hl2
    have Hz8 : Hid ((two w B).heap[w.heap.size + 1]? = some (.cells zn 25 (0, 0))) := Lib.hid (by rw [Hzn.out]; exact Hz.out)
    rw [← Hav.out] at hc0 K12 ⊢
    unfold two at Hx8 Hz8 Hl2
    have Hb2 : Hid (Below w.heap.size w (two w B)) := Hb
    unfold two at Hb2
    rw [← Hav.out] at Hx8 Hz8 Hl2 Hb2
    clear hl2 Hx Hz Hb
    go_enter Try.func11, Try.ntmps11
    go_wp2_with (first
      | (refine wpList_load_row rfl 34 _ rfl w.heap.size rfl 34 av (0, 0) _ Hx8.out Try.underlying34 rfl hai.out ?_)
      | (go_at_call 12; refine (K12.out _).mono ?_; rintro e w1 ⟨u, cs, Hcs, rfl, Hu, hb1⟩; have Hb1w := Lib.hid hb1; have hz1 := (hb1.block _ Hl2.out).trans Hz8.out; have HZ1 := Lib.hid hz1; have hci : Hid ((Try.prog.info? 25).map (·.size) = some cs.size) := Lib.hid (by rw [Hcs.out]; exact infoTk); have hcz : Hid (zn.size = cs.size) := Lib.hid (by rw [Hcs.out, Hzs.out]; rfl); have hc1 : Hid (cs.all (·.oneCell') = true) := Lib.hid (by rw [Hcs.out]; exact Tk.cs_one _); clear hb1 hz1)
      | (refine wpList_store_row rfl 25 _ _ rfl (w.heap.size + 1) cs rfl rfl 25 zn HZ1.out hci.out hcz.out hc1.out ?_))
    refine bodyPost_ret (v := .tuple #[.agg cs, .int .i64 (inqC B : Nat)]) ?_ rfl ⟨u, cs, Hcs, rfl, Lib.hid (by rw [hTT.out]; exact Hu.out), below_setRow (g := w.heap.size + 1) (Hb2.out.trans (Hb1w.out.mono Hb2.out.size)) (by omega) cs⟩
    exact results_cell_row_tmp (ty := 25) rfl _ _ (w.heap.size + 1) 25 _ (0, 0) _ rfl (setRow_heap _ _ _ _ _ _ HZ1.out) Try.underlying25 rfl hci.out _ rfl
  by_cases h37 : b0 = 37
  · subst h37
    clear h0 h18
    obtain rfl : c = 0 := by rw [Hc.out, rowC, Hb0.out]; rfl
    have hTT : Hid (T = ({ op := 3, all := 8 } : Tk)) := Lib.hid (by rw [HT.out, rowT, Hb0.out]; rfl)
    clear hc1 hc7 hc8 HN K12 K15 K16 K17
    go_enter Try.func11, Try.ntmps11
    go_wp2
    refine bodyPost_ret (v := .tuple #[.agg #[.int .i64 3, .int .u64 0, .int .u64 0, .bool false, .bool false, .int .i64 0, .int .i64 0, .int .i64 0, .int .i64 8, .int .i64 0, .int .i64 0, .bool false], .int .i64 0]) (by simp [results, Try.results11, go_sem]) rfl ⟨({ op := 3, all := 8 } : Tk), _, Lib.hid rfl, rfl, Lib.hid fun _ => hTT.out.symm, ((Below.refl _ _).alloc (Nat.le_refl _) _).alloc (by simp) _⟩
  by_cases h158 : b0 = 158
  · subst h158
    clear h0 h18 h37
    obtain ⟨A, HA⟩ : ∃ A, Hid (be B 10 4 = A) := ⟨_, Lib.hid rfl⟩
    obtain ⟨X, HX⟩ : ∃ X, Hid (X = (b1 != 16)) := ⟨_, Lib.hid rfl⟩
    obtain rfl : c = code X := by rw [Hc.out, rowC, Hb0.out, HX.out]; simp [Hb1.out, Hb2.out]
    have hTT : Hid (T = ({ op := 4, all := A } : Tk)) := Lib.hid (by rw [HT.out, rowT, Hb0.out, ← HA.out]; rfl)
    have HL4 := Lib.hid (Hx.out.length HB.out 10 4 6 (by omega) (by omega))
    rw [HA.out] at HL4
    have Hc0 := Lib.hid hc0
    unfold two at HL4
    clear hc1 hc7 hc8 HN K12 K15 K16 K17 Hz Hb hai Hzs Hzn zn Hav av
    go_enter Try.func11, Try.ntmps11
    go_upto_region 10 with (go_at_call 13; refine HL4.out.mono ?_; rintro e w' ⟨rfl, rfl⟩)
    have HF9 : Hid (Fg w B #[.int .i64 4, .int .u64 0, .int .u64 0, .bool false, .bool false, .int .i64 0, .int .i64 0, .int .i64 0, .int .i64 (A : Nat), .int .i64 0, .int .i64 0, .bool false] (w.heap.size + 1 + 1) _) := Lib.hid ⟨(Fr.of w B #[.int .i64 4, .int .u64 0, .int .u64 0, .bool false, .bool false, .int .i64 0, .int .i64 0, .int .i64 0, .int .i64 (A : Nat), .int .i64 0, .int .i64 0, .bool false]).hx, (Fr.of w B #[.int .i64 4, .int .u64 0, .int .u64 0, .bool false, .bool false, .int .i64 0, .int .i64 0, .int .i64 0, .int .i64 (A : Nat), .int .i64 0, .int .i64 0, .bool false]).hz, (Fr.of w B #[.int .i64 4, .int .u64 0, .int .u64 0, .bool false, .bool false, .int .i64 0, .int .i64 0, .int .i64 0, .int .i64 (A : Nat), .int .i64 0, .int .i64 0, .bool false]).ht, (Fr.of w B #[.int .i64 4, .int .u64 0, .int .u64 0, .bool false, .bool false, .int .i64 0, .int .i64 0, .int .i64 0, .int .i64 (A : Nat), .int .i64 0, .int .i64 0, .bool false]).hb, Nat.le_refl _⟩
    generalize ((w.alloc (.cells (B.map cu8).toArray 34)).alloc (.cells #[.int .i64 0, .int .u64 0, .int .u64 0, .bool false, .bool false, .int .i64 0, .int .i64 0, .int .i64 0, .int .i64 0, .int .i64 0, .int .i64 0, .bool false] 25)).alloc (.cells #[.int .i64 4, .int .u64 0, .int .u64 0, .bool false, .bool false, .int .i64 0, .int .i64 0, .int .i64 0, .int .i64 (A : Nat), .int .i64 0, .int .i64 0, .bool false] 25) = wd at HF9 ⊢
    clear HL4 hc0 Hx Hc0
    obtain ⟨cs, Hcs⟩ : ∃ cs : Array Value, Hid (cs = ({ op := 4, all := A } : Tk).cs) := ⟨_, Lib.hid rfl⟩
    obtain ⟨zn, Hzn⟩ : ∃ zn : Array Value, Hid (zn = #[.int .i64 0, .int .u64 0, .int .u64 0, .bool false, .bool false, .int .i64 0, .int .i64 0, .int .i64 0, .int .i64 0, .int .i64 0, .int .i64 0, .bool false]) := ⟨_, Lib.hid rfl⟩
    have hz8 : wd.heap[w.heap.size + 1]? = some (.cells zn 25 (0, 0)) := by rw [Hzn.out]; exact HF9.out.hz
    have ht8 : wd.heap[w.heap.size + 1 + 1]? = some (.cells cs 25 (0, 0)) := by rw [Hcs.out]; exact HF9.out.ht
    have hb8 : Below w.heap.size w wd := HF9.out.hb
    have hci : Hid ((Try.prog.info? 25).map (·.size) = some cs.size) := Lib.hid (by rw [Hcs.out]; exact infoTk)
    have hcz : Hid (zn.size = cs.size) := Lib.hid (by rw [Hcs.out, Hzn.out]; rfl)
    have hc1 : Hid (cs.all (·.oneCell') = true) := Lib.hid (by rw [Hcs.out]; exact Tk.cs_one _)
    have x8 : wd.cell? ⟨w.heap.size, 1, none⟩ = some (.int .u8 (b1 : Nat)) := by rw [HF9.out.hx.cell HB.out 1 (by omega), Hb1.out]
    have hX : ((b1 : Int) != 16) = X := by rw [HX.out, Bool.eq_iff_iff]; simp; omega
    obtain ⟨wq, hq⟩ : ∃ wq : World, ({ wd with drawn := wd.drawn + 1 } : World) = wq := ⟨_, rfl⟩
    have hz9 : wq.heap[w.heap.size + 1]? = some (.cells zn 25 (0, 0)) := by rw [← hq]; exact hz8
    have ht9 : wq.heap[w.heap.size + 1 + 1]? = some (.cells cs 25 (0, 0)) := by rw [← hq]; exact ht8
    have hb9 : Below w.heap.size w wq := by rw [← hq]; exact hb8.drew
    have x9 : wq.cell? ⟨w.heap.size, 1, none⟩ = some (.int .u8 (b1 : Nat)) := by rw [← hq]; exact x8
    refine wp_region_up 5 (fun v => v = wq) (by kernel_rfl) ?_
    rw [hq]
    have hS : wq = wq := rfl
    have HL := Lib.hid (load_task ht9 hci.out)
    have HZ9 := Lib.hid hz9
    clear hq hz8 ht8 hb8 ht9 hz9 x8
    refine up_take (i := 0) (v := .agg cs) rfl (by kernel_rfl) (by kernel_rfl) (fun _ _ _ h => h) (Or.inl ⟨by rfl, ?_⟩) hS ?_
    · intro w' hS'; subst hS'; exact exec_load _ _ _ _ rfl _ _ rfl _ HL.out
    try simp only [List.getElem_toArray, List.getElem_cons_succ, List.getElem_cons_zero, Act.put, List.setIfInBounds_toArray, List.set]
    refine up_take (i := 1) (v := .pointer (some ⟨w.heap.size, 1, none⟩)) rfl (by kernel_rfl) (by kernel_rfl) (fun _ _ _ h => h) (Or.inl ⟨by rfl, ?_⟩) hS ?_
    · intro w' _; go_simp
    try simp only [List.getElem_toArray, List.getElem_cons_succ, List.getElem_cons_zero, Act.put, List.setIfInBounds_toArray, List.set]
    refine up_take (i := 2) (v := .int .u8 (b1 : Nat)) rfl (by kernel_rfl) (by kernel_rfl) (fun _ _ _ h => h) (Or.inl ⟨by rfl, ?_⟩) hS ?_
    · intro w' hS'
      subst hS'
      go_simp
    try simp only [List.getElem_toArray, List.getElem_cons_succ, List.getElem_cons_zero, Act.put, List.setIfInBounds_toArray, List.set]
    refine up_take (i := 3) (v := .bool X) rfl (by kernel_rfl) (by kernel_rfl) (fun _ _ _ h => h) (Or.inl ⟨by rfl, ?_⟩) hS ?_
    · intro w' _; go_simp
    try simp only [List.getElem_toArray, List.getElem_cons_succ, List.getElem_cons_zero, Act.put, List.setIfInBounds_toArray, List.set]
    refine up_one 4 _ rfl (by kernel_rfl) (by decide) (by rfl) (fun K hK => ?_)
    go_simp
    refine (fieldIf_any (w := wq) X).mono ?_
    rintro e w' ⟨rfl, rfl⟩
    refine hK _ _ rfl ?_
    clear hK K
    try simp only [List.getElem_toArray, List.getElem_cons_succ, List.getElem_cons_zero, Act.put, List.setIfInBounds_toArray, List.set]
    refine up_tail ?_
    refine up_last 5 _ rfl (by kernel_rfl) (by decide) (by rfl) (fun K hK => ?_)
    refine wp_store_whole 25 _ _ rfl (w.heap.size + 1) cs rfl rfl zn 25 HZ9.out hci.out hcz.out hc1.out ?_
    intro w5 Hs5 Hg5
    refine hK _ _ ?_
    clear hK K
    try simp only [List.getElem_toArray, List.getElem_cons_succ, List.getElem_cons_zero, Act.put, List.setIfInBounds_toArray, List.set]
    refine up_last 6 _ rfl (by kernel_rfl) (by decide) (by rfl) (fun K hK => ?_)
    go_simp
    refine hK _ _ ?_
    clear hK K
    try simp only [List.getElem_toArray, List.getElem_cons_succ, List.getElem_cons_zero, Act.put, List.setIfInBounds_toArray, List.set]
    refine up_done (by kernel_rfl) ?_ _
    go_wp2
    refine bodyPost_ret (v := .tuple #[.agg cs, .int .i64 (code X : Nat)]) ?_ rfl ⟨_, cs, Hcs, rfl, Lib.hid fun _ => hTT.out.symm, below_of_grown (g := w.heap.size + 1) hb9 Hg5.out (by have := hb9.size; omega) (by omega)⟩
    exact results_cell_row_tmp (ty := 25) rfl _ _ (w.heap.size + 1) 25 _ (0, 0) _ rfl Hs5.out Try.underlying25 rfl hci.out _ rfl
  by_cases h160 : b0 = 160
  · subst h160
    clear h0 h18 h37 h158
    obtain ⟨A, HA⟩ : ∃ A, Hid (be B 6 4 = A) := ⟨_, Lib.hid rfl⟩
    obtain ⟨X, HX⟩ : ∃ X, Hid (X = decide (2 < b2)) := ⟨_, Lib.hid rfl⟩
    obtain rfl : c = code X := by rw [Hc.out, rowC, Hb0.out, HX.out]; simp [Hb1.out, Hb2.out]
    have hTT : Hid (T = ({ op := 5, all := A } : Tk)) := Lib.hid (by rw [HT.out, rowT, Hb0.out, ← HA.out]; rfl)
    have HL4 := Lib.hid (Hx.out.length HB.out 6 4 10 (by omega) (by omega))
    rw [HA.out] at HL4
    have Hc0 := Lib.hid hc0
    unfold two at HL4
    clear hc1 hc7 hc8 HN K12 K15 K16 K17 Hz Hb hai Hzs Hzn zn Hav av
    go_enter Try.func11, Try.ntmps11
    go_upto_region 13 with (go_at_call 13; refine HL4.out.mono ?_; rintro e w' ⟨rfl, rfl⟩)
    have HF9 : Hid (Fg w B #[.int .i64 5, .int .u64 0, .int .u64 0, .bool false, .bool false, .int .i64 0, .int .i64 0, .int .i64 0, .int .i64 (A : Nat), .int .i64 0, .int .i64 0, .bool false] (w.heap.size + 1 + 1) _) := Lib.hid ⟨(Fr.of w B #[.int .i64 5, .int .u64 0, .int .u64 0, .bool false, .bool false, .int .i64 0, .int .i64 0, .int .i64 0, .int .i64 (A : Nat), .int .i64 0, .int .i64 0, .bool false]).hx, (Fr.of w B #[.int .i64 5, .int .u64 0, .int .u64 0, .bool false, .bool false, .int .i64 0, .int .i64 0, .int .i64 0, .int .i64 (A : Nat), .int .i64 0, .int .i64 0, .bool false]).hz, (Fr.of w B #[.int .i64 5, .int .u64 0, .int .u64 0, .bool false, .bool false, .int .i64 0, .int .i64 0, .int .i64 0, .int .i64 (A : Nat), .int .i64 0, .int .i64 0, .bool false]).ht, (Fr.of w B #[.int .i64 5, .int .u64 0, .int .u64 0, .bool false, .bool false, .int .i64 0, .int .i64 0, .int .i64 0, .int .i64 (A : Nat), .int .i64 0, .int .i64 0, .bool false]).hb, Nat.le_refl _⟩
    generalize ((w.alloc (.cells (B.map cu8).toArray 34)).alloc (.cells #[.int .i64 0, .int .u64 0, .int .u64 0, .bool false, .bool false, .int .i64 0, .int .i64 0, .int .i64 0, .int .i64 0, .int .i64 0, .int .i64 0, .bool false] 25)).alloc (.cells #[.int .i64 5, .int .u64 0, .int .u64 0, .bool false, .bool false, .int .i64 0, .int .i64 0, .int .i64 0, .int .i64 (A : Nat), .int .i64 0, .int .i64 0, .bool false] 25) = wd at HF9 ⊢
    clear HL4 hc0 Hx Hc0
    obtain ⟨cs, Hcs⟩ : ∃ cs : Array Value, Hid (cs = ({ op := 5, all := A } : Tk).cs) := ⟨_, Lib.hid rfl⟩
    obtain ⟨zn, Hzn⟩ : ∃ zn : Array Value, Hid (zn = #[.int .i64 0, .int .u64 0, .int .u64 0, .bool false, .bool false, .int .i64 0, .int .i64 0, .int .i64 0, .int .i64 0, .int .i64 0, .int .i64 0, .bool false]) := ⟨_, Lib.hid rfl⟩
    have hz8 : wd.heap[w.heap.size + 1]? = some (.cells zn 25 (0, 0)) := by rw [Hzn.out]; exact HF9.out.hz
    have ht8 : wd.heap[w.heap.size + 1 + 1]? = some (.cells cs 25 (0, 0)) := by rw [Hcs.out]; exact HF9.out.ht
    have hb8 : Below w.heap.size w wd := HF9.out.hb
    have hci : Hid ((Try.prog.info? 25).map (·.size) = some cs.size) := Lib.hid (by rw [Hcs.out]; exact infoTk)
    have hcz : Hid (zn.size = cs.size) := Lib.hid (by rw [Hcs.out, Hzn.out]; rfl)
    have hc1 : Hid (cs.all (·.oneCell') = true) := Lib.hid (by rw [Hcs.out]; exact Tk.cs_one _)
    have x8 : wd.cell? ⟨w.heap.size, 2, none⟩ = some (.int .u8 (b2 : Nat)) := by rw [HF9.out.hx.cell HB.out 2 (by omega), Hb2.out]
    have hX : decide (2 < (b2 : Int)) = X := by rw [HX.out, decide_eq_decide]; omega
    obtain ⟨wq, hq⟩ : ∃ wq : World, ({ wd with drawn := wd.drawn + 1 } : World) = wq := ⟨_, rfl⟩
    have hz9 : wq.heap[w.heap.size + 1]? = some (.cells zn 25 (0, 0)) := by rw [← hq]; exact hz8
    have ht9 : wq.heap[w.heap.size + 1 + 1]? = some (.cells cs 25 (0, 0)) := by rw [← hq]; exact ht8
    have hb9 : Below w.heap.size w wq := by rw [← hq]; exact hb8.drew
    have x9 : wq.cell? ⟨w.heap.size, 2, none⟩ = some (.int .u8 (b2 : Nat)) := by rw [← hq]; exact x8
    refine wp_region_up 5 (fun v => v = wq) (by kernel_rfl) ?_
    rw [hq]
    have hS : wq = wq := rfl
    have HL := Lib.hid (load_task ht9 hci.out)
    have HZ9 := Lib.hid hz9
    clear hq hz8 ht8 hb8 ht9 hz9 x8
    refine up_take (i := 0) (v := .agg cs) rfl (by kernel_rfl) (by kernel_rfl) (fun _ _ _ h => h) (Or.inl ⟨by rfl, ?_⟩) hS ?_
    · intro w' hS'; subst hS'; exact exec_load _ _ _ _ rfl _ _ rfl _ HL.out
    try simp only [List.getElem_toArray, List.getElem_cons_succ, List.getElem_cons_zero, Act.put, List.setIfInBounds_toArray, List.set]
    refine up_take (i := 1) (v := .pointer (some ⟨w.heap.size, 2, none⟩)) rfl (by kernel_rfl) (by kernel_rfl) (fun _ _ _ h => h) (Or.inl ⟨by rfl, ?_⟩) hS ?_
    · intro w' _; go_simp
    try simp only [List.getElem_toArray, List.getElem_cons_succ, List.getElem_cons_zero, Act.put, List.setIfInBounds_toArray, List.set]
    refine up_take (i := 2) (v := .int .u8 (b2 : Nat)) rfl (by kernel_rfl) (by kernel_rfl) (fun _ _ _ h => h) (Or.inl ⟨by rfl, ?_⟩) hS ?_
    · intro w' hS'
      subst hS'
      go_simp
    try simp only [List.getElem_toArray, List.getElem_cons_succ, List.getElem_cons_zero, Act.put, List.setIfInBounds_toArray, List.set]
    refine up_take (i := 3) (v := .bool X) rfl (by kernel_rfl) (by kernel_rfl) (fun _ _ _ h => h) (Or.inl ⟨by rfl, ?_⟩) hS ?_
    · intro w' _; go_simp
    try simp only [List.getElem_toArray, List.getElem_cons_succ, List.getElem_cons_zero, Act.put, List.setIfInBounds_toArray, List.set]
    refine up_one 4 _ rfl (by kernel_rfl) (by decide) (by rfl) (fun K hK => ?_)
    go_simp
    refine (fieldIf_any (w := wq) X).mono ?_
    rintro e w' ⟨rfl, rfl⟩
    refine hK _ _ rfl ?_
    clear hK K
    try simp only [List.getElem_toArray, List.getElem_cons_succ, List.getElem_cons_zero, Act.put, List.setIfInBounds_toArray, List.set]
    refine up_tail ?_
    refine up_last 5 _ rfl (by kernel_rfl) (by decide) (by rfl) (fun K hK => ?_)
    refine wp_store_whole 25 _ _ rfl (w.heap.size + 1) cs rfl rfl zn 25 HZ9.out hci.out hcz.out hc1.out ?_
    intro w5 Hs5 Hg5
    refine hK _ _ ?_
    clear hK K
    try simp only [List.getElem_toArray, List.getElem_cons_succ, List.getElem_cons_zero, Act.put, List.setIfInBounds_toArray, List.set]
    refine up_last 6 _ rfl (by kernel_rfl) (by decide) (by rfl) (fun K hK => ?_)
    go_simp
    refine hK _ _ ?_
    clear hK K
    try simp only [List.getElem_toArray, List.getElem_cons_succ, List.getElem_cons_zero, Act.put, List.setIfInBounds_toArray, List.set]
    refine up_done (by kernel_rfl) ?_ _
    go_wp2
    refine bodyPost_ret (v := .tuple #[.agg cs, .int .i64 (code X : Nat)]) ?_ rfl ⟨_, cs, Hcs, rfl, Lib.hid fun _ => hTT.out.symm, below_of_grown (g := w.heap.size + 1) hb9 Hg5.out (by have := hb9.size; omega) (by omega)⟩
    exact results_cell_row_tmp (ty := 25) rfl _ _ (w.heap.size + 1) 25 _ (0, 0) _ rfl Hs5.out Try.underlying25 rfl hci.out _ rfl
  by_cases h94 : b0 = 94
  · subst h94
    clear h0 h18 h37 h158 h160
    obtain ⟨A, HA⟩ : ∃ A, Hid (be B 7 2 = A) := ⟨_, Lib.hid rfl⟩
    obtain ⟨X, HX⟩ : ∃ X, Hid (X = decide (1 < b1)) := ⟨_, Lib.hid rfl⟩
    obtain rfl : c = code X := by rw [Hc.out, rowC, Hb0.out, HX.out]; simp [Hb1.out]
    have hTT : Hid (T = ({ op := 12, act := b1, all := A } : Tk)) := Lib.hid (by rw [HT.out, rowT, Hb0.out, ← HA.out, ← Hb1.out]; rfl)
    rw [HA.out] at HN
    have hw1 : IntKind.i64.wrap (b1 : Int) = (b1 : Int) := IntWalk.i64_in _ (by omega)
    clear K12 K15 K16 K17 Hz Hb hai Hzs Hzn zn Hav av Hx
    go_enter Try.func11, Try.ntmps11
    go_upto_region 15 with (fail)
    go_cut [6] (fun s6 wd => s6 = .pointer (some ⟨w.heap.size + 1 + 1, 0, none⟩) ∧ Hid (Fg w B #[.int .i64 12, .int .u64 0, .int .u64 0, .bool false, .bool false, .int .i64 (b1 : Nat), .int .i64 0, .int .i64 0, .int .i64 (A : Nat), .int .i64 0, .int .i64 0, .bool false] (w.heap.size + 1 + 1) wd))
    case first =>
      go_region_held3 (fun w' => w'.cell? ⟨w.heap.size, 1, none⟩ = some (.int .u8 (b1 : Nat)) ∧ w'.cell? ⟨w.heap.size, 7, none⟩ = some (.int .u8 (b8 B 7 : Nat)) ∧ w'.cell? ⟨w.heap.size, 8, none⟩ = some (.int .u8 (b8 B 8 : Nat))) (go_keep)
        ((go_at_call 13; refine (HN.out _ ?_ ?_).mono ?_; (simp [*]); (simp [*]); rintro e w' ⟨rfl, rfl⟩))
      all_goals (go_wp2_with fail; go_meet; exact ⟨rfl, Lib.hid (Fg.drew ⟨(Fr.of w B #[.int .i64 12, .int .u64 0, .int .u64 0, .bool false, .bool false, .int .i64 (b1 : Nat), .int .i64 0, .int .i64 0, .int .i64 (A : Nat), .int .i64 0, .int .i64 0, .bool false]).hx, (Fr.of w B #[.int .i64 12, .int .u64 0, .int .u64 0, .bool false, .bool false, .int .i64 (b1 : Nat), .int .i64 0, .int .i64 0, .int .i64 (A : Nat), .int .i64 0, .int .i64 0, .bool false]).hz, (Fr.of w B #[.int .i64 12, .int .u64 0, .int .u64 0, .bool false, .bool false, .int .i64 (b1 : Nat), .int .i64 0, .int .i64 0, .int .i64 (A : Nat), .int .i64 0, .int .i64 0, .bool false]).ht, (Fr.of w B #[.int .i64 12, .int .u64 0, .int .u64 0, .bool false, .bool false, .int .i64 (b1 : Nat), .int .i64 0, .int .i64 0, .int .i64 (A : Nat), .int .i64 0, .int .i64 0, .bool false]).hb, Nat.le_refl _⟩)⟩)
    case rest =>
      obtain ⟨rfl, HF9⟩ := hcut
      clear hc0 hc1 hc7 hc8 HN hw1
      go_upto_region 16 with (fail)
      rename World => wd
      obtain ⟨cs, Hcs⟩ : ∃ cs : Array Value, Hid (cs = ({ op := 12, act := b1, all := A } : Tk).cs) := ⟨_, Lib.hid rfl⟩
      obtain ⟨zn, Hzn⟩ : ∃ zn : Array Value, Hid (zn = #[.int .i64 0, .int .u64 0, .int .u64 0, .bool false, .bool false, .int .i64 0, .int .i64 0, .int .i64 0, .int .i64 0, .int .i64 0, .int .i64 0, .bool false]) := ⟨_, Lib.hid rfl⟩
      have hz8 : wd.heap[w.heap.size + 1]? = some (.cells zn 25 (0, 0)) := by rw [Hzn.out]; exact HF9.out.hz
      have ht8 : wd.heap[w.heap.size + 1 + 1]? = some (.cells cs 25 (0, 0)) := by rw [Hcs.out]; exact HF9.out.ht
      have hb8 : Below w.heap.size w wd := HF9.out.hb
      have hci : Hid ((Try.prog.info? 25).map (·.size) = some cs.size) := Lib.hid (by rw [Hcs.out]; exact infoTk)
      have hcz : Hid (zn.size = cs.size) := Lib.hid (by rw [Hcs.out, Hzn.out]; rfl)
      have hc1 : Hid (cs.all (·.oneCell') = true) := Lib.hid (by rw [Hcs.out]; exact Tk.cs_one _)
      have x8 : wd.cell? ⟨w.heap.size + 1 + 1, 5, none⟩ = some (.int .i64 (b1 : Nat)) := HF9.out.cell 5
      have hX : decide (1 < (b1 : Int)) = X := by rw [HX.out, decide_eq_decide]; omega
      obtain ⟨wq, hq⟩ : ∃ wq : World, ({ wd with drawn := wd.drawn + 1 } : World) = wq := ⟨_, rfl⟩
      have hz9 : wq.heap[w.heap.size + 1]? = some (.cells zn 25 (0, 0)) := by rw [← hq]; exact hz8
      have ht9 : wq.heap[w.heap.size + 1 + 1]? = some (.cells cs 25 (0, 0)) := by rw [← hq]; exact ht8
      have hb9 : Below w.heap.size w wq := by rw [← hq]; exact hb8.drew
      have x9 : wq.cell? ⟨w.heap.size + 1 + 1, 5, none⟩ = some (.int .i64 (b1 : Nat)) := by rw [← hq]; exact x8
      refine wp_region_up 5 (fun v => v = wq) (by kernel_rfl) ?_
      rw [hq]
      have hS : wq = wq := rfl
      have HL := Lib.hid (load_task ht9 hci.out)
      have HZ9 := Lib.hid hz9
      clear hq hz8 ht8 hb8 ht9 hz9 x8
      refine up_take (i := 0) (v := .agg cs) rfl (by kernel_rfl) (by kernel_rfl) (fun _ _ _ h => h) (Or.inl ⟨by rfl, ?_⟩) hS ?_
      · intro w' hS'; subst hS'; exact exec_load _ _ _ _ rfl _ _ rfl _ HL.out
      try simp only [List.getElem_toArray, List.getElem_cons_succ, List.getElem_cons_zero, Act.put, List.setIfInBounds_toArray, List.set]
      refine up_take (i := 1) (v := .pointer (some ⟨(w.heap.size + 1 + 1), 5, none⟩)) rfl (by kernel_rfl) (by kernel_rfl) (fun _ _ _ h => h) (Or.inl ⟨by rfl, ?_⟩) hS ?_
      · intro w' _; go_simp
      try simp only [List.getElem_toArray, List.getElem_cons_succ, List.getElem_cons_zero, Act.put, List.setIfInBounds_toArray, List.set]
      refine up_take (i := 2) (v := .int .i64 (b1 : Nat)) rfl (by kernel_rfl) (by kernel_rfl) (fun _ _ _ h => h) (Or.inl ⟨by rfl, ?_⟩) hS ?_
      · intro w' hS'
        subst hS'
        go_simp
      try simp only [List.getElem_toArray, List.getElem_cons_succ, List.getElem_cons_zero, Act.put, List.setIfInBounds_toArray, List.set]
      refine up_take (i := 3) (v := .bool X) rfl (by kernel_rfl) (by kernel_rfl) (fun _ _ _ h => h) (Or.inl ⟨by rfl, ?_⟩) hS ?_
      · intro w' _; go_simp
      try simp only [List.getElem_toArray, List.getElem_cons_succ, List.getElem_cons_zero, Act.put, List.setIfInBounds_toArray, List.set]
      refine up_one 4 _ rfl (by kernel_rfl) (by decide) (by rfl) (fun K hK => ?_)
      go_simp
      refine (fieldIf_any (w := wq) X).mono ?_
      rintro e w' ⟨rfl, rfl⟩
      refine hK _ _ rfl ?_
      clear hK K
      try simp only [List.getElem_toArray, List.getElem_cons_succ, List.getElem_cons_zero, Act.put, List.setIfInBounds_toArray, List.set]
      refine up_tail ?_
      refine up_last 5 _ rfl (by kernel_rfl) (by decide) (by rfl) (fun K hK => ?_)
      refine wp_store_whole 25 _ _ rfl (w.heap.size + 1) cs rfl rfl zn 25 HZ9.out hci.out hcz.out hc1.out ?_
      intro w5 Hs5 Hg5
      refine hK _ _ ?_
      clear hK K
      try simp only [List.getElem_toArray, List.getElem_cons_succ, List.getElem_cons_zero, Act.put, List.setIfInBounds_toArray, List.set]
      refine up_last 6 _ rfl (by kernel_rfl) (by decide) (by rfl) (fun K hK => ?_)
      go_simp
      refine hK _ _ ?_
      clear hK K
      try simp only [List.getElem_toArray, List.getElem_cons_succ, List.getElem_cons_zero, Act.put, List.setIfInBounds_toArray, List.set]
      refine up_done (by kernel_rfl) ?_ _
      go_wp2
      refine bodyPost_ret (v := .tuple #[.agg cs, .int .i64 (code X : Nat)]) ?_ rfl ⟨_, cs, Hcs, rfl, Lib.hid fun _ => hTT.out.symm, below_of_grown (g := w.heap.size + 1) hb9 Hg5.out (by have := hb9.size; omega) (by omega)⟩
      exact results_cell_row_tmp (ty := 25) rfl _ _ (w.heap.size + 1) 25 _ (0, 0) _ rfl Hs5.out Try.underlying25 rfl hci.out _ rfl
  by_cases h95 : b0 = 95
  · subst h95
    clear h0 h18 h37 h158 h160 h94
    obtain rfl : c = ordC B := by rw [Hc.out, rowC, Hb0.out]; rfl
    have hTT : Hid (T = ordT B) := Lib.hid (by rw [HT.out, rowT, Hb0.out]; rfl)
    clear hc1 hc7 hc8 HN
    have Hx8 : Hid ((two w B).heap[w.heap.size]? = some (.cells av 34 (0, 0))) := Lib.hid (by rw [Hav.out]; exact Hx.out)
    have hl2 : w.heap.size + 1 < (two w B).heap.size := (Array.getElem?_eq_some_iff.1 Hz.out).1
    have Hl2 := Lib.hid hl2
    have Hz8 : Hid ((two w B).heap[w.heap.size + 1]? = some (.cells zn 25 (0, 0))) := Lib.hid (by rw [Hzn.out]; exact Hz.out)
    rw [← Hav.out] at hc0 K15 ⊢
    unfold two at Hx8 Hz8 Hl2
    have Hb2 : Hid (Below w.heap.size w (two w B)) := Hb
    unfold two at Hb2
    rw [← Hav.out] at Hx8 Hz8 Hl2 Hb2
    clear hl2 Hx Hz Hb
    go_enter Try.func11, Try.ntmps11
    go_wp2_with (first
      | (refine wpList_load_row rfl 34 _ rfl w.heap.size rfl 34 av (0, 0) _ Hx8.out Try.underlying34 rfl hai.out ?_)
      | (go_at_call 15; refine (K15.out _).mono ?_; rintro e w1 ⟨u, cs, Hcs, rfl, Hu, hb1⟩; have Hb1w := Lib.hid hb1; have hz1 := (hb1.block _ Hl2.out).trans Hz8.out; have HZ1 := Lib.hid hz1; have hci : Hid ((Try.prog.info? 25).map (·.size) = some cs.size) := Lib.hid (by rw [Hcs.out]; exact infoTk); have hcz : Hid (zn.size = cs.size) := Lib.hid (by rw [Hcs.out, Hzs.out]; rfl); have hc1 : Hid (cs.all (·.oneCell') = true) := Lib.hid (by rw [Hcs.out]; exact Tk.cs_one _); clear hb1 hz1)
      | (refine wpList_store_row rfl 25 _ _ rfl (w.heap.size + 1) cs rfl rfl 25 zn HZ1.out hci.out hcz.out hc1.out ?_))
    refine bodyPost_ret (v := .tuple #[.agg cs, .int .i64 (ordC B : Nat)]) ?_ rfl ⟨u, cs, Hcs, rfl, Lib.hid (by rw [hTT.out]; exact Hu.out), below_setRow (g := w.heap.size + 1) (Hb2.out.trans (Hb1w.out.mono Hb2.out.size)) (by omega) cs⟩
    exact results_cell_row_tmp (ty := 25) rfl _ _ (w.heap.size + 1) 25 _ (0, 0) _ rfl (setRow_heap _ _ _ _ _ _ HZ1.out) Try.underlying25 rfl hci.out _ rfl
  by_cases h66 : b0 = 66
  · subst h66
    clear h0 h18 h37 h158 h160 h94 h95
    obtain rfl : c = unmC B := by rw [Hc.out, rowC, Hb0.out]; rfl
    have hTT : Hid (T = unmT B) := Lib.hid (by rw [HT.out, rowT, Hb0.out]; rfl)
    clear hc1 hc7 hc8 HN
    have Hx8 : Hid ((two w B).heap[w.heap.size]? = some (.cells av 34 (0, 0))) := Lib.hid (by rw [Hav.out]; exact Hx.out)
    have hl2 : w.heap.size + 1 < (two w B).heap.size := (Array.getElem?_eq_some_iff.1 Hz.out).1
    have Hl2 := Lib.hid hl2
    have Hz8 : Hid ((two w B).heap[w.heap.size + 1]? = some (.cells zn 25 (0, 0))) := Lib.hid (by rw [Hzn.out]; exact Hz.out)
    rw [← Hav.out] at hc0 K16 ⊢
    unfold two at Hx8 Hz8 Hl2
    have Hb2 : Hid (Below w.heap.size w (two w B)) := Hb
    unfold two at Hb2
    rw [← Hav.out] at Hx8 Hz8 Hl2 Hb2
    clear hl2 Hx Hz Hb
    go_enter Try.func11, Try.ntmps11
    go_wp2_with (first
      | (refine wpList_load_row rfl 34 _ rfl w.heap.size rfl 34 av (0, 0) _ Hx8.out Try.underlying34 rfl hai.out ?_)
      | (go_at_call 16; refine (K16.out _).mono ?_; rintro e w1 ⟨u, cs, Hcs, rfl, Hu, hb1⟩; have Hb1w := Lib.hid hb1; have hz1 := (hb1.block _ Hl2.out).trans Hz8.out; have HZ1 := Lib.hid hz1; have hci : Hid ((Try.prog.info? 25).map (·.size) = some cs.size) := Lib.hid (by rw [Hcs.out]; exact infoTk); have hcz : Hid (zn.size = cs.size) := Lib.hid (by rw [Hcs.out, Hzs.out]; rfl); have hc1 : Hid (cs.all (·.oneCell') = true) := Lib.hid (by rw [Hcs.out]; exact Tk.cs_one _); clear hb1 hz1)
      | (refine wpList_store_row rfl 25 _ _ rfl (w.heap.size + 1) cs rfl rfl 25 zn HZ1.out hci.out hcz.out hc1.out ?_))
    refine bodyPost_ret (v := .tuple #[.agg cs, .int .i64 (unmC B : Nat)]) ?_ rfl ⟨u, cs, Hcs, rfl, Lib.hid (by rw [hTT.out]; exact Hu.out), below_setRow (g := w.heap.size + 1) (Hb2.out.trans (Hb1w.out.mono Hb2.out.size)) (by omega) cs⟩
    exact results_cell_row_tmp (ty := 25) rfl _ _ (w.heap.size + 1) 25 _ (0, 0) _ rfl (setRow_heap _ _ _ _ _ _ HZ1.out) Try.underlying25 rfl hci.out _ rfl
  have k0 := ne_beq h0
  have k18 := ne_beq h18
  have k37 := ne_beq h37
  have k158 := ne_beq h158
  have k160 := ne_beq h160
  have k94 := ne_beq h94
  have k95 := ne_beq h95
  have k66 := ne_beq h66
  obtain rfl : c = blkC B := by rw [Hc.out, rowC, Hb0.out]; simp [h0, h18, h37, h158, h160, h94, h95, h66]
  have hTT : Hid (T = blkT B) := Lib.hid (by rw [HT.out, rowT, Hb0.out]; simp [h0, h18, h37, h158, h160, h94, h95, h66])
  clear hc1 hc7 hc8 HN h0 h18 h37 h158 h160 h94 h95 h66
  have Hx8 : Hid ((two w B).heap[w.heap.size]? = some (.cells av 34 (0, 0))) := Lib.hid (by rw [Hav.out]; exact Hx.out)
  have hl2 : w.heap.size + 1 < (two w B).heap.size := (Array.getElem?_eq_some_iff.1 Hz.out).1
  have Hl2 := Lib.hid hl2
  have Hz8 : Hid ((two w B).heap[w.heap.size + 1]? = some (.cells zn 25 (0, 0))) := Lib.hid (by rw [Hzn.out]; exact Hz.out)
  rw [← Hav.out] at hc0 K17 ⊢
  unfold two at Hx8 Hz8 Hl2
  have Hb2 : Hid (Below w.heap.size w (two w B)) := Hb
  unfold two at Hb2
  rw [← Hav.out] at Hx8 Hz8 Hl2 Hb2
  clear hl2 Hx Hz Hb
  go_enter Try.func11, Try.ntmps11
  go_wp2_with (first
    | (refine wpList_load_row rfl 34 _ rfl w.heap.size rfl 34 av (0, 0) _ Hx8.out Try.underlying34 rfl hai.out ?_)
    | (go_at_call 17; refine (K17.out _).mono ?_; rintro e w1 ⟨u, cs, Hcs, rfl, Hu, hb1⟩; have Hb1w := Lib.hid hb1; have hz1 := (hb1.block _ Hl2.out).trans Hz8.out; have HZ1 := Lib.hid hz1; have hci : Hid ((Try.prog.info? 25).map (·.size) = some cs.size) := Lib.hid (by rw [Hcs.out]; exact infoTk); have hcz : Hid (zn.size = cs.size) := Lib.hid (by rw [Hcs.out, Hzs.out]; rfl); have hc1 : Hid (cs.all (·.oneCell') = true) := Lib.hid (by rw [Hcs.out]; exact Tk.cs_one _); clear hb1 hz1)
    | (refine wpList_store_row rfl 25 _ _ rfl (w.heap.size + 1) cs rfl rfl 25 zn HZ1.out hci.out hcz.out hc1.out ?_))
  refine bodyPost_ret (v := .tuple #[.agg cs, .int .i64 (blkC B : Nat)]) ?_ rfl ⟨u, cs, Hcs, rfl, Lib.hid (by rw [hTT.out]; exact Hu.out), below_setRow (g := w.heap.size + 1) (Hb2.out.trans (Hb1w.out.mono Hb2.out.size)) (by omega) cs⟩
  exact results_cell_row_tmp (ty := 25) rfl _ _ (w.heap.size + 1) 25 _ (0, 0) _ rfl (setRow_heap _ _ _ _ _ _ HZ1.out) Try.underlying25 rfl hci.out _ rfl
end Go.Proofs.Ytehhhbehclpkbaa
