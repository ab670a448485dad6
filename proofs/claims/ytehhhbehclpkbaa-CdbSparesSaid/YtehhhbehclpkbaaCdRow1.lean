/-
  cdb.unmapOf, inquire.
-/
import Derived.Test.YtehhhbehclpkbaaCdUtil
set_option linter.unusedSimpArgs false
set_option linter.unusedVariables false
namespace Go.Proofs.Ytehhhbehclpkbaa
open Go.RowKit Sh Cd

set_option maxRecDepth 100000 in
set_option maxHeartbeats 1000000 in
theorem unmapOf_any (B : List UInt8) (hB : B.length = 16) (w : World) :
    Calls Try.prog 16 #[.agg (B.map cu8).toArray] w (TkP (unmT B) (unmC B) w) := by
  have K := (two_box w B).length hB 7 2 9 (by omega) (by omega)
  have hv := be_lt B 7 2
  obtain ⟨N, hN⟩ : ∃ N, be B 7 2 = N := ⟨_, rfl⟩
  have e1 : unmT B = { op := 9, len := N } := by rw [unmT, hN]
  have e2 : unmC B = if N != 0 && N != 24 then 6656 else 0 := by rw [unmC, hN]
  rw [hN] at K hv
  rw [e1, e2]
  have HK := Lib.hid K
  clear hB hN e1 e2 K
  unfold two at HK
  have hend : ∀ (o : Obj), Below w.heap.size w ((((w.alloc (.cells (B.map cu8).toArray 34)).alloc o).alloc (.cells (({ op := 9, len := N } : Tk)).cs 25))) := fun o => three_bel _ _ _ _
  unfold Tk.cs at hend
  have hn : N ≠ 0 → ((N : Int) != 0) = true := fun h => by simpa using (by omega : (N : Int) ≠ 0)
  have hn24 : N ≠ 24 → ((N : Int) != 24) = true := fun h => by simpa using (by omega : (N : Int) ≠ 24)
  have hc : N ≠ 0 → ((N : Int) == 0) = false := fun h => by rw [beq_eq_false_iff_ne]; omega
  have hc24 : N ≠ 24 → ((N : Int) == 24) = false := fun h => by rw [beq_eq_false_iff_ne]; omega
  obtain ⟨c, Hc⟩ : ∃ c : Nat, Hid (c = if N != 0 && N != 24 then 6656 else 0) := ⟨_, Lib.hid rfl⟩
  rw [← Hc.out]
  by_cases h0 : N = 0
  · subst h0
    obtain rfl : c = 0 := Hc.out
    clear hc hc24 hn hn24 Hc
    go_enter Try.func16, Try.ntmps16
    go_wp2_with ((go_at_call 13; refine HK.out.mono ?_; rintro e w' ⟨rfl, rfl⟩))
    refine bodyPost_ret (v := .tuple #[(({ op := 9, len := 0 } : Tk)).V, .int .i64 0]) (by simp [results, Try.results16, go_sem, Tk.V]) rfl ⟨rfl, hend _⟩
  by_cases h1 : N = 24
  · subst h1
    obtain rfl : c = 0 := Hc.out
    clear hc hc24 hn hn24 Hc h0
    go_enter Try.func16, Try.ntmps16
    go_wp2_with ((go_at_call 13; refine HK.out.mono ?_; rintro e w' ⟨rfl, rfl⟩))
    refine bodyPost_ret (v := .tuple #[(({ op := 9, len := 24 } : Tk)).V, .int .i64 0]) (by simp [results, Try.results16, go_sem, Tk.V]) rfl ⟨rfl, hend _⟩
  · obtain rfl : c = 6656 := by have := Hc.out; simpa [h0, h1] using this
    have k0 := hc h0
    have k1 := hc24 h1
    have k2 := hn h0
    have k3 := hn24 h1
    clear hc hc24 hn hn24 Hc h0 h1
    go_enter Try.func16, Try.ntmps16
    go_wp2_with ((go_at_call 13; refine HK.out.mono ?_; rintro e w' ⟨rfl, rfl⟩))
    refine bodyPost_ret (v := .tuple #[(({ op := 9, len := N } : Tk)).V, .int .i64 6656]) (by simp [results, Try.results16, go_sem, Tk.V]) rfl ⟨rfl, hend _⟩
set_option maxRecDepth 100000 in
set_option maxHeartbeats 2000000 in
theorem inquire_any (B : List UInt8) (hB : B.length = 16) (w : World) :
    Calls Try.prog 12 #[.agg (B.map cu8).toArray] w (TkP (inqT B) (inqC B) w) := by
  have HK : Hid (∀ W : World, W.cell? ⟨w.heap.size, 3, none⟩ = some (.int .u8 (b8 B 3 : Nat)) → W.cell? ⟨w.heap.size, 4, none⟩ = some (.int .u8 (b8 B 4 : Nat)) → Calls Try.prog 13 #[.slice (some ⟨w.heap.size, 3, none⟩) 2 13] W fun e w' => e = .returned (.int .i64 (be B 3 2 : Nat)) ∧ W = w') := Lib.hid fun W h3 h4 => length_any (by simp; omega) (by omega) (fun j hj => by
    rcases (by omega : j = 0 ∨ j = 1) with rfl | rfl
    · simpa [at8, b8, bz] using h3
    · simpa [at8, b8, bz] using h4
    )
  have hb := two_box w B
  have c1 := hb.cell hB 1 (by omega)
  have c2 := hb.cell hB 2 (by omega)
  have c3 := hb.cell hB 3 (by omega)
  have c4 := hb.cell hB 4 (by omega)
  unfold two at c1 c2 c3 c4
  have l1 := b8_lt B 1
  have l2 := b8_lt B 2
  have e1 : inqT B = { op := 2, vit := b8 B 1 % 2 == 1, pag := b8 B 2, all := be B 3 2 } := rfl
  have e2 : inqC B = code (b8 B 1 / 2 != 0 || (b8 B 1 % 2 == 0 && b8 B 2 != 0)) := rfl
  rw [e1, e2]
  clear e1 e2 hb
  obtain ⟨b1, h1⟩ : ∃ x, b8 B 1 = x := ⟨_, rfl⟩
  obtain ⟨b2, h2⟩ : ∃ x, b8 B 2 = x := ⟨_, rfl⟩
  rw [h1] at c1 l1 ⊢
  rw [h2] at c2 l2 ⊢
  have HB := Lib.hid hB
  have Hb1 := Lib.hid h1
  clear h1 h2 hB
  have hw2 : IntKind.i64.wrap (b2 : Int) = (b2 : Int) := IntWalk.i64_in _ (by omega)
  obtain ⟨V, Hv⟩ : ∃ V, Hid (V = (b1 % 2 == 1)) := ⟨_, Lib.hid rfl⟩
  have hv : (bits .and .u8 (b1 : Int) 1 != 0) = V := by rw [Hv.out]; exact bit0 l1
  obtain ⟨O, HO⟩ : ∃ O, Hid (O = (b1 / 2 != 0)) := ⟨_, Lib.hid rfl⟩
  have ho : (bits .andNot .u8 (b1 : Int) 1 != 0) = O := by rw [HO.out]; exact oth0 l1
  obtain ⟨G, HG⟩ : ∃ G, Hid (G = (b2 != 0)) := ⟨_, Lib.hid rfl⟩
  have hg : ((b2 : Int) != 0) = G := by rw [HG.out, Bool.eq_iff_iff]; simp
  obtain ⟨A, HA⟩ : ∃ A, Hid (A = be B 3 2) := ⟨_, Lib.hid rfl⟩
  have hnv : (b1 % 2 == 0) = !V := by rw [Hv.out, Bool.eq_iff_iff]; simp
  rw [← Hv.out, ← HA.out, ← HO.out, hnv, ← HG.out]
  rw [← HA.out] at HK
  clear hnv
  have Ho := Lib.hid ho
  have Hg := Lib.hid hg
  clear ho hg
  go_enter Try.func12, Try.ntmps12
  go_upto_region 1 with (fail)
  go_region_held3 (fun w' => w'.cell? ⟨w.heap.size, 1, none⟩ = some (.int .u8 (b1 : Nat)) ∧ w'.cell? ⟨w.heap.size, 2, none⟩ = some (.int .u8 (b2 : Nat)) ∧ w'.cell? ⟨w.heap.size, 3, none⟩ = some (.int .u8 (b8 B 3 : Nat)) ∧ w'.cell? ⟨w.heap.size, 4, none⟩ = some (.int .u8 (b8 B 4 : Nat))) (go_keep)
    ((go_at_call 13; refine (HK.out _ ?_ ?_).mono ?_; (simp [*]); (simp [*]); rintro e w' ⟨rfl, rfl⟩))
  all_goals go_wp2
  all_goals
    have F := three_at w (.cells (B.map cu8).toArray 34) (.cells #[.int .i64 0, .int .u64 0, .int .u64 0, .bool false, .bool false, .int .i64 0, .int .i64 0, .int .i64 0, .int .i64 0, .int .i64 0, .int .i64 0, .bool false] 25) (.cells #[.int .i64 2, .int .u64 0, .int .u64 0, .bool false, .bool false, .int .i64 0, .int .i64 0, .int .i64 0, .int .i64 (A : Nat), .int .i64 0, .int .i64 (b2 : Nat), .bool V] 25)
    have Fb := three_bel w (.cells (B.map cu8).toArray 34) (.cells #[.int .i64 0, .int .u64 0, .int .u64 0, .bool false, .bool false, .int .i64 0, .int .i64 0, .int .i64 0, .int .i64 0, .int .i64 0, .int .i64 0, .bool false] 25) (.cells #[.int .i64 2, .int .u64 0, .int .u64 0, .bool false, .bool false, .int .i64 0, .int .i64 0, .int .i64 0, .int .i64 (A : Nat), .int .i64 0, .int .i64 (b2 : Nat), .bool V] 25)
    generalize hwd : (((w.alloc (.cells (B.map cu8).toArray 34)).alloc (.cells #[.int .i64 0, .int .u64 0, .int .u64 0, .bool false, .bool false, .int .i64 0, .int .i64 0, .int .i64 0, .int .i64 0, .int .i64 0, .int .i64 0, .bool false] 25)).alloc (.cells #[.int .i64 2, .int .u64 0, .int .u64 0, .bool false, .bool false, .int .i64 0, .int .i64 0, .int .i64 0, .int .i64 (A : Nat), .int .i64 0, .int .i64 (b2 : Nat), .bool V] 25)).drew = wd
    have hx8 : BoxB B w.heap.size wd := by rw [← hwd]; exact F.1
    have hb8 : Below w.heap.size w wd := by rw [← hwd]; exact Fb.drew
    have hz7 : wd.heap[w.heap.size + 1]? = some (.cells #[.int .i64 0, .int .u64 0, .int .u64 0, .bool false, .bool false, .int .i64 0, .int .i64 0, .int .i64 0, .int .i64 0, .int .i64 0, .int .i64 0, .bool false] 25 (0, 0)) := by rw [← hwd]; exact F.2.1
    have ht7 : wd.heap[w.heap.size + 1 + 1]? = some (.cells #[.int .i64 2, .int .u64 0, .int .u64 0, .bool false, .bool false, .int .i64 0, .int .i64 0, .int .i64 0, .int .i64 (A : Nat), .int .i64 0, .int .i64 (b2 : Nat), .bool V] 25 (0, 0)) := by rw [← hwd]; exact F.2.2
    obtain ⟨cs, Hcs⟩ : ∃ cs : Array Value, Hid (cs = ({ op := 2, all := A, pag := b2, vit := V } : Tk).cs) := ⟨_, Lib.hid rfl⟩
    obtain ⟨zn, Hzn⟩ : ∃ zn : Array Value, Hid (zn = #[.int .i64 0, .int .u64 0, .int .u64 0, .bool false, .bool false, .int .i64 0, .int .i64 0, .int .i64 0, .int .i64 0, .int .i64 0, .int .i64 0, .bool false]) := ⟨_, Lib.hid rfl⟩
    have x8 : wd.cell? ⟨w.heap.size, 1, none⟩ = some (.int .u8 (b1 : Nat)) := by rw [hx8.cell HB.out 1 (by omega), Hb1.out]
    have v8 : wd.cell? ⟨w.heap.size + 1 + 1, 11, none⟩ = some (.bool V) := cell_of_row wd _ 11 _ _ _ ht7
    have p8 : wd.cell? ⟨w.heap.size + 1 + 1, 10, none⟩ = some (.int .i64 (b2 : Nat)) := cell_of_row wd _ 10 _ _ _ ht7
    have hz8 : wd.heap[w.heap.size + 1]? = some (.cells zn 25 (0, 0)) := by rw [Hzn.out]; exact hz7
    have ht8 : wd.heap[w.heap.size + 1 + 1]? = some (.cells cs 25 (0, 0)) := by rw [Hcs.out]; exact ht7
    have hci : Hid ((Try.prog.info? 25).map (·.size) = some cs.size) := Lib.hid (by rw [Hcs.out]; exact infoTk)
    have hcz : Hid (zn.size = cs.size) := Lib.hid (by rw [Hcs.out, Hzn.out]; rfl)
    have hc1 : Hid (cs.all (·.oneCell') = true) := Lib.hid (by rw [Hcs.out]; exact Tk.cs_one _)
    clear F Fb hwd hx8 hz7 ht7
    have ho := Ho.out
    have hg := Hg.out
    cases O
    · cases V
      · obtain ⟨wq, hq⟩ : ∃ wq : World, ({ wd with drawn := wd.drawn + 1 } : World) = wq := ⟨_, rfl⟩
        have hz9 : wq.heap[w.heap.size + 1]? = some (.cells zn 25 (0, 0)) := by rw [← hq]; exact hz8
        have ht9 : wq.heap[w.heap.size + 1 + 1]? = some (.cells cs 25 (0, 0)) := by rw [← hq]; exact ht8
        have hb9 : Below w.heap.size w wq := by rw [← hq]; exact hb8.drew
        have x9 : wq.cell? ⟨w.heap.size, 1, none⟩ = some (.int .u8 (b1 : Nat)) := by rw [← hq]; exact x8
        have v9 : wq.cell? ⟨w.heap.size + 1 + 1, 11, none⟩ = some (.bool false) := by rw [← hq]; exact v8
        have p9 : wq.cell? ⟨w.heap.size + 1 + 1, 10, none⟩ = some (.int .i64 (b2 : Nat)) := by rw [← hq]; exact p8
        refine wp_region_up 16 (fun v => v = wq) (by kernel_rfl) ?_
        rw [hq]
        have hS : wq = wq := rfl
        have HL := Lib.hid (load_task ht9 hci.out)
        have HZ9 := Lib.hid hz9
        clear hq hz8 ht8 hb8 ht9 hz9 x8 v8 p8
        refine up_take (i := 0) (v := .agg cs) rfl (by kernel_rfl) (by kernel_rfl) (fun _ _ _ h => h) (Or.inl ⟨by rfl, ?_⟩) hS ?_
        · intro w' hS'; subst hS'; exact exec_load _ _ _ _ rfl _ _ rfl _ HL.out
        try simp only [List.getElem_toArray, List.getElem_cons_succ, List.getElem_cons_zero, Act.put, List.setIfInBounds_toArray, List.set]
        refine up_take (i := 1) (v := .pointer (some ⟨w.heap.size, 1, none⟩)) rfl (by kernel_rfl) (by kernel_rfl) (fun _ _ _ h => h) (Or.inl ⟨by rfl, ?_⟩) hS ?_
        · intro w' _; go_simp
        try simp only [List.getElem_toArray, List.getElem_cons_succ, List.getElem_cons_zero, Act.put, List.setIfInBounds_toArray, List.set]
        refine up_take (i := 2) (v := .int .u8 (b1 : Nat)) rfl (by kernel_rfl) (by kernel_rfl) (fun _ _ _ h => h) (Or.inl ⟨by rfl, ?_⟩) hS ?_
        · intro w' hS'
          subst hS'
          go_simp
        try simp only [List.getElem_toArray, List.getElem_cons_succ, List.getElem_cons_zero, Act.put, List.setIfInBounds_toArray, List.set]
        refine up_take (i := 3) (v := .int .u8 (bits .andNot .u8 (b1 : Nat) 1)) rfl (by kernel_rfl) (by kernel_rfl) (fun _ _ _ h => h) (Or.inl ⟨by rfl, ?_⟩) hS ?_
        · intro w' _; go_simp
        try simp only [List.getElem_toArray, List.getElem_cons_succ, List.getElem_cons_zero, Act.put, List.setIfInBounds_toArray, List.set]
        refine up_take (i := 4) (v := .bool false) rfl (by kernel_rfl) (by kernel_rfl) (fun _ _ _ h => h) (Or.inl ⟨by rfl, ?_⟩) hS ?_
        · intro w' _; go_simp
        try simp only [List.getElem_toArray, List.getElem_cons_succ, List.getElem_cons_zero, Act.put, List.setIfInBounds_toArray, List.set]
        refine up_take (i := 5) (v := .bool false) rfl (by kernel_rfl) (by kernel_rfl) (fun _ _ _ h => h) (Or.inl ⟨by rfl, ?_⟩) hS ?_
        · intro w' _; go_simp
        try simp only [List.getElem_toArray, List.getElem_cons_succ, List.getElem_cons_zero, Act.put, List.setIfInBounds_toArray, List.set]
        refine up_take (i := 6) (v := .pointer (some ⟨(w.heap.size + 1 + 1), 11, none⟩)) rfl (by kernel_rfl) (by kernel_rfl) (fun _ _ _ h => h) (Or.inl ⟨by rfl, ?_⟩) hS ?_
        · intro w' _; go_simp
        try simp only [List.getElem_toArray, List.getElem_cons_succ, List.getElem_cons_zero, Act.put, List.setIfInBounds_toArray, List.set]
        refine up_take (i := 7) (v := .bool false) rfl (by kernel_rfl) (by kernel_rfl) (fun _ _ _ h => h) (Or.inl ⟨by rfl, ?_⟩) hS ?_
        · intro w' hS'
          subst hS'
          go_simp
        try simp only [List.getElem_toArray, List.getElem_cons_succ, List.getElem_cons_zero, Act.put, List.setIfInBounds_toArray, List.set]
        refine up_take (i := 8) (v := .bool true) rfl (by kernel_rfl) (by kernel_rfl) (fun _ _ _ h => h) (Or.inl ⟨by rfl, ?_⟩) hS ?_
        · intro w' _; go_simp
        try simp only [List.getElem_toArray, List.getElem_cons_succ, List.getElem_cons_zero, Act.put, List.setIfInBounds_toArray, List.set]
        refine up_take (i := 9) (v := .bool true) rfl (by kernel_rfl) (by kernel_rfl) (fun _ _ _ h => h) (Or.inl ⟨by rfl, ?_⟩) hS ?_
        · intro w' _; go_simp
        try simp only [List.getElem_toArray, List.getElem_cons_succ, List.getElem_cons_zero, Act.put, List.setIfInBounds_toArray, List.set]
        refine up_take (i := 10) (v := .pointer (some ⟨(w.heap.size + 1 + 1), 10, none⟩)) rfl (by kernel_rfl) (by kernel_rfl) (fun _ _ _ h => h) (Or.inl ⟨by rfl, ?_⟩) hS ?_
        · intro w' _; go_simp
        try simp only [List.getElem_toArray, List.getElem_cons_succ, List.getElem_cons_zero, Act.put, List.setIfInBounds_toArray, List.set]
        refine up_take (i := 11) (v := .int .i64 (b2 : Nat)) rfl (by kernel_rfl) (by kernel_rfl) (fun _ _ _ h => h) (Or.inl ⟨by rfl, ?_⟩) hS ?_
        · intro w' hS'
          subst hS'
          go_simp
        try simp only [List.getElem_toArray, List.getElem_cons_succ, List.getElem_cons_zero, Act.put, List.setIfInBounds_toArray, List.set]
        refine up_take (i := 12) (v := .bool G) rfl (by kernel_rfl) (by kernel_rfl) (fun _ _ _ h => h) (Or.inl ⟨by rfl, ?_⟩) hS ?_
        · intro w' _; go_simp
        try simp only [List.getElem_toArray, List.getElem_cons_succ, List.getElem_cons_zero, Act.put, List.setIfInBounds_toArray, List.set]
        refine up_take (i := 13) (v := .bool G) rfl (by kernel_rfl) (by kernel_rfl) (fun _ _ _ h => h) (Or.inl ⟨by rfl, ?_⟩) hS ?_
        · intro w' _; go_simp
        try simp only [List.getElem_toArray, List.getElem_cons_succ, List.getElem_cons_zero, Act.put, List.setIfInBounds_toArray, List.set]
        refine up_take (i := 14) (v := .bool G) rfl (by kernel_rfl) (by kernel_rfl) (fun _ _ _ h => h) (Or.inl ⟨by rfl, ?_⟩) hS ?_
        · intro w' _; go_simp
        try simp only [List.getElem_toArray, List.getElem_cons_succ, List.getElem_cons_zero, Act.put, List.setIfInBounds_toArray, List.set]
        refine up_one 15 _ rfl (by kernel_rfl) (by decide) (by rfl) (fun K hK => ?_)
        go_simp
        refine (fieldIf_any (w := wq) G).mono ?_
        rintro e w' ⟨rfl, rfl⟩
        refine hK _ _ rfl ?_
        clear hK K
        try simp only [List.getElem_toArray, List.getElem_cons_succ, List.getElem_cons_zero, Act.put, List.setIfInBounds_toArray, List.set]
        refine up_tail ?_
        refine up_last 16 _ rfl (by kernel_rfl) (by decide) (by rfl) (fun K hK => ?_)
        refine wp_store_whole 25 _ _ rfl (w.heap.size + 1) cs rfl rfl zn 25 HZ9.out hci.out hcz.out hc1.out ?_
        intro w5 Hs5 Hg5
        refine hK _ _ ?_
        clear hK K
        try simp only [List.getElem_toArray, List.getElem_cons_succ, List.getElem_cons_zero, Act.put, List.setIfInBounds_toArray, List.set]
        refine up_last 17 _ rfl (by kernel_rfl) (by decide) (by rfl) (fun K hK => ?_)
        go_simp
        refine hK _ _ ?_
        clear hK K
        try simp only [List.getElem_toArray, List.getElem_cons_succ, List.getElem_cons_zero, Act.put, List.setIfInBounds_toArray, List.set]
        refine up_done (by kernel_rfl) ?_ _
        go_wp2
        refine bodyPost_ret (v := .tuple #[.agg cs, .int .i64 (code G : Nat)]) ?_ rfl ⟨by rw [Hcs.out]; rfl, below_of_grown (g := w.heap.size + 1) hb9 Hg5.out (by have := hb9.size; omega) (by omega)⟩
        exact results_cell_row_tmp (ty := 25) rfl _ _ (w.heap.size + 1) 25 _ (0, 0) _ rfl Hs5.out Try.underlying25 rfl hci.out _ rfl
      · obtain ⟨wq, hq⟩ : ∃ wq : World, ({ wd with drawn := wd.drawn + 1 } : World) = wq := ⟨_, rfl⟩
        have hz9 : wq.heap[w.heap.size + 1]? = some (.cells zn 25 (0, 0)) := by rw [← hq]; exact hz8
        have ht9 : wq.heap[w.heap.size + 1 + 1]? = some (.cells cs 25 (0, 0)) := by rw [← hq]; exact ht8
        have hb9 : Below w.heap.size w wq := by rw [← hq]; exact hb8.drew
        have x9 : wq.cell? ⟨w.heap.size, 1, none⟩ = some (.int .u8 (b1 : Nat)) := by rw [← hq]; exact x8
        have v9 : wq.cell? ⟨w.heap.size + 1 + 1, 11, none⟩ = some (.bool true) := by rw [← hq]; exact v8
        have p9 : wq.cell? ⟨w.heap.size + 1 + 1, 10, none⟩ = some (.int .i64 (b2 : Nat)) := by rw [← hq]; exact p8
        refine wp_region_up 16 (fun v => v = wq) (by kernel_rfl) ?_
        rw [hq]
        have hS : wq = wq := rfl
        have HL := Lib.hid (load_task ht9 hci.out)
        have HZ9 := Lib.hid hz9
        clear hq hz8 ht8 hb8 ht9 hz9 x8 v8 p8
        refine up_take (i := 0) (v := .agg cs) rfl (by kernel_rfl) (by kernel_rfl) (fun _ _ _ h => h) (Or.inl ⟨by rfl, ?_⟩) hS ?_
        · intro w' hS'; subst hS'; exact exec_load _ _ _ _ rfl _ _ rfl _ HL.out
        try simp only [List.getElem_toArray, List.getElem_cons_succ, List.getElem_cons_zero, Act.put, List.setIfInBounds_toArray, List.set]
        refine up_take (i := 1) (v := .pointer (some ⟨w.heap.size, 1, none⟩)) rfl (by kernel_rfl) (by kernel_rfl) (fun _ _ _ h => h) (Or.inl ⟨by rfl, ?_⟩) hS ?_
        · intro w' _; go_simp
        try simp only [List.getElem_toArray, List.getElem_cons_succ, List.getElem_cons_zero, Act.put, List.setIfInBounds_toArray, List.set]
        refine up_take (i := 2) (v := .int .u8 (b1 : Nat)) rfl (by kernel_rfl) (by kernel_rfl) (fun _ _ _ h => h) (Or.inl ⟨by rfl, ?_⟩) hS ?_
        · intro w' hS'
          subst hS'
          go_simp
        try simp only [List.getElem_toArray, List.getElem_cons_succ, List.getElem_cons_zero, Act.put, List.setIfInBounds_toArray, List.set]
        refine up_take (i := 3) (v := .int .u8 (bits .andNot .u8 (b1 : Nat) 1)) rfl (by kernel_rfl) (by kernel_rfl) (fun _ _ _ h => h) (Or.inl ⟨by rfl, ?_⟩) hS ?_
        · intro w' _; go_simp
        try simp only [List.getElem_toArray, List.getElem_cons_succ, List.getElem_cons_zero, Act.put, List.setIfInBounds_toArray, List.set]
        refine up_take (i := 4) (v := .bool false) rfl (by kernel_rfl) (by kernel_rfl) (fun _ _ _ h => h) (Or.inl ⟨by rfl, ?_⟩) hS ?_
        · intro w' _; go_simp
        try simp only [List.getElem_toArray, List.getElem_cons_succ, List.getElem_cons_zero, Act.put, List.setIfInBounds_toArray, List.set]
        refine up_take (i := 5) (v := .bool false) rfl (by kernel_rfl) (by kernel_rfl) (fun _ _ _ h => h) (Or.inl ⟨by rfl, ?_⟩) hS ?_
        · intro w' _; go_simp
        try simp only [List.getElem_toArray, List.getElem_cons_succ, List.getElem_cons_zero, Act.put, List.setIfInBounds_toArray, List.set]
        refine up_take (i := 6) (v := .pointer (some ⟨(w.heap.size + 1 + 1), 11, none⟩)) rfl (by kernel_rfl) (by kernel_rfl) (fun _ _ _ h => h) (Or.inl ⟨by rfl, ?_⟩) hS ?_
        · intro w' _; go_simp
        try simp only [List.getElem_toArray, List.getElem_cons_succ, List.getElem_cons_zero, Act.put, List.setIfInBounds_toArray, List.set]
        refine up_take (i := 7) (v := .bool true) rfl (by kernel_rfl) (by kernel_rfl) (fun _ _ _ h => h) (Or.inl ⟨by rfl, ?_⟩) hS ?_
        · intro w' hS'
          subst hS'
          go_simp
        try simp only [List.getElem_toArray, List.getElem_cons_succ, List.getElem_cons_zero, Act.put, List.setIfInBounds_toArray, List.set]
        refine up_take (i := 8) (v := .bool false) rfl (by kernel_rfl) (by kernel_rfl) (fun _ _ _ h => h) (Or.inl ⟨by rfl, ?_⟩) hS ?_
        · intro w' _; go_simp
        try simp only [List.getElem_toArray, List.getElem_cons_succ, List.getElem_cons_zero, Act.put, List.setIfInBounds_toArray, List.set]
        refine up_take (i := 9) (v := .bool false) rfl (by kernel_rfl) (by kernel_rfl) (fun _ _ _ h => h) (Or.inl ⟨by rfl, ?_⟩) hS ?_
        · intro w' _; go_simp
        try simp only [List.getElem_toArray, List.getElem_cons_succ, List.getElem_cons_zero, Act.put, List.setIfInBounds_toArray, List.set]
        refine up_take (i := 10) (v := undef) rfl (by kernel_rfl) (by kernel_rfl) (fun _ _ _ h => h) (Or.inr ⟨by rfl, rfl⟩) hS ?_
        try simp only [List.getElem_toArray, List.getElem_cons_succ, List.getElem_cons_zero, Act.put, List.setIfInBounds_toArray, List.set]
        refine up_take (i := 11) (v := undef) rfl (by kernel_rfl) (by kernel_rfl) (fun _ _ _ h => h) (Or.inr ⟨by rfl, rfl⟩) hS ?_
        try simp only [List.getElem_toArray, List.getElem_cons_succ, List.getElem_cons_zero, Act.put, List.setIfInBounds_toArray, List.set]
        refine up_take (i := 12) (v := undef) rfl (by kernel_rfl) (by kernel_rfl) (fun _ _ _ h => h) (Or.inr ⟨by rfl, rfl⟩) hS ?_
        try simp only [List.getElem_toArray, List.getElem_cons_succ, List.getElem_cons_zero, Act.put, List.setIfInBounds_toArray, List.set]
        refine up_take (i := 13) (v := .bool false) rfl (by kernel_rfl) (by kernel_rfl) (fun _ _ _ h => h) (Or.inl ⟨by rfl, ?_⟩) hS ?_
        · intro w' _; go_simp
        try simp only [List.getElem_toArray, List.getElem_cons_succ, List.getElem_cons_zero, Act.put, List.setIfInBounds_toArray, List.set]
        refine up_take (i := 14) (v := .bool false) rfl (by kernel_rfl) (by kernel_rfl) (fun _ _ _ h => h) (Or.inl ⟨by rfl, ?_⟩) hS ?_
        · intro w' _; go_simp
        try simp only [List.getElem_toArray, List.getElem_cons_succ, List.getElem_cons_zero, Act.put, List.setIfInBounds_toArray, List.set]
        refine up_one 15 _ rfl (by kernel_rfl) (by decide) (by rfl) (fun K hK => ?_)
        go_simp
        refine (fieldIf_any (w := wq) false).mono ?_
        rintro e w' ⟨rfl, rfl⟩
        refine hK _ _ rfl ?_
        clear hK K
        try simp only [List.getElem_toArray, List.getElem_cons_succ, List.getElem_cons_zero, Act.put, List.setIfInBounds_toArray, List.set]
        refine up_tail ?_
        refine up_last 16 _ rfl (by kernel_rfl) (by decide) (by rfl) (fun K hK => ?_)
        refine wp_store_whole 25 _ _ rfl (w.heap.size + 1) cs rfl rfl zn 25 HZ9.out hci.out hcz.out hc1.out ?_
        intro w5 Hs5 Hg5
        refine hK _ _ ?_
        clear hK K
        try simp only [List.getElem_toArray, List.getElem_cons_succ, List.getElem_cons_zero, Act.put, List.setIfInBounds_toArray, List.set]
        refine up_last 17 _ rfl (by kernel_rfl) (by decide) (by rfl) (fun K hK => ?_)
        go_simp
        refine hK _ _ ?_
        clear hK K
        try simp only [List.getElem_toArray, List.getElem_cons_succ, List.getElem_cons_zero, Act.put, List.setIfInBounds_toArray, List.set]
        refine up_done (by kernel_rfl) ?_ _
        go_wp2
        refine bodyPost_ret (v := .tuple #[.agg cs, .int .i64 (code false : Nat)]) ?_ rfl ⟨by rw [Hcs.out]; rfl, below_of_grown (g := w.heap.size + 1) hb9 Hg5.out (by have := hb9.size; omega) (by omega)⟩
        exact results_cell_row_tmp (ty := 25) rfl _ _ (w.heap.size + 1) 25 _ (0, 0) _ rfl Hs5.out Try.underlying25 rfl hci.out _ rfl
    · obtain ⟨wq, hq⟩ : ∃ wq : World, ({ wd with drawn := wd.drawn + 1 } : World) = wq := ⟨_, rfl⟩
      have hz9 : wq.heap[w.heap.size + 1]? = some (.cells zn 25 (0, 0)) := by rw [← hq]; exact hz8
      have ht9 : wq.heap[w.heap.size + 1 + 1]? = some (.cells cs 25 (0, 0)) := by rw [← hq]; exact ht8
      have hb9 : Below w.heap.size w wq := by rw [← hq]; exact hb8.drew
      have x9 : wq.cell? ⟨w.heap.size, 1, none⟩ = some (.int .u8 (b1 : Nat)) := by rw [← hq]; exact x8
      have v9 : wq.cell? ⟨w.heap.size + 1 + 1, 11, none⟩ = some (.bool V) := by rw [← hq]; exact v8
      have p9 : wq.cell? ⟨w.heap.size + 1 + 1, 10, none⟩ = some (.int .i64 (b2 : Nat)) := by rw [← hq]; exact p8
      refine wp_region_up 16 (fun v => v = wq) (by kernel_rfl) ?_
      rw [hq]
      have hS : wq = wq := rfl
      have HL := Lib.hid (load_task ht9 hci.out)
      have HZ9 := Lib.hid hz9
      clear hq hz8 ht8 hb8 ht9 hz9 x8 v8 p8
      refine up_take (i := 0) (v := .agg cs) rfl (by kernel_rfl) (by kernel_rfl) (fun _ _ _ h => h) (Or.inl ⟨by rfl, ?_⟩) hS ?_
      · intro w' hS'; subst hS'; exact exec_load _ _ _ _ rfl _ _ rfl _ HL.out
      try simp only [List.getElem_toArray, List.getElem_cons_succ, List.getElem_cons_zero, Act.put, List.setIfInBounds_toArray, List.set]
      refine up_take (i := 1) (v := .pointer (some ⟨w.heap.size, 1, none⟩)) rfl (by kernel_rfl) (by kernel_rfl) (fun _ _ _ h => h) (Or.inl ⟨by rfl, ?_⟩) hS ?_
      · intro w' _; go_simp
      try simp only [List.getElem_toArray, List.getElem_cons_succ, List.getElem_cons_zero, Act.put, List.setIfInBounds_toArray, List.set]
      refine up_take (i := 2) (v := .int .u8 (b1 : Nat)) rfl (by kernel_rfl) (by kernel_rfl) (fun _ _ _ h => h) (Or.inl ⟨by rfl, ?_⟩) hS ?_
      · intro w' hS'
        subst hS'
        go_simp
      try simp only [List.getElem_toArray, List.getElem_cons_succ, List.getElem_cons_zero, Act.put, List.setIfInBounds_toArray, List.set]
      refine up_take (i := 3) (v := .int .u8 (bits .andNot .u8 (b1 : Nat) 1)) rfl (by kernel_rfl) (by kernel_rfl) (fun _ _ _ h => h) (Or.inl ⟨by rfl, ?_⟩) hS ?_
      · intro w' _; go_simp
      try simp only [List.getElem_toArray, List.getElem_cons_succ, List.getElem_cons_zero, Act.put, List.setIfInBounds_toArray, List.set]
      refine up_take (i := 4) (v := .bool true) rfl (by kernel_rfl) (by kernel_rfl) (fun _ _ _ h => h) (Or.inl ⟨by rfl, ?_⟩) hS ?_
      · intro w' _; go_simp
      try simp only [List.getElem_toArray, List.getElem_cons_succ, List.getElem_cons_zero, Act.put, List.setIfInBounds_toArray, List.set]
      refine up_take (i := 5) (v := .bool true) rfl (by kernel_rfl) (by kernel_rfl) (fun _ _ _ h => h) (Or.inl ⟨by rfl, ?_⟩) hS ?_
      · intro w' _; go_simp
      try simp only [List.getElem_toArray, List.getElem_cons_succ, List.getElem_cons_zero, Act.put, List.setIfInBounds_toArray, List.set]
      refine up_take (i := 6) (v := undef) rfl (by kernel_rfl) (by kernel_rfl) (fun _ _ _ h => h) (Or.inr ⟨by rfl, rfl⟩) hS ?_
      try simp only [List.getElem_toArray, List.getElem_cons_succ, List.getElem_cons_zero, Act.put, List.setIfInBounds_toArray, List.set]
      refine up_take (i := 7) (v := undef) rfl (by kernel_rfl) (by kernel_rfl) (fun _ _ _ h => h) (Or.inr ⟨by rfl, rfl⟩) hS ?_
      try simp only [List.getElem_toArray, List.getElem_cons_succ, List.getElem_cons_zero, Act.put, List.setIfInBounds_toArray, List.set]
      refine up_take (i := 8) (v := undef) rfl (by kernel_rfl) (by kernel_rfl) (fun _ _ _ h => h) (Or.inr ⟨by rfl, rfl⟩) hS ?_
      try simp only [List.getElem_toArray, List.getElem_cons_succ, List.getElem_cons_zero, Act.put, List.setIfInBounds_toArray, List.set]
      refine up_take (i := 9) (v := undef) rfl (by kernel_rfl) (by kernel_rfl) (fun _ _ _ h => h) (Or.inr ⟨by rfl, rfl⟩) hS ?_
      try simp only [List.getElem_toArray, List.getElem_cons_succ, List.getElem_cons_zero, Act.put, List.setIfInBounds_toArray, List.set]
      refine up_take (i := 10) (v := undef) rfl (by kernel_rfl) (by kernel_rfl) (fun _ _ _ h => h) (Or.inr ⟨by rfl, rfl⟩) hS ?_
      try simp only [List.getElem_toArray, List.getElem_cons_succ, List.getElem_cons_zero, Act.put, List.setIfInBounds_toArray, List.set]
      refine up_take (i := 11) (v := undef) rfl (by kernel_rfl) (by kernel_rfl) (fun _ _ _ h => h) (Or.inr ⟨by rfl, rfl⟩) hS ?_
      try simp only [List.getElem_toArray, List.getElem_cons_succ, List.getElem_cons_zero, Act.put, List.setIfInBounds_toArray, List.set]
      refine up_take (i := 12) (v := undef) rfl (by kernel_rfl) (by kernel_rfl) (fun _ _ _ h => h) (Or.inr ⟨by rfl, rfl⟩) hS ?_
      try simp only [List.getElem_toArray, List.getElem_cons_succ, List.getElem_cons_zero, Act.put, List.setIfInBounds_toArray, List.set]
      refine up_take (i := 13) (v := undef) rfl (by kernel_rfl) (by kernel_rfl) (fun _ _ _ h => h) (Or.inr ⟨by rfl, rfl⟩) hS ?_
      try simp only [List.getElem_toArray, List.getElem_cons_succ, List.getElem_cons_zero, Act.put, List.setIfInBounds_toArray, List.set]
      refine up_take (i := 14) (v := .bool true) rfl (by kernel_rfl) (by kernel_rfl) (fun _ _ _ h => h) (Or.inl ⟨by rfl, ?_⟩) hS ?_
      · intro w' _; go_simp
      try simp only [List.getElem_toArray, List.getElem_cons_succ, List.getElem_cons_zero, Act.put, List.setIfInBounds_toArray, List.set]
      refine up_one 15 _ rfl (by kernel_rfl) (by decide) (by rfl) (fun K hK => ?_)
      go_simp
      refine (fieldIf_any (w := wq) true).mono ?_
      rintro e w' ⟨rfl, rfl⟩
      refine hK _ _ rfl ?_
      clear hK K
      try simp only [List.getElem_toArray, List.getElem_cons_succ, List.getElem_cons_zero, Act.put, List.setIfInBounds_toArray, List.set]
      refine up_tail ?_
      refine up_last 16 _ rfl (by kernel_rfl) (by decide) (by rfl) (fun K hK => ?_)
      refine wp_store_whole 25 _ _ rfl (w.heap.size + 1) cs rfl rfl zn 25 HZ9.out hci.out hcz.out hc1.out ?_
      intro w5 Hs5 Hg5
      refine hK _ _ ?_
      clear hK K
      try simp only [List.getElem_toArray, List.getElem_cons_succ, List.getElem_cons_zero, Act.put, List.setIfInBounds_toArray, List.set]
      refine up_last 17 _ rfl (by kernel_rfl) (by decide) (by rfl) (fun K hK => ?_)
      go_simp
      refine hK _ _ ?_
      clear hK K
      try simp only [List.getElem_toArray, List.getElem_cons_succ, List.getElem_cons_zero, Act.put, List.setIfInBounds_toArray, List.set]
      refine up_done (by kernel_rfl) ?_ _
      go_wp2
      refine bodyPost_ret (v := .tuple #[.agg cs, .int .i64 (code true : Nat)]) ?_ rfl ⟨by rw [Hcs.out]; rfl, below_of_grown (g := w.heap.size + 1) hb9 Hg5.out (by have := hb9.size; omega) (by omega)⟩
      exact results_cell_row_tmp (ty := 25) rfl _ _ (w.heap.size + 1) 25 _ (0, 0) _ rfl Hs5.out Try.underlying25 rfl hci.out _ rfl
end Go.Proofs.Ytehhhbehclpkbaa
