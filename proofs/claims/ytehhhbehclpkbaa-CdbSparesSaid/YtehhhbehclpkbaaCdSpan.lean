/-
  cdb.span.
-/
import Derived.Test.YtehhhbehclpkbaaCdUtil
set_option linter.unusedSimpArgs false
set_option linter.unusedVariables false
namespace Go.Proofs.Ytehhhbehclpkbaa
open Go.RowKit Sh Cd

def SpP (t : Tk) (b : Bool) (w : World) (e : Ending) (w' : World) : Prop := e = .returned (.tuple #[t.V, .bool b]) ∧ Below w.heap.size w w'
theorem ne_beq {o n : Nat} (h : o ≠ n) : ((o : Int) == (n : Int)) = false := by rw [cast_beq]; simpa using h
set_option maxRecDepth 100000 in
set_option maxHeartbeats 4000000 in
theorem span_any (B : List UInt8) (hB : B.length = 16) (w : World) :
    Calls Try.prog 19 #[.agg (B.map cu8).toArray] w (SpP (spanT B) (doing (b8 B 0) != 0) w) := by
  have HKa : Hid (∀ W : World, W.cell? ⟨w.heap.size, 2, none⟩ = some (.int .u8 (b8 B 2 : Nat)) → W.cell? ⟨w.heap.size, 3, none⟩ = some (.int .u8 (b8 B 3 : Nat)) → W.cell? ⟨w.heap.size, 4, none⟩ = some (.int .u8 (b8 B 4 : Nat)) → W.cell? ⟨w.heap.size, 5, none⟩ = some (.int .u8 (b8 B 5 : Nat)) → W.cell? ⟨w.heap.size, 6, none⟩ = some (.int .u8 (b8 B 6 : Nat)) → W.cell? ⟨w.heap.size, 7, none⟩ = some (.int .u8 (b8 B 7 : Nat)) → W.cell? ⟨w.heap.size, 8, none⟩ = some (.int .u8 (b8 B 8 : Nat)) → W.cell? ⟨w.heap.size, 9, none⟩ = some (.int .u8 (b8 B 9 : Nat)) → Calls Try.prog 18 #[.slice (some ⟨w.heap.size, 2, none⟩) 8 14] W fun e w' => e = .returned (.int .u64 (be B 2 8 : Nat)) ∧ W = w') := Lib.hid fun W h2 h3 h4 h5 h6 h7 h8 h9 => number_any (by simp; omega) (by omega) (fun j hj => by
    rcases (by omega : j = 0 ∨ j = 1 ∨ j = 2 ∨ j = 3 ∨ j = 4 ∨ j = 5 ∨ j = 6 ∨ j = 7) with rfl | rfl | rfl | rfl | rfl | rfl | rfl | rfl
    · simpa [at8, b8, bz] using h2
    · simpa [at8, b8, bz] using h3
    · simpa [at8, b8, bz] using h4
    · simpa [at8, b8, bz] using h5
    · simpa [at8, b8, bz] using h6
    · simpa [at8, b8, bz] using h7
    · simpa [at8, b8, bz] using h8
    · simpa [at8, b8, bz] using h9
    )
  have HKb : Hid (∀ W : World, W.cell? ⟨w.heap.size, 10, none⟩ = some (.int .u8 (b8 B 10 : Nat)) → W.cell? ⟨w.heap.size, 11, none⟩ = some (.int .u8 (b8 B 11 : Nat)) → W.cell? ⟨w.heap.size, 12, none⟩ = some (.int .u8 (b8 B 12 : Nat)) → W.cell? ⟨w.heap.size, 13, none⟩ = some (.int .u8 (b8 B 13 : Nat)) → Calls Try.prog 18 #[.slice (some ⟨w.heap.size, 10, none⟩) 4 6] W fun e w' => e = .returned (.int .u64 (be B 10 4 : Nat)) ∧ W = w') := Lib.hid fun W h10 h11 h12 h13 => number_any (by simp; omega) (by omega) (fun j hj => by
    rcases (by omega : j = 0 ∨ j = 1 ∨ j = 2 ∨ j = 3) with rfl | rfl | rfl | rfl
    · simpa [at8, b8, bz] using h10
    · simpa [at8, b8, bz] using h11
    · simpa [at8, b8, bz] using h12
    · simpa [at8, b8, bz] using h13
    )
  have HB := Lib.hid hB
  have hb := two_box w B
  have c2 := hb.cell hB 2 (by omega)
  have c3 := hb.cell hB 3 (by omega)
  have c4 := hb.cell hB 4 (by omega)
  have c5 := hb.cell hB 5 (by omega)
  have c6 := hb.cell hB 6 (by omega)
  have c7 := hb.cell hB 7 (by omega)
  have c8 := hb.cell hB 8 (by omega)
  have c9 := hb.cell hB 9 (by omega)
  have c10 := hb.cell hB 10 (by omega)
  have c11 := hb.cell hB 11 (by omega)
  have c12 := hb.cell hB 12 (by omega)
  have c13 := hb.cell hB 13 (by omega)
  unfold two at c2 c3 c4 c5 c6 c7 c8 c9 c10 c11 c12 c13
  clear hb
  obtain ⟨A8, hA8⟩ : ∃ x, be B 2 8 = x := ⟨_, rfl⟩
  obtain ⟨N4, hN4⟩ : ∃ x, be B 10 4 = x := ⟨_, rfl⟩
  rw [hA8] at HKa
  rw [hN4] at HKb
  have HA8 := Lib.hid hA8; have HN4 := Lib.hid hN4
  clear hA8 hN4 hB
  obtain ⟨T, HT⟩ : ∃ T, Hid (T = spanT B) := ⟨_, Lib.hid rfl⟩
  obtain ⟨ok, Hok⟩ : ∃ ok, Hid (ok = (doing (b8 B 0) != 0)) := ⟨_, Lib.hid rfl⟩
  rw [← HT.out, ← Hok.out]
  go_enter Try.func19, Try.ntmps19
  go_upto_region 1 with (fail)
  go_cut [4] (fun s4 wd => s4 = .pointer (some ⟨w.heap.size + 1 + 1, 0, none⟩) ∧ Hid (Fr w B #[.int .i64 0, .int .u64 (A8 : Nat), .int .u64 (N4 : Nat), .bool false, .bool false, .int .i64 0, .int .i64 0, .int .i64 0, .int .i64 0, .int .i64 0, .int .i64 0, .bool false] wd))
  case first =>
    go_region_held3 (fun w' => w'.cell? ⟨w.heap.size, 2, none⟩ = some (.int .u8 (b8 B 2 : Nat)) ∧ w'.cell? ⟨w.heap.size, 3, none⟩ = some (.int .u8 (b8 B 3 : Nat)) ∧ w'.cell? ⟨w.heap.size, 4, none⟩ = some (.int .u8 (b8 B 4 : Nat)) ∧ w'.cell? ⟨w.heap.size, 5, none⟩ = some (.int .u8 (b8 B 5 : Nat)) ∧ w'.cell? ⟨w.heap.size, 6, none⟩ = some (.int .u8 (b8 B 6 : Nat)) ∧ w'.cell? ⟨w.heap.size, 7, none⟩ = some (.int .u8 (b8 B 7 : Nat)) ∧ w'.cell? ⟨w.heap.size, 8, none⟩ = some (.int .u8 (b8 B 8 : Nat)) ∧ w'.cell? ⟨w.heap.size, 9, none⟩ = some (.int .u8 (b8 B 9 : Nat)) ∧ w'.cell? ⟨w.heap.size, 10, none⟩ = some (.int .u8 (b8 B 10 : Nat)) ∧ w'.cell? ⟨w.heap.size, 11, none⟩ = some (.int .u8 (b8 B 11 : Nat)) ∧ w'.cell? ⟨w.heap.size, 12, none⟩ = some (.int .u8 (b8 B 12 : Nat)) ∧ w'.cell? ⟨w.heap.size, 13, none⟩ = some (.int .u8 (b8 B 13 : Nat))) (go_keep)
      (first
        | (go_at_call_of 18 (Value.slice (some ⟨w.heap.size, 2, none⟩) 8 14); refine (HKa.out _ ?_ ?_ ?_ ?_ ?_ ?_ ?_ ?_).mono ?_; (simp [*]); (simp [*]); (simp [*]); (simp [*]); (simp [*]); (simp [*]); (simp [*]); (simp [*]); rintro e w' ⟨rfl, rfl⟩)
        | (go_at_call_of 18 (Value.slice (some ⟨w.heap.size, 10, none⟩) 4 6); refine (HKb.out _ ?_ ?_ ?_ ?_).mono ?_; (simp [*]); (simp [*]); (simp [*]); (simp [*]); rintro e w' ⟨rfl, rfl⟩))
    all_goals (go_wp2_with fail; go_meet; exact ⟨rfl, Lib.hid (Fr.of w B _).drew⟩)
  case rest =>
    obtain ⟨rfl, HF⟩ := hcut
    clear c2 c3 c4 c5 c6 c7 c8 c9 c10 c11 c12 c13 HKa HKb
    obtain ⟨b0, hb0⟩ : ∃ x, b8 B 0 = x := ⟨_, rfl⟩
    obtain ⟨LB, hLB⟩ : ∃ x, lbaN B = x := ⟨_, rfl⟩
    obtain ⟨BK, hBK⟩ : ∃ x, blkN B = x := ⟨_, rfl⟩
    obtain ⟨D, hD⟩ : ∃ x, doing b0 = x := ⟨_, rfl⟩
    have HLB := Lib.hid hLB; have HBK := Lib.hid hBK; have Hb0 := Lib.hid hb0; have HD := Lib.hid hD
    clear hLB hBK hb0 hD
    rename_i hKr
    refine hKr _ _ ?_
    clear hKr
    go_step
    go_cut [4] (fun s4 wd => s4 = .pointer (some ⟨w.heap.size + 1 + 1, 0, none⟩) ∧ Hid (Fr w B #[.int .i64 0, .int .u64 (LB : Nat), .int .u64 (BK : Nat), .bool false, .bool false, .int .i64 0, .int .i64 0, .int .i64 0, .int .i64 0, .int .i64 0, .int .i64 0, .bool false] wd))
    case first =>
      have cx0 : wc.cell? ⟨w.heap.size, 0, none⟩ = some (.int .u8 (b0 : Nat)) := by rw [HF.out.hx.cell HB.out 0 (by omega), Hb0.out]
      have hsh : shortB b0 = (b0 == 40 || b0 == 42 || b0 == 65 || b0 == 53) := rfl
      by_cases h40 : b0 = 40
      · subst h40
        clear hsh
        have hl4 : be B 2 4 = LB := by rw [← HLB.out, lbaN, Hb0.out]; rfl
        have hn2 : be B 7 2 = BK := by rw [← HBK.out, blkN, Hb0.out]; rfl
        go_upto_region 7 with (fail)
        obtain ⟨wq, hq⟩ : ∃ wq : World, ({ wc with drawn := wc.drawn + 1 } : World) = wq := ⟨_, rfl⟩
        have HQ : Hid (Fr w B #[.int .i64 0, .int .u64 (A8 : Nat), .int .u64 (N4 : Nat), .bool false, .bool false, .int .i64 0, .int .i64 0, .int .i64 0, .int .i64 0, .int .i64 0, .int .i64 0, .bool false] wq) := Lib.hid (by rw [← hq]; exact HF.out.drawn)
        refine wp_region_up 5 (fun v => v = wq) (by kernel_rfl) ?_
        rw [hq]
        have hS : wq = wq := rfl
        have HN1 := Lib.hid (hl4 ▸ HQ.out.hx.number HB.out 2 4 14 (by omega) (by omega))
        have HN2 := Lib.hid (hn2 ▸ HQ.out.hx.number HB.out 7 2 9 (by omega) (by omega))
        have d1 : wq.cell? ⟨w.heap.size + 1 + 1, 1, none⟩ = some (.int .u64 (A8 : Nat)) := HQ.out.cell 1
        have f1 := HQ.out.soft 1
        have d2 : (wq.setCell ⟨w.heap.size + 1 + 1, 1, none⟩ (.int .u64 (LB : Nat))).cell? ⟨w.heap.size + 1 + 1, 2, none⟩ = some (.int .u64 (N4 : Nat)) := (HQ.out.set 1 (.int .u64 (LB : Nat))).cell 2
        have f2 := (HQ.out.set 1 (.int .u64 (LB : Nat))).soft 2
        clear hq cx0 hl4 hn2
        refine up_take (i := 0) (v := .slice (some ⟨w.heap.size, 2, none⟩) 4 14) rfl (by kernel_rfl) (by kernel_rfl) (fun _ _ _ h => h) (Or.inl ⟨by rfl, ?_⟩) hS ?_
        · intro w' _; go_simp
        try simp only [List.getElem_toArray, List.getElem_cons_succ, List.getElem_cons_zero, Act.put, List.setIfInBounds_toArray, List.set]
        refine up_take (i := 2) (v := .slice (some ⟨w.heap.size, 7, none⟩) 2 9) rfl (by kernel_rfl) (by kernel_rfl) (fun _ _ _ h => h) (Or.inl ⟨by rfl, ?_⟩) hS ?_
        · intro w' _; go_simp
        try simp only [List.getElem_toArray, List.getElem_cons_succ, List.getElem_cons_zero, Act.put, List.setIfInBounds_toArray, List.set]
        refine up_one 1 _ rfl (by kernel_rfl) (by decide) (by rfl) (fun K hK => ?_)
        go_simp
        refine HN1.out.mono ?_
        rintro e w' ⟨rfl, rfl⟩
        refine hK _ _ rfl ?_
        clear hK K
        try simp only [List.getElem_toArray, List.getElem_cons_succ, List.getElem_cons_zero, Act.put, List.setIfInBounds_toArray, List.set]
        refine up_take (i := 4) (v := .pointer (some ⟨(w.heap.size + 1 + 1), 1, none⟩)) rfl (by kernel_rfl) (by kernel_rfl) (fun _ _ _ h => h) (Or.inl ⟨by rfl, ?_⟩) hS ?_
        · intro w' _; go_simp
        try simp only [List.getElem_toArray, List.getElem_cons_succ, List.getElem_cons_zero, Act.put, List.setIfInBounds_toArray, List.set]
        refine up_one 3 _ rfl (by kernel_rfl) (by decide) (by rfl) (fun K hK => ?_)
        go_simp
        refine HN2.out.mono ?_
        rintro e w' ⟨rfl, rfl⟩
        refine hK _ _ rfl ?_
        clear hK K
        try simp only [List.getElem_toArray, List.getElem_cons_succ, List.getElem_cons_zero, Act.put, List.setIfInBounds_toArray, List.set]
        refine up_tail ?_
        refine up_last 5 _ rfl (by kernel_rfl) (by decide) (by rfl) (fun K hK => ?_)
        go_simp
        refine hK _ _ ?_
        clear hK K
        try simp only [List.getElem_toArray, List.getElem_cons_succ, List.getElem_cons_zero, Act.put, List.setIfInBounds_toArray, List.set]
        refine up_last 6 _ rfl (by kernel_rfl) (by decide) (by rfl) (fun K hK => ?_)
        go_simp
        refine hK _ _ ?_
        clear hK K
        try simp only [List.getElem_toArray, List.getElem_cons_succ, List.getElem_cons_zero, Act.put, List.setIfInBounds_toArray, List.set]
        refine up_last 7 _ rfl (by kernel_rfl) (by decide) (by rfl) (fun K hK => ?_)
        go_simp
        refine hK _ _ ?_
        clear hK K
        try simp only [List.getElem_toArray, List.getElem_cons_succ, List.getElem_cons_zero, Act.put, List.setIfInBounds_toArray, List.set]
        refine up_done (by kernel_rfl) ?_ _
        go_wp2
        go_meet
        exact ⟨rfl, Lib.hid ((HQ.out.set 1 (.int .u64 (LB : Nat))).set 2 (.int .u64 (BK : Nat)))⟩
      by_cases h42 : b0 = 42
      · subst h42
        clear hsh h40
        have hl4 : be B 2 4 = LB := by rw [← HLB.out, lbaN, Hb0.out]; rfl
        have hn2 : be B 7 2 = BK := by rw [← HBK.out, blkN, Hb0.out]; rfl
        go_upto_region 7 with (fail)
        obtain ⟨wq, hq⟩ : ∃ wq : World, ({ wc with drawn := wc.drawn + 1 } : World) = wq := ⟨_, rfl⟩
        have HQ : Hid (Fr w B #[.int .i64 0, .int .u64 (A8 : Nat), .int .u64 (N4 : Nat), .bool false, .bool false, .int .i64 0, .int .i64 0, .int .i64 0, .int .i64 0, .int .i64 0, .int .i64 0, .bool false] wq) := Lib.hid (by rw [← hq]; exact HF.out.drawn)
        refine wp_region_up 5 (fun v => v = wq) (by kernel_rfl) ?_
        rw [hq]
        have hS : wq = wq := rfl
        have HN1 := Lib.hid (hl4 ▸ HQ.out.hx.number HB.out 2 4 14 (by omega) (by omega))
        have HN2 := Lib.hid (hn2 ▸ HQ.out.hx.number HB.out 7 2 9 (by omega) (by omega))
        have d1 : wq.cell? ⟨w.heap.size + 1 + 1, 1, none⟩ = some (.int .u64 (A8 : Nat)) := HQ.out.cell 1
        have f1 := HQ.out.soft 1
        have d2 : (wq.setCell ⟨w.heap.size + 1 + 1, 1, none⟩ (.int .u64 (LB : Nat))).cell? ⟨w.heap.size + 1 + 1, 2, none⟩ = some (.int .u64 (N4 : Nat)) := (HQ.out.set 1 (.int .u64 (LB : Nat))).cell 2
        have f2 := (HQ.out.set 1 (.int .u64 (LB : Nat))).soft 2
        clear hq cx0 hl4 hn2
        refine up_take (i := 0) (v := .slice (some ⟨w.heap.size, 2, none⟩) 4 14) rfl (by kernel_rfl) (by kernel_rfl) (fun _ _ _ h => h) (Or.inl ⟨by rfl, ?_⟩) hS ?_
        · intro w' _; go_simp
        try simp only [List.getElem_toArray, List.getElem_cons_succ, List.getElem_cons_zero, Act.put, List.setIfInBounds_toArray, List.set]
        refine up_take (i := 2) (v := .slice (some ⟨w.heap.size, 7, none⟩) 2 9) rfl (by kernel_rfl) (by kernel_rfl) (fun _ _ _ h => h) (Or.inl ⟨by rfl, ?_⟩) hS ?_
        · intro w' _; go_simp
        try simp only [List.getElem_toArray, List.getElem_cons_succ, List.getElem_cons_zero, Act.put, List.setIfInBounds_toArray, List.set]
        refine up_one 1 _ rfl (by kernel_rfl) (by decide) (by rfl) (fun K hK => ?_)
        go_simp
        refine HN1.out.mono ?_
        rintro e w' ⟨rfl, rfl⟩
        refine hK _ _ rfl ?_
        clear hK K
        try simp only [List.getElem_toArray, List.getElem_cons_succ, List.getElem_cons_zero, Act.put, List.setIfInBounds_toArray, List.set]
        refine up_take (i := 4) (v := .pointer (some ⟨(w.heap.size + 1 + 1), 1, none⟩)) rfl (by kernel_rfl) (by kernel_rfl) (fun _ _ _ h => h) (Or.inl ⟨by rfl, ?_⟩) hS ?_
        · intro w' _; go_simp
        try simp only [List.getElem_toArray, List.getElem_cons_succ, List.getElem_cons_zero, Act.put, List.setIfInBounds_toArray, List.set]
        refine up_one 3 _ rfl (by kernel_rfl) (by decide) (by rfl) (fun K hK => ?_)
        go_simp
        refine HN2.out.mono ?_
        rintro e w' ⟨rfl, rfl⟩
        refine hK _ _ rfl ?_
        clear hK K
        try simp only [List.getElem_toArray, List.getElem_cons_succ, List.getElem_cons_zero, Act.put, List.setIfInBounds_toArray, List.set]
        refine up_tail ?_
        refine up_last 5 _ rfl (by kernel_rfl) (by decide) (by rfl) (fun K hK => ?_)
        go_simp
        refine hK _ _ ?_
        clear hK K
        try simp only [List.getElem_toArray, List.getElem_cons_succ, List.getElem_cons_zero, Act.put, List.setIfInBounds_toArray, List.set]
        refine up_last 6 _ rfl (by kernel_rfl) (by decide) (by rfl) (fun K hK => ?_)
        go_simp
        refine hK _ _ ?_
        clear hK K
        try simp only [List.getElem_toArray, List.getElem_cons_succ, List.getElem_cons_zero, Act.put, List.setIfInBounds_toArray, List.set]
        refine up_last 7 _ rfl (by kernel_rfl) (by decide) (by rfl) (fun K hK => ?_)
        go_simp
        refine hK _ _ ?_
        clear hK K
        try simp only [List.getElem_toArray, List.getElem_cons_succ, List.getElem_cons_zero, Act.put, List.setIfInBounds_toArray, List.set]
        refine up_done (by kernel_rfl) ?_ _
        go_wp2
        go_meet
        exact ⟨rfl, Lib.hid ((HQ.out.set 1 (.int .u64 (LB : Nat))).set 2 (.int .u64 (BK : Nat)))⟩
      by_cases h65 : b0 = 65
      · subst h65
        clear hsh h40 h42
        have hl4 : be B 2 4 = LB := by rw [← HLB.out, lbaN, Hb0.out]; rfl
        have hn2 : be B 7 2 = BK := by rw [← HBK.out, blkN, Hb0.out]; rfl
        go_upto_region 7 with (fail)
        obtain ⟨wq, hq⟩ : ∃ wq : World, ({ wc with drawn := wc.drawn + 1 } : World) = wq := ⟨_, rfl⟩
        have HQ : Hid (Fr w B #[.int .i64 0, .int .u64 (A8 : Nat), .int .u64 (N4 : Nat), .bool false, .bool false, .int .i64 0, .int .i64 0, .int .i64 0, .int .i64 0, .int .i64 0, .int .i64 0, .bool false] wq) := Lib.hid (by rw [← hq]; exact HF.out.drawn)
        refine wp_region_up 5 (fun v => v = wq) (by kernel_rfl) ?_
        rw [hq]
        have hS : wq = wq := rfl
        have HN1 := Lib.hid (hl4 ▸ HQ.out.hx.number HB.out 2 4 14 (by omega) (by omega))
        have HN2 := Lib.hid (hn2 ▸ HQ.out.hx.number HB.out 7 2 9 (by omega) (by omega))
        have d1 : wq.cell? ⟨w.heap.size + 1 + 1, 1, none⟩ = some (.int .u64 (A8 : Nat)) := HQ.out.cell 1
        have f1 := HQ.out.soft 1
        have d2 : (wq.setCell ⟨w.heap.size + 1 + 1, 1, none⟩ (.int .u64 (LB : Nat))).cell? ⟨w.heap.size + 1 + 1, 2, none⟩ = some (.int .u64 (N4 : Nat)) := (HQ.out.set 1 (.int .u64 (LB : Nat))).cell 2
        have f2 := (HQ.out.set 1 (.int .u64 (LB : Nat))).soft 2
        clear hq cx0 hl4 hn2
        refine up_take (i := 0) (v := .slice (some ⟨w.heap.size, 2, none⟩) 4 14) rfl (by kernel_rfl) (by kernel_rfl) (fun _ _ _ h => h) (Or.inl ⟨by rfl, ?_⟩) hS ?_
        · intro w' _; go_simp
        try simp only [List.getElem_toArray, List.getElem_cons_succ, List.getElem_cons_zero, Act.put, List.setIfInBounds_toArray, List.set]
        refine up_take (i := 2) (v := .slice (some ⟨w.heap.size, 7, none⟩) 2 9) rfl (by kernel_rfl) (by kernel_rfl) (fun _ _ _ h => h) (Or.inl ⟨by rfl, ?_⟩) hS ?_
        · intro w' _; go_simp
        try simp only [List.getElem_toArray, List.getElem_cons_succ, List.getElem_cons_zero, Act.put, List.setIfInBounds_toArray, List.set]
        refine up_one 1 _ rfl (by kernel_rfl) (by decide) (by rfl) (fun K hK => ?_)
        go_simp
        refine HN1.out.mono ?_
        rintro e w' ⟨rfl, rfl⟩
        refine hK _ _ rfl ?_
        clear hK K
        try simp only [List.getElem_toArray, List.getElem_cons_succ, List.getElem_cons_zero, Act.put, List.setIfInBounds_toArray, List.set]
        refine up_take (i := 4) (v := .pointer (some ⟨(w.heap.size + 1 + 1), 1, none⟩)) rfl (by kernel_rfl) (by kernel_rfl) (fun _ _ _ h => h) (Or.inl ⟨by rfl, ?_⟩) hS ?_
        · intro w' _; go_simp
        try simp only [List.getElem_toArray, List.getElem_cons_succ, List.getElem_cons_zero, Act.put, List.setIfInBounds_toArray, List.set]
        refine up_one 3 _ rfl (by kernel_rfl) (by decide) (by rfl) (fun K hK => ?_)
        go_simp
        refine HN2.out.mono ?_
        rintro e w' ⟨rfl, rfl⟩
        refine hK _ _ rfl ?_
        clear hK K
        try simp only [List.getElem_toArray, List.getElem_cons_succ, List.getElem_cons_zero, Act.put, List.setIfInBounds_toArray, List.set]
        refine up_tail ?_
        refine up_last 5 _ rfl (by kernel_rfl) (by decide) (by rfl) (fun K hK => ?_)
        go_simp
        refine hK _ _ ?_
        clear hK K
        try simp only [List.getElem_toArray, List.getElem_cons_succ, List.getElem_cons_zero, Act.put, List.setIfInBounds_toArray, List.set]
        refine up_last 6 _ rfl (by kernel_rfl) (by decide) (by rfl) (fun K hK => ?_)
        go_simp
        refine hK _ _ ?_
        clear hK K
        try simp only [List.getElem_toArray, List.getElem_cons_succ, List.getElem_cons_zero, Act.put, List.setIfInBounds_toArray, List.set]
        refine up_last 7 _ rfl (by kernel_rfl) (by decide) (by rfl) (fun K hK => ?_)
        go_simp
        refine hK _ _ ?_
        clear hK K
        try simp only [List.getElem_toArray, List.getElem_cons_succ, List.getElem_cons_zero, Act.put, List.setIfInBounds_toArray, List.set]
        refine up_done (by kernel_rfl) ?_ _
        go_wp2
        go_meet
        exact ⟨rfl, Lib.hid ((HQ.out.set 1 (.int .u64 (LB : Nat))).set 2 (.int .u64 (BK : Nat)))⟩
      by_cases h53 : b0 = 53
      · subst h53
        clear hsh h40 h42 h65
        have hl4 : be B 2 4 = LB := by rw [← HLB.out, lbaN, Hb0.out]; rfl
        have hn2 : be B 7 2 = BK := by rw [← HBK.out, blkN, Hb0.out]; rfl
        go_upto_region 7 with (fail)
        obtain ⟨wq, hq⟩ : ∃ wq : World, ({ wc with drawn := wc.drawn + 1 } : World) = wq := ⟨_, rfl⟩
        have HQ : Hid (Fr w B #[.int .i64 0, .int .u64 (A8 : Nat), .int .u64 (N4 : Nat), .bool false, .bool false, .int .i64 0, .int .i64 0, .int .i64 0, .int .i64 0, .int .i64 0, .int .i64 0, .bool false] wq) := Lib.hid (by rw [← hq]; exact HF.out.drawn)
        refine wp_region_up 5 (fun v => v = wq) (by kernel_rfl) ?_
        rw [hq]
        have hS : wq = wq := rfl
        have HN1 := Lib.hid (hl4 ▸ HQ.out.hx.number HB.out 2 4 14 (by omega) (by omega))
        have HN2 := Lib.hid (hn2 ▸ HQ.out.hx.number HB.out 7 2 9 (by omega) (by omega))
        have d1 : wq.cell? ⟨w.heap.size + 1 + 1, 1, none⟩ = some (.int .u64 (A8 : Nat)) := HQ.out.cell 1
        have f1 := HQ.out.soft 1
        have d2 : (wq.setCell ⟨w.heap.size + 1 + 1, 1, none⟩ (.int .u64 (LB : Nat))).cell? ⟨w.heap.size + 1 + 1, 2, none⟩ = some (.int .u64 (N4 : Nat)) := (HQ.out.set 1 (.int .u64 (LB : Nat))).cell 2
        have f2 := (HQ.out.set 1 (.int .u64 (LB : Nat))).soft 2
        clear hq cx0 hl4 hn2
        refine up_take (i := 0) (v := .slice (some ⟨w.heap.size, 2, none⟩) 4 14) rfl (by kernel_rfl) (by kernel_rfl) (fun _ _ _ h => h) (Or.inl ⟨by rfl, ?_⟩) hS ?_
        · intro w' _; go_simp
        try simp only [List.getElem_toArray, List.getElem_cons_succ, List.getElem_cons_zero, Act.put, List.setIfInBounds_toArray, List.set]
        refine up_take (i := 2) (v := .slice (some ⟨w.heap.size, 7, none⟩) 2 9) rfl (by kernel_rfl) (by kernel_rfl) (fun _ _ _ h => h) (Or.inl ⟨by rfl, ?_⟩) hS ?_
        · intro w' _; go_simp
        try simp only [List.getElem_toArray, List.getElem_cons_succ, List.getElem_cons_zero, Act.put, List.setIfInBounds_toArray, List.set]
        refine up_one 1 _ rfl (by kernel_rfl) (by decide) (by rfl) (fun K hK => ?_)
        go_simp
        refine HN1.out.mono ?_
        rintro e w' ⟨rfl, rfl⟩
        refine hK _ _ rfl ?_
        clear hK K
        try simp only [List.getElem_toArray, List.getElem_cons_succ, List.getElem_cons_zero, Act.put, List.setIfInBounds_toArray, List.set]
        refine up_take (i := 4) (v := .pointer (some ⟨(w.heap.size + 1 + 1), 1, none⟩)) rfl (by kernel_rfl) (by kernel_rfl) (fun _ _ _ h => h) (Or.inl ⟨by rfl, ?_⟩) hS ?_
        · intro w' _; go_simp
        try simp only [List.getElem_toArray, List.getElem_cons_succ, List.getElem_cons_zero, Act.put, List.setIfInBounds_toArray, List.set]
        refine up_one 3 _ rfl (by kernel_rfl) (by decide) (by rfl) (fun K hK => ?_)
        go_simp
        refine HN2.out.mono ?_
        rintro e w' ⟨rfl, rfl⟩
        refine hK _ _ rfl ?_
        clear hK K
        try simp only [List.getElem_toArray, List.getElem_cons_succ, List.getElem_cons_zero, Act.put, List.setIfInBounds_toArray, List.set]
        refine up_tail ?_
        refine up_last 5 _ rfl (by kernel_rfl) (by decide) (by rfl) (fun K hK => ?_)
        go_simp
        refine hK _ _ ?_
        clear hK K
        try simp only [List.getElem_toArray, List.getElem_cons_succ, List.getElem_cons_zero, Act.put, List.setIfInBounds_toArray, List.set]
        refine up_last 6 _ rfl (by kernel_rfl) (by decide) (by rfl) (fun K hK => ?_)
        go_simp
        refine hK _ _ ?_
        clear hK K
        try simp only [List.getElem_toArray, List.getElem_cons_succ, List.getElem_cons_zero, Act.put, List.setIfInBounds_toArray, List.set]
        refine up_last 7 _ rfl (by kernel_rfl) (by decide) (by rfl) (fun K hK => ?_)
        go_simp
        refine hK _ _ ?_
        clear hK K
        try simp only [List.getElem_toArray, List.getElem_cons_succ, List.getElem_cons_zero, Act.put, List.setIfInBounds_toArray, List.set]
        refine up_done (by kernel_rfl) ?_ _
        go_wp2
        go_meet
        exact ⟨rfl, Lib.hid ((HQ.out.set 1 (.int .u64 (LB : Nat))).set 2 (.int .u64 (BK : Nat)))⟩
      have hns : shortB b0 = false := by rw [hsh]; simp [h40, h42, h65, h53]
      have k40 := ne_beq h40; have k42 := ne_beq h42; have k65 := ne_beq h65; have k53 := ne_beq h53
      have hlb : Hid (A8 = LB) := Lib.hid (by rw [← HA8.out, ← HLB.out, lbaN, Hb0.out, hns]; rfl)
      by_cases h137 : b0 = 137
      · subst h137
        clear h40 h42 h65 h53
        have hbk : be B 13 1 = BK := by rw [← HBK.out, blkN, Hb0.out, hns]; rfl
        have HN := Lib.hid (hbk ▸ HF.out.hx.number HB.out 13 1 3 (by omega) (by omega))
        have d2 : wc.cell? ⟨w.heap.size + 1 + 1, 2, none⟩ = some (.int .u64 (N4 : Nat)) := HF.out.cell 2
        have f2 := HF.out.soft 2
        clear hns hsh hbk
        go_wp2_with (go_at_call 18; refine HN.out.mono ?_; rintro e w' ⟨rfl, rfl⟩)
        go_meet
        exact ⟨rfl, Lib.hid (by rw [← hlb.out]; exact HF.out.set 2 (.int .u64 (BK : Nat)))⟩
      · have hbk : Hid (N4 = BK) := Lib.hid (by rw [← HN4.out, ← HBK.out, blkN, Hb0.out, hns]; simp [h137])
        have k137 := ne_beq h137
        clear h40 h42 h65 h53 h137 hns hsh
        go_wp2
        go_meet
        exact ⟨rfl, Lib.hid (by rw [← hlb.out, ← hbk.out]; exact HF.out)⟩
    case rest =>
      obtain ⟨rfl, HF2⟩ := hcut
      rename_i hKr
      refine hKr _ _ ?_
      clear hKr
      have cx0 : wc.cell? ⟨w.heap.size, 0, none⟩ = some (.int .u8 (b0 : Nat)) := by rw [HF2.out.hx.cell HB.out 0 (by omega), Hb0.out]
      have d0 : wc.cell? ⟨w.heap.size + 1 + 1, 0, none⟩ = some (.int .i64 0) := HF2.out.cell 0
      have f0 := HF2.out.soft 0
      have KD : Hid (Calls Try.prog 20 #[.int .u8 (b0 : Int)] wc fun e w' => e = .returned (.int .i64 (D : Nat)) ∧ wc = w') := Lib.hid (by rw [← HD.out]; exact doing_any b0)
      go_upto_region 11 with (go_at_call 20; refine KD.out.mono ?_; rintro e w' ⟨rfl, rfl⟩)
      have HF3 := Lib.hid (HF2.out.set 0 (.int .i64 (D : Nat)))
      generalize wc.setCell ⟨w.heap.size + 1 + 1, 0, none⟩ (.int .i64 (D : Nat)) = wd at HF3 ⊢
      clear cx0 d0 f0
      obtain ⟨cs, Hcs⟩ : ∃ cs : Array Value, Hid (cs = ({ op := D, lba := LB, blk := BK } : Tk).cs) := ⟨_, Lib.hid rfl⟩
      obtain ⟨zn, Hzn⟩ : ∃ zn : Array Value, Hid (zn = #[.int .i64 0, .int .u64 0, .int .u64 0, .bool false, .bool false, .int .i64 0, .int .i64 0, .int .i64 0, .int .i64 0, .int .i64 0, .int .i64 0, .bool false]) := ⟨_, Lib.hid rfl⟩
      have hz8 : wd.heap[w.heap.size + 1]? = some (.cells zn 25 (0, 0)) := by rw [Hzn.out]; exact HF3.out.hz
      have ht8 : wd.heap[w.heap.size + 1 + 1]? = some (.cells cs 25 (0, 0)) := by rw [Hcs.out]; exact HF3.out.ht
      have hb8 : Below w.heap.size w wd := HF3.out.hb
      have hci : Hid ((Try.prog.info? 25).map (·.size) = some cs.size) := Lib.hid (by rw [Hcs.out]; exact infoTk)
      have hcz : Hid (zn.size = cs.size) := Lib.hid (by rw [Hcs.out, Hzn.out]; rfl)
      have hc1 : Hid (cs.all (·.oneCell') = true) := Lib.hid (by rw [Hcs.out]; exact Tk.cs_one _)
      obtain ⟨wq, hq⟩ : ∃ wq : World, ({ wd with drawn := wd.drawn + 1 } : World) = wq := ⟨_, rfl⟩
      refine wp_region_held (S := fun W => W.heap[w.heap.size + 1 + 1]? = some (.cells cs 25 (0, 0)) ∧ W.cell? ⟨w.heap.size + 1 + 1, 0, none⟩ = some (.int .i64 (D : Nat))) (by kernel_rfl) ?_
      have hS0 : wq.heap[w.heap.size + 1 + 1]? = some (.cells cs 25 (0, 0)) ∧ wq.cell? ⟨w.heap.size + 1 + 1, 0, none⟩ = some (.int .i64 (D : Nat)) := by
        rw [← hq]; exact ⟨ht8, HF3.out.cell 0⟩
      have hz9 : Hid (wq.heap[w.heap.size + 1]? = some (.cells zn 25 (0, 0))) := Lib.hid (by rw [← hq]; exact hz8)
      have hb9 : Below w.heap.size w wq := by rw [← hq]; exact hb8.drew
      rw [hq]
      clear hq hz8 ht8 hb8
      have hok : ((D : Int) != 0) = ok := by rw [Hok.out, Hb0.out, HD.out, Bool.eq_iff_iff]; simp
      refine wpAnyH_take (i := 0) (v := .agg cs) rfl (by kernel_rfl) (by kernel_rfl) (by kernel_rfl) (fun _ _ _ h => h) (Or.inl ⟨by rfl, ?_⟩) hS0 ?_
      · intro w' hS'; exact exec_load _ _ _ _ rfl _ _ rfl _ (load_task hS'.1 hci.out)
      try simp only [List.getElem_toArray, List.getElem_cons_succ, List.getElem_cons_zero, Act.put, List.setIfInBounds_toArray, List.set]
      refine wpAnyH_take (i := 1) (v := .pointer (some ⟨(w.heap.size + 1 + 1), 0, none⟩)) rfl (by kernel_rfl) (by kernel_rfl) (by kernel_rfl) (fun _ _ _ h => h) (Or.inl ⟨by rfl, ?_⟩) hS0 ?_
      · intro w' _; go_simp
      try simp only [List.getElem_toArray, List.getElem_cons_succ, List.getElem_cons_zero, Act.put, List.setIfInBounds_toArray, List.set]
      refine wpAnyH_take (i := 2) (v := .int .i64 (D : Nat)) rfl (by kernel_rfl) (by kernel_rfl) (by kernel_rfl) (fun _ _ _ h => h) (Or.inl ⟨by rfl, ?_⟩) hS0 ?_
      · intro w' hS'
        obtain ⟨-, hc0⟩ := hS'
        go_simp
      try simp only [List.getElem_toArray, List.getElem_cons_succ, List.getElem_cons_zero, Act.put, List.setIfInBounds_toArray, List.set]
      refine wpAnyH_take (i := 3) (v := .bool ok) rfl (by kernel_rfl) (by kernel_rfl) (by kernel_rfl) (fun _ _ _ h => h) (Or.inl ⟨by rfl, ?_⟩) hS0 ?_
      · intro w' _; go_simp
      try simp only [List.getElem_toArray, List.getElem_cons_succ, List.getElem_cons_zero, Act.put, List.setIfInBounds_toArray, List.set]
      refine wpAnyH_oneR 4 _ rfl (by kernel_rfl) (by rfl) (fun K hK => ?_)
      refine wp_store_whole 25 _ _ rfl (w.heap.size + 1) cs rfl rfl zn 25 hz9.out hci.out hcz.out hc1.out ?_
      intro w5 Hs5 Hg5
      have hn : w5.heap[w.heap.size + 1 + 1]? = wq.heap[w.heap.size + 1 + 1]? := Hg5.out.block _ (Array.getElem?_eq_some_iff.1 hS0.1).1 (by simp)
      have hS5 : w5.heap[w.heap.size + 1 + 1]? = some (.cells cs 25 (0, 0)) ∧ w5.cell? ⟨w.heap.size + 1 + 1, 0, none⟩ = some (.int .i64 (D : Nat)) := ⟨hn.trans hS0.1, by rw [← hS0.2]; simp [World.cell?, hn]⟩
      refine hK _ _ hS5 ?_
      clear hK K
      try simp only [List.getElem_toArray, List.getElem_cons_succ, List.getElem_cons_zero, Act.put, List.setIfInBounds_toArray, List.set]
      refine wpAnyH_take (i := 5) (v := .bool ok) rfl (by kernel_rfl) (by kernel_rfl) (by kernel_rfl) (fun _ _ _ h => h) (Or.inl ⟨by rfl, ?_⟩) hS5 ?_
      · intro w' _; go_simp
      try simp only [List.getElem_toArray, List.getElem_cons_succ, List.getElem_cons_zero, Act.put, List.setIfInBounds_toArray, List.set]
      refine wpAnyH_done (by kernel_rfl) ?_ _
      go_wp2
      refine bodyPost_ret (v := .tuple #[.agg cs, .bool ok]) ?_ rfl ⟨by rw [Hcs.out, HT.out, spanT, Hb0.out, HD.out, HLB.out, HBK.out]; rfl, below_of_grown (g := w.heap.size + 1) hb9 Hg5.out (by have := hb9.size; omega) (by omega)⟩
      exact results_cell_row_tmp (ty := 25) rfl _ _ (w.heap.size + 1) 25 _ (0, 0) _ rfl Hs5.out Try.underlying25 rfl hci.out _ rfl
end Go.Proofs.Ytehhhbehclpkbaa
