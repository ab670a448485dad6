/-
  The document's answer: preempt, of another type by another's key.
-/
import Derived.Test.YtkpogmigfjmacaaPeRPreM
set_option linter.unusedSimpArgs false
set_option linter.unusedVariables false
namespace Go.Proofs.Ytkpogmigfjmacaa
open Go.RowKit

set_option maxRecDepth 100000 in
set_option maxHeartbeats 16000000 in
theorem rpreempt_XN (g h t : Int) (p : Bool) (A : Option Addr) (len cap : Nat) (l : List (Int × Int)) (w : World) (hS : SlR w A len cap l) (hm : len ≤ 6) (hso : soundB l h t = true) (j : Nat) (hj : j < 8) (a ty key other : Int) (ap : Bool) (hn0 : t ≠ 0) (hn7 : t ≠ 7) (hn8 : t ≠ 8) (hx0 : other ≠ 0) (hkm : keyL l h ≠ other) :
    Calls Try.prog 35 #[.agg #[.int .u32 g, .slice A len cap, .int .i64 h, .int .i64 t, .bool p], .int .i64 (j : Int), .agg #[.int .i64 a, .int .i64 ty, .int .u64 key, .int .u64 other, .bool ap]] w (ActP w A len cap l (refR (j : Int) (preL ⟨g, l, h, t, p⟩ (j : Int) ty other))) := by
  have K_hn0 := Lib.hid hn0
  have K_hn7 := Lib.hid hn7
  have K_hn8 := Lib.hid hn8
  have K_hx0 := Lib.hid hx0
  have K_hkm := Lib.hid hkm
  clear hn0 hn7 hn8 hx0 hkm
  obtain ⟨hs1, hr, hs3⟩ := sound_iff.1 hso
  obtain ⟨pv, Hpv⟩ : ∃ x, Hid ((arrV (keyL l)).toArray = x) := ⟨_, Lib.hid rfl⟩
  have Kk : Hid (∀ W, Below w.heap.size w W → Calls Try.prog 28 #[.agg #[.int .u32 g, .slice A len cap, .int .i64 h, .int .i64 t, .bool p]] W (fun e w' => e = .returned (.agg pv) ∧ Below W.heap.size W w')) :=
    Lib.hid fun W hb => keysP g h t p A len cap l W (hS.below hb) hm hr Hpv.out
  obtain ⟨R, HR⟩ : ∃ x, Hid (refR (j : Int) (preL ⟨g, l, h, t, p⟩ (j : Int) ty other) = x) := ⟨_, Lib.hid rfl⟩
  rw [HR.out]
  obtain ⟨tb, Htb⟩ : ∃ x, Hid (isTyB ty = x) := ⟨_, Lib.hid rfl⟩
  have Ky : Hid (∀ W, Calls Try.prog 27 #[.int .i64 ty] W (fun e w' => e = .returned (.bool tb) ∧ W = w')) := Lib.hid fun W => by rw [← Htb.out]; exact known_any ty W
  have HS := Lib.hid hS; have Hso := Lib.hid hso; have Hr := Lib.hid hr
  clear hS hso hr hs1 hs3
  have hps : Hid ((Try.prog.info? 57).map (·.size) = some pv.size) := Lib.hid (by rw [← Hpv.out, List.size_toArray, arrV_len]; exact info8)
  have hzs : Hid (zeros8.size = pv.size) := Lib.hid (by rw [← Hpv.out]; simp [zeros8, arrV_len])
  have hp1 : Hid (pv.all (·.oneCell') = true) := Lib.hid (by rw [← Hpv.out]; exact cells_one)
  have hpk : Hid (∀ k : Nat, k < 8 → pv[k]? = some (.int .u64 (keyL l (k : Int)))) := Lib.hid fun k hk => by rw [← Hpv.out, List.getElem?_toArray]; exact arrV_at _ hk
  obtain ⟨zn, Hzn⟩ : ∃ zn : Array Value, Hid (zn = zeros8) := ⟨_, Lib.hid rfl⟩
  have hal : ∀ w : World, (Instr.alloc 57 true (.tuple #[])).run Try.prog w = .ok (.pointer (some ⟨w.heap.size, 0, none⟩)) (w.alloc (.cells zn 57)) := by rw [Hzn.out]; exact alloc8
  rw [← Hzn.out] at hzs
  have hjz : (j : Int) < 8 := by omega
  go_enter Try.func35, Try.ntmps35
  go_upto_region 1 with (fail)
  obtain ⟨hx, hy, hz⟩ := heap_alloc3 w (.cells #[.int .u32 g, .slice A len cap, .int .i64 h, .int .i64 t, .bool p] 25) (.cells #[.int .i64 a, .int .i64 ty, .int .u64 key, .int .u64 other, .bool ap] 35) (.cells #[.int .u32 0, .slice none 0 0, .int .i64 0, .int .i64 0, .bool false] 25)
  have hb0 := bel3 w (.cells #[.int .u32 g, .slice A len cap, .int .i64 h, .int .i64 t, .bool p] 25) (.cells #[.int .i64 a, .int .i64 ty, .int .u64 key, .int .u64 other, .bool ap] 35) (.cells #[.int .u32 0, .slice none 0 0, .int .i64 0, .int .i64 0, .bool false] 25)
  try simp only [World.size_alloc]
  generalize ((w.alloc (.cells #[.int .u32 g, .slice A len cap, .int .i64 h, .int .i64 t, .bool p] 25)).alloc (.cells #[.int .i64 a, .int .i64 ty, .int .u64 key, .int .u64 other, .bool ap] 35)).alloc (.cells #[.int .u32 0, .slice none 0 0, .int .i64 0, .int .i64 0, .bool false] 25) = w0 at hx hy hz hb0 ⊢
  obtain ⟨xl0, x0_0, x1_0, x2_0, x3_0, x4_0, xf0⟩ := box5 hx
  go_upto_region 2 with (first
    | (go_at_call 28; refine (Kk.out _ hb0).mono ?_; rintro e w2 ⟨rfl, hb2⟩)
    | (refine wpList_alloc_arr rfl 57 rfl _ hal ?_)
    | (refine wpList_store_new rfl 57 _ _ rfl w2.heap.size rfl pv rfl rfl 57 zn hps.out hzs.out hp1.out ?_))
  have hq3 := heap_alloc_new w2 (.cells pv 57)
  have hb23 := hb2.trans ((bel1 w2 (.cells pv 57)).mono hb2.size)
  have hx3 := (hb23.block w.heap.size (by omega)).trans hx
  have hzl := (Array.getElem?_eq_some_iff.1 hz).1
  have hy3 := (hb23.block (w.heap.size + 1) (by omega)).trans hy
  have hz3 := (hb23.block (w.heap.size + 1 + 1) hzl).trans hz
  have hb3 := stepB hb0 hb23
  have hqb : w.heap.size + 3 ≤ w2.heap.size := by have := hb2.size; omega
  obtain ⟨q, Hq⟩ : ∃ q, Hid (w2.heap.size = q) := ⟨_, Lib.hid rfl⟩
  have hN0 : (w2.alloc (.cells pv 57)).heap.size = q + 1 := by rw [World.size_alloc, Hq.out]
  rw [Hq.out] at hq3 hqb
  generalize w2.alloc (.cells pv 57) = w3 at hq3 hx3 hy3 hz3 hb3 hN0 ⊢
  rw [Hq.out]
  have HX := Lib.hid hx3; have HY := Lib.hid hy3; have HZ := Lib.hid hz3; have HQ := Lib.hid hq3; have HQB := Lib.hid hqb; have HB3 := Lib.hid hb3; have HN0 := Lib.hid hN0
  clear hx hy hz hb0 hb2 hb23 hx3 hy3 hz3 hq3 hb3 hN0 Hq hzl xl0 x0_0 x1_0 x2_0 x3_0 x4_0 xf0 hal hqb hzs hp1 Kk
  have hqb := HQB.out
  clear HQB
  obtain ⟨xl3, x0_3, x1_3, x2_3, x3_3, x4_3, xf3⟩ := box5 HX.out
  obtain ⟨ol3, o0_3, o1_3, o2_3, o3_3, o4_3, of3⟩ := box5 HY.out
  obtain ⟨rl3, r0_3, r1_3, r2_3, r3_3, r4_3, rf3⟩ := box5 HZ.out
  have hn0 := K_hn0.out
  have hn7 := K_hn7.out
  have hn8 := K_hn8.out
  have hx0 := K_hx0.out
  have hkm := K_hkm.out
  have Hx0 := Lib.hid hx0
  have x0b : (other == 0) = false := by simpa using hx0
  have x0n : (other != 0) = true := by simpa using hx0
  clear hx0
  have t7 : (t == 7) = false := by simpa using hn7
  have t8 : (t == 8) = false := by simpa using hn8
  have t0 : (t != 0) = true := by simpa using hn0
  obtain ⟨hk1, hk2⟩ : 0 ≤ h ∧ h < 8 := by
    rcases (sound_iff.1 Hso.out).2.2 with ⟨e, _⟩ | ⟨_, _, hkh⟩
    · exact absurd e hn0
    · exact ⟨Int.not_lt.1 fun hlt => hkh (keyL_rise Hr.out (by omega)), Int.not_le.1 fun hge => hkh (keyL_hi Hr.out hge)⟩
  obtain ⟨M, rfl⟩ : ∃ M : Nat, h = (M : Int) := ⟨h.toNat, by omega⟩
  have hM : M < 8 := by omega
  obtain ⟨km, Hkm⟩ : ∃ x, Hid (keyL l (M : Int) = x) := ⟨_, Lib.hid rfl⟩
  have cm : w3.cell? ⟨q, M, none⟩ = some (.int .u64 km) := by rw [cell_of_row w3 _ M _ _ _ HQ.out, hpk.out M hM, Hkm.out]
  have Htk : Hid (takesB l (M : Int) t other = false) := Lib.hid (by simp [takesB, resB, ofAllB, hn0, hn7, hn8, Ne.symm hkm])
  have kmb : (km == other) = false := by rw [← Hkm.out]; simpa using hkm
  clear hn0 hn7 hn8 hkm hk1 hk2
  clear K_hn0 K_hn7 K_hn8 K_hx0 K_hkm
  go_wp2
  go_quiet (fail)
  have hx4 : (w3.drewN nq).heap[w.heap.size]? = _ := HX.out
  have hy4 : (w3.drewN nq).heap[w.heap.size + 1]? = _ := HY.out
  have hz4 : (w3.drewN nq).heap[w.heap.size + 1 + 1]? = _ := HZ.out
  have hq4 : (w3.drewN nq).heap[q]? = _ := HQ.out
  have hb4 := below_drewN HB3.out nq
  have hn4 : (w3.drewN nq).heap.size = q + 1 := HN0.out
  generalize w3.drewN nq = w4 at hx4 hy4 hz4 hq4 hb4 hn4 ⊢
  have HX4 := Lib.hid hx4; have HY4 := Lib.hid hy4; have HZ4 := Lib.hid hz4; have HQ4 := Lib.hid hq4; have HB4 := Lib.hid hb4; have HN4 := Lib.hid hn4
  clear hx4 hy4 hz4 hq4 hb4 hn4 HX HY HZ HQ HB3 HN0 xl3 x0_3 x1_3 x2_3 x3_3 x4_3 xf3 ol3 o0_3 o1_3 o2_3 o3_3 o4_3 of3 rl3 r0_3 r1_3 r2_3 r3_3 r4_3 rf3
  obtain ⟨xl4, x0_4, x1_4, x2_4, x3_4, x4_4, xf4⟩ := box5 HX4.out
  obtain ⟨ol4, o0_4, o1_4, o2_4, o3_4, o4_4, of4⟩ := box5 HY4.out
  obtain ⟨rl4, r0_4, r1_4, r2_4, r3_4, r4_4, rf4⟩ := box5 HZ4.out
  obtain ⟨sm, Hsm⟩ : ∃ x, Hid (smP l false (j : Int) other = x) := ⟨_, Lib.hid rfl⟩
  obtain ⟨zb, Hzb⟩ : ∃ x, Hid ((boolV fun _ => false).toArray = x) := ⟨_, Lib.hid rfl⟩
  have halB : ∀ w : World, (Instr.alloc 63 true (.tuple #[])).run Try.prog w = .ok (.pointer (some ⟨w.heap.size, 0, none⟩)) (w.alloc (.cells zb 63)) := by rw [← Hzb.out]; exact allocB8
  go_upto_region 7 with (first | (refine wpList_alloc_arr rfl 63 rfl _ halB ?_) | (go_at_call 27; refine (Ky.out _).mono ?_; rintro e y ⟨rfl, rfl⟩))
  clear halB
  have hs5 := heap_alloc_new w4 (.cells zb 63)
  have hb45 := bel1 w4 (.cells zb 63)
  have hy5 := (hb45.block (w.heap.size + 1) ol4).trans HY4.out
  have hx5 := (hb45.block w.heap.size xl4).trans HX4.out
  have hz5 := (hb45.block (w.heap.size + 1 + 1) rl4).trans HZ4.out
  have hq5 := (hb45.block q (by rw [HN4.out]; omega)).trans HQ4.out
  have hb5 := stepB HB4.out hb45
  rw [HN4.out] at hs5
  rw [show zb = (someV sm 0).toArray by rw [someV_0]; exact Hzb.out.symm] at hs5 hx5 hy5 hz5 hq5 hb5 ⊢
  generalize hw5 : w4.alloc (.cells (someV sm 0).toArray 63) = w5 at hs5 hx5 hy5 hz5 hq5 hb5 ⊢
  clear hw5 hb45 Hzb
  rw [HN4.out]
  have HX5 := Lib.hid hx5; have HY5 := Lib.hid hy5; have HZ5 := Lib.hid hz5; have HQ5 := Lib.hid hq5; have HB5 := Lib.hid hb5; have HS5 := Lib.hid hs5
  clear hx5 hy5 hz5 hq5 hb5 hs5 HX4 HY4 HZ4 HQ4 HB4 HN4 xl4 x0_4 x1_4 x2_4 x3_4 x4_4 xf4 ol4 o0_4 o1_4 o2_4 o3_4 o4_4 of4 rl4 r0_4 r1_4 r2_4 r3_4 r4_4 rf4
  go_wp2
  go_loopg [14, 13] 8 (fun m i v wr => ∃ (k : Nat) (nm : Bool), m = 8 - k ∧ k ≤ 8 ∧ i = .int .i64 k ∧ v = .bool nm ∧ Hid (anyK sm k = nm) ∧ Hid (wr.heap[w.heap.size]? = some (.cells #[.int .u32 g, .slice A len cap, .int .i64 (M : Int), .int .i64 t, .bool p] 25 (0, 0))) ∧ Hid (wr.heap[w.heap.size + 1]? = some (.cells #[.int .i64 a, .int .i64 ty, .int .u64 key, .int .u64 other, .bool ap] 35 (0, 0))) ∧ Hid (wr.heap[w.heap.size + 1 + 1]? = some (.cells #[.int .u32 0, .slice none 0 0, .int .i64 0, .int .i64 0, .bool false] 25 (0, 0))) ∧ Hid (wr.heap[q]? = some (.cells pv 57 (0, 0))) ∧ Hid (wr.heap[q + 1]? = some (.cells (someV sm k).toArray 63 (0, 0))) ∧ Below w.heap.size w wr)
  case atStart => exact ⟨0, false, rfl, by omega, rfl, rfl, Lib.hid rfl, HX5, HY5, HZ5, HQ5, HS5, HB5.out⟩
  case round =>
    clear HX5 HY5 HZ5 HQ5 HB5 HS5
    obtain ⟨k, nm, rfl, hk, rfl, rfl, Hnm, HX, HY, HZ, HQ, HSm, hb⟩ := hrel
    have hql : q < wr.heap.size := (Array.getElem?_eq_some_iff.1 HQ.out).1
    have hsl : q + 1 < wr.heap.size := (Array.getElem?_eq_some_iff.1 HSm.out).1
    have hol : w.heap.size + 1 < wr.heap.size := by omega
    have HB := Lib.hid hb
    clear hb
    by_cases hlt : k < 8
    · have hltz : (k : Int) < 8 := by omega
      obtain ⟨kk, Hkk⟩ : ∃ x, Hid (keyL l (k : Int) = x) := ⟨_, Lib.hid rfl⟩
      have ck : wr.cell? ⟨q, k, none⟩ = some (.int .u64 kk) := by rw [cell_of_row wr _ k _ _ _ HQ.out, hpk.out k hlt, Hkk.out]
      have co : wr.cell? ⟨w.heap.size + 1, 3, none⟩ = some (.int .u64 other) := cell_of_row wr _ 3 _ _ _ HY.out
      obtain ⟨sv, hsv⟩ := someV_at sm (k := k) hlt
      have cs : wr.cell? ⟨q + 1, k, none⟩ = some (.bool sv) := by rw [cell_of_row wr _ k _ _ _ HSm.out, List.getElem?_toArray]; exact hsv
      have fs : wr.frozen? ⟨q + 1, k, none⟩ = false := by simp [World.frozen?, HSm.out]
      clear hsv
      go_wp2
      cases nm with
      | false =>
        by_cases k0 : kk = 0
        · have k0b : (kk == 0) = true := by simpa using k0
          have k0n : (kk != 0) = false := by simpa using k0
          have Hk0 := Lib.hid k0
          clear k0
          refine wp_region_up 21 (fun W => Below wr.heap.size wr W) (by kernel_rfl) ?_
          have hS : Below wr.heap.size wr (World.drew wr) := (Below.refl _ _).drew
          change upHead _ _ _ _ _ _ _ _ _ (World.drew wr)
          generalize World.drew wr = wd at hS ⊢
          have hwd := hS.size
          have fz : wd.frozen? ⟨q + 1, k, none⟩ = false := (hS.frozen (p := ⟨q + 1, k, none⟩) hsl).trans fs
          obtain ⟨ov, cz⟩ : ∃ x, wd.cell? ⟨q + 1, k, none⟩ = some x := ⟨_, (hS.cell (p := ⟨q + 1, k, none⟩) hsl).trans cs⟩
          refine up_take (i := 0) (v := .int .i64 (k : Int)) rfl (by kernel_rfl) (by kernel_rfl) (fun _ _ _ h => h) (Or.inl ⟨by rfl, ?_⟩) hS ?_
          · intro w' _; go_simp
          try simp only [List.getElem_toArray, List.getElem_cons_succ, List.getElem_cons_zero, Act.put, List.setIfInBounds_toArray, List.set]
          refine up_take (i := 1) (v := .int .i64 (k : Int)) rfl (by kernel_rfl) (by kernel_rfl) (fun _ _ _ h => h) (Or.inl ⟨by rfl, ?_⟩) hS ?_
          · intro w' _; go_simp
          try simp only [List.getElem_toArray, List.getElem_cons_succ, List.getElem_cons_zero, Act.put, List.setIfInBounds_toArray, List.set]
          refine up_take (i := 2) (v := .pointer (some ⟨q, k, none⟩)) rfl (by kernel_rfl) (by kernel_rfl) (fun _ _ _ h => h) (Or.inl ⟨by rfl, ?_⟩) hS ?_
          · intro w' _; go_simp
          try simp only [List.getElem_toArray, List.getElem_cons_succ, List.getElem_cons_zero, Act.put, List.setIfInBounds_toArray, List.set]
          refine up_take (i := 3) (v := .int .u64 kk) rfl (by kernel_rfl) (by kernel_rfl) (fun _ _ _ h => h) (Or.inl ⟨by rfl, ?_⟩) hS ?_
          · intro W hW; have e1 := (hW.cell (p := ⟨q, k, none⟩) hql).trans ck; go_simp
          try simp only [List.getElem_toArray, List.getElem_cons_succ, List.getElem_cons_zero, Act.put, List.setIfInBounds_toArray, List.set]
          refine up_take (i := 4) (v := .bool false) rfl (by kernel_rfl) (by kernel_rfl) (fun _ _ _ h => h) (Or.inl ⟨by rfl, ?_⟩) hS ?_
          · intro w' _; go_simp
          try simp only [List.getElem_toArray, List.getElem_cons_succ, List.getElem_cons_zero, Act.put, List.setIfInBounds_toArray, List.set]
          refine up_take (i := 5) (v := .bool false) rfl (by kernel_rfl) (by kernel_rfl) (fun _ _ _ h => h) (Or.inl ⟨by rfl, ?_⟩) hS ?_
          · intro w' _; go_simp
          try simp only [List.getElem_toArray, List.getElem_cons_succ, List.getElem_cons_zero, Act.put, List.setIfInBounds_toArray, List.set]
          refine up_take (i := 6) (v := undef) rfl (by kernel_rfl) (by kernel_rfl) (fun _ _ _ h => h) (Or.inr ⟨by rfl, rfl⟩) hS ?_
          try simp only [List.getElem_toArray, List.getElem_cons_succ, List.getElem_cons_zero, Act.put, List.setIfInBounds_toArray, List.set]
          refine up_take (i := 7) (v := undef) rfl (by kernel_rfl) (by kernel_rfl) (fun _ _ _ h => h) (Or.inr ⟨by rfl, rfl⟩) hS ?_
          try simp only [List.getElem_toArray, List.getElem_cons_succ, List.getElem_cons_zero, Act.put, List.setIfInBounds_toArray, List.set]
          refine up_take (i := 8) (v := undef) rfl (by kernel_rfl) (by kernel_rfl) (fun _ _ _ h => h) (Or.inr ⟨by rfl, rfl⟩) hS ?_
          try simp only [List.getElem_toArray, List.getElem_cons_succ, List.getElem_cons_zero, Act.put, List.setIfInBounds_toArray, List.set]
          refine up_take (i := 9) (v := undef) rfl (by kernel_rfl) (by kernel_rfl) (fun _ _ _ h => h) (Or.inr ⟨by rfl, rfl⟩) hS ?_
          try simp only [List.getElem_toArray, List.getElem_cons_succ, List.getElem_cons_zero, Act.put, List.setIfInBounds_toArray, List.set]
          refine up_take (i := 10) (v := undef) rfl (by kernel_rfl) (by kernel_rfl) (fun _ _ _ h => h) (Or.inr ⟨by rfl, rfl⟩) hS ?_
          try simp only [List.getElem_toArray, List.getElem_cons_succ, List.getElem_cons_zero, Act.put, List.setIfInBounds_toArray, List.set]
          refine up_take (i := 11) (v := undef) rfl (by kernel_rfl) (by kernel_rfl) (fun _ _ _ h => h) (Or.inr ⟨by rfl, rfl⟩) hS ?_
          try simp only [List.getElem_toArray, List.getElem_cons_succ, List.getElem_cons_zero, Act.put, List.setIfInBounds_toArray, List.set]
          refine up_take (i := 12) (v := undef) rfl (by kernel_rfl) (by kernel_rfl) (fun _ _ _ h => h) (Or.inr ⟨by rfl, rfl⟩) hS ?_
          try simp only [List.getElem_toArray, List.getElem_cons_succ, List.getElem_cons_zero, Act.put, List.setIfInBounds_toArray, List.set]
          refine up_take (i := 13) (v := undef) rfl (by kernel_rfl) (by kernel_rfl) (fun _ _ _ h => h) (Or.inr ⟨by rfl, rfl⟩) hS ?_
          try simp only [List.getElem_toArray, List.getElem_cons_succ, List.getElem_cons_zero, Act.put, List.setIfInBounds_toArray, List.set]
          refine up_take (i := 14) (v := undef) rfl (by kernel_rfl) (by kernel_rfl) (fun _ _ _ h => h) (Or.inr ⟨by rfl, rfl⟩) hS ?_
          try simp only [List.getElem_toArray, List.getElem_cons_succ, List.getElem_cons_zero, Act.put, List.setIfInBounds_toArray, List.set]
          refine up_take (i := 15) (v := undef) rfl (by kernel_rfl) (by kernel_rfl) (fun _ _ _ h => h) (Or.inr ⟨by rfl, rfl⟩) hS ?_
          try simp only [List.getElem_toArray, List.getElem_cons_succ, List.getElem_cons_zero, Act.put, List.setIfInBounds_toArray, List.set]
          refine up_take (i := 16) (v := undef) rfl (by kernel_rfl) (by kernel_rfl) (fun _ _ _ h => h) (Or.inr ⟨by rfl, rfl⟩) hS ?_
          try simp only [List.getElem_toArray, List.getElem_cons_succ, List.getElem_cons_zero, Act.put, List.setIfInBounds_toArray, List.set]
          refine up_take (i := 17) (v := undef) rfl (by kernel_rfl) (by kernel_rfl) (fun _ _ _ h => h) (Or.inr ⟨by rfl, rfl⟩) hS ?_
          try simp only [List.getElem_toArray, List.getElem_cons_succ, List.getElem_cons_zero, Act.put, List.setIfInBounds_toArray, List.set]
          refine up_take (i := 18) (v := undef) rfl (by kernel_rfl) (by kernel_rfl) (fun _ _ _ h => h) (Or.inr ⟨by rfl, rfl⟩) hS ?_
          try simp only [List.getElem_toArray, List.getElem_cons_succ, List.getElem_cons_zero, Act.put, List.setIfInBounds_toArray, List.set]
          refine up_take (i := 19) (v := undef) rfl (by kernel_rfl) (by kernel_rfl) (fun _ _ _ h => h) (Or.inr ⟨by rfl, rfl⟩) hS ?_
          try simp only [List.getElem_toArray, List.getElem_cons_succ, List.getElem_cons_zero, Act.put, List.setIfInBounds_toArray, List.set]
          refine up_take (i := 20) (v := .bool false) rfl (by kernel_rfl) (by kernel_rfl) (fun _ _ _ h => h) (Or.inl ⟨by rfl, ?_⟩) hS ?_
          · intro w' _; go_simp
          try simp only [List.getElem_toArray, List.getElem_cons_succ, List.getElem_cons_zero, Act.put, List.setIfInBounds_toArray, List.set]
          refine up_tail ?_
          refine up_last 21 _ rfl (by kernel_rfl) (by decide) (by rfl) (fun K hK => ?_)
          go_simp
          refine hK _ _ ?_
          clear hK K
          try simp only [List.getElem_toArray, List.getElem_cons_succ, List.getElem_cons_zero, Act.put, List.setIfInBounds_toArray, List.set]
          refine up_last 22 _ rfl (by kernel_rfl) (by decide) (by rfl) (fun K hK => ?_)
          go_simp
          refine hK _ _ ?_
          clear hK K
          try simp only [List.getElem_toArray, List.getElem_cons_succ, List.getElem_cons_zero, Act.put, List.setIfInBounds_toArray, List.set]
          refine up_done (by kernel_rfl) ?_ _
          have hs5 : (wd.setCell ⟨q + 1, k, none⟩ (.bool false)).heap[q + 1]? = some (.cells ((someV sm k).set k (.bool false)).toArray 63 (0, 0)) := by
            rw [heap_setCell_same wd (q + 1) k _ _ _ ((hS.block (q + 1) hsl).trans HSm.out)]; simp
          have hset : ∀ i, i ≠ q + 1 → (wd.setCell ⟨q + 1, k, none⟩ (.bool false)).heap[i]? = wd.heap[i]? := fun i hi => Below.heap_setCell wd ⟨q + 1, k, none⟩ _ i hi
          have hx5 := (hset w.heap.size (by omega)).trans ((hS.block w.heap.size (by omega)).trans HX.out)
          have hy5 := (hset (w.heap.size + 1) (by omega)).trans ((hS.block (w.heap.size + 1) (by omega)).trans HY.out)
          have hz5 := (hset (w.heap.size + 1 + 1) (by omega)).trans ((hS.block (w.heap.size + 1 + 1) (by omega)).trans HZ.out)
          have hq5 := (hset q (by omega)).trans ((hS.block q hql).trans HQ.out)
          have hb5 := (HB.out.trans (hS.mono (by omega))).setCell (p := ⟨q + 1, k, none⟩) (show w.heap.size ≤ q + 1 by omega) (.bool false)
          clear fz cz hset hS hwd
          generalize wd.setCell ⟨q + 1, k, none⟩ (.bool false) = w5 at hs5 hx5 hy5 hz5 hq5 hb5 ⊢
          have HX5 := Lib.hid hx5; have HY5 := Lib.hid hy5; have HZ5 := Lib.hid hz5; have HQ5 := Lib.hid hq5; have HB5 := Lib.hid hb5; have HS5 := Lib.hid hs5
          have fs5 : w5.frozen? ⟨q + 1, k, none⟩ = false := by simp [World.frozen?, hs5]
          have cs5 : w5.cell? ⟨q + 1, k, none⟩ = some (.bool false) := by rw [cell_of_row w5 (q + 1) k _ _ _ hs5, List.getElem?_toArray]; exact List.getElem?_set_self (by rw [someV_len]; exact hlt)
          clear hx5 hy5 hz5 hq5 hb5 hs5 ck cs fs co
          have hsm : sm (k : Int) = false := by
            rw [← Hsm.out]; unfold smP; rw [show keyL l (k : Int) = kk from Hkk.out]; simp [Hk0.out]
          have Hsk := Lib.hid hsm
          clear hsm
          go_wp2
          go_roundg (8 - (k + 1))
          case measure => omega
          case rel => exact ⟨k + 1, false, rfl, by omega, by go_num, rfl, Lib.hid (by rw [anyK_next, Hnm.out, Hsk.out]; rfl), HX5, HY5, HZ5, HQ5, Lib.hid (by rw [HS5.out, someV_next sm hlt Hsk.out]), HB5.out⟩
        · have k0b : (kk == 0) = false := by simpa using k0
          have k0n : (kk != 0) = true := by simpa using k0
          have Hk0 := Lib.hid k0
          clear k0
          by_cases ko : kk = other
          · have kob : (kk == other) = true := by simpa using ko
            have Hko := Lib.hid ko
            clear ko
            refine wp_region_up 21 (fun W => Below wr.heap.size wr W) (by kernel_rfl) ?_
            have hS : Below wr.heap.size wr (World.drew wr) := (Below.refl _ _).drew
            change upHead _ _ _ _ _ _ _ _ _ (World.drew wr)
            generalize World.drew wr = wd at hS ⊢
            have hwd := hS.size
            have fz : wd.frozen? ⟨q + 1, k, none⟩ = false := (hS.frozen (p := ⟨q + 1, k, none⟩) hsl).trans fs
            obtain ⟨ov, cz⟩ : ∃ x, wd.cell? ⟨q + 1, k, none⟩ = some x := ⟨_, (hS.cell (p := ⟨q + 1, k, none⟩) hsl).trans cs⟩
            refine up_take (i := 0) (v := .int .i64 (k : Int)) rfl (by kernel_rfl) (by kernel_rfl) (fun _ _ _ h => h) (Or.inl ⟨by rfl, ?_⟩) hS ?_
            · intro w' _; go_simp
            try simp only [List.getElem_toArray, List.getElem_cons_succ, List.getElem_cons_zero, Act.put, List.setIfInBounds_toArray, List.set]
            refine up_take (i := 1) (v := .int .i64 (k : Int)) rfl (by kernel_rfl) (by kernel_rfl) (fun _ _ _ h => h) (Or.inl ⟨by rfl, ?_⟩) hS ?_
            · intro w' _; go_simp
            try simp only [List.getElem_toArray, List.getElem_cons_succ, List.getElem_cons_zero, Act.put, List.setIfInBounds_toArray, List.set]
            refine up_take (i := 2) (v := .pointer (some ⟨q, k, none⟩)) rfl (by kernel_rfl) (by kernel_rfl) (fun _ _ _ h => h) (Or.inl ⟨by rfl, ?_⟩) hS ?_
            · intro w' _; go_simp
            try simp only [List.getElem_toArray, List.getElem_cons_succ, List.getElem_cons_zero, Act.put, List.setIfInBounds_toArray, List.set]
            refine up_take (i := 3) (v := .int .u64 kk) rfl (by kernel_rfl) (by kernel_rfl) (fun _ _ _ h => h) (Or.inl ⟨by rfl, ?_⟩) hS ?_
            · intro W hW; have e1 := (hW.cell (p := ⟨q, k, none⟩) hql).trans ck; go_simp
            try simp only [List.getElem_toArray, List.getElem_cons_succ, List.getElem_cons_zero, Act.put, List.setIfInBounds_toArray, List.set]
            refine up_take (i := 4) (v := .bool true) rfl (by kernel_rfl) (by kernel_rfl) (fun _ _ _ h => h) (Or.inl ⟨by rfl, ?_⟩) hS ?_
            · intro w' _; go_simp
            try simp only [List.getElem_toArray, List.getElem_cons_succ, List.getElem_cons_zero, Act.put, List.setIfInBounds_toArray, List.set]
            refine up_take (i := 5) (v := .bool true) rfl (by kernel_rfl) (by kernel_rfl) (fun _ _ _ h => h) (Or.inl ⟨by rfl, ?_⟩) hS ?_
            · intro w' _; go_simp
            try simp only [List.getElem_toArray, List.getElem_cons_succ, List.getElem_cons_zero, Act.put, List.setIfInBounds_toArray, List.set]
            refine up_take (i := 6) (v := .int .i64 (k : Int)) rfl (by kernel_rfl) (by kernel_rfl) (fun _ _ _ h => h) (Or.inl ⟨by rfl, ?_⟩) hS ?_
            · intro w' _; go_simp
            try simp only [List.getElem_toArray, List.getElem_cons_succ, List.getElem_cons_zero, Act.put, List.setIfInBounds_toArray, List.set]
            refine up_take (i := 7) (v := .pointer (some ⟨q, k, none⟩)) rfl (by kernel_rfl) (by kernel_rfl) (fun _ _ _ h => h) (Or.inl ⟨by rfl, ?_⟩) hS ?_
            · intro w' _; go_simp
            try simp only [List.getElem_toArray, List.getElem_cons_succ, List.getElem_cons_zero, Act.put, List.setIfInBounds_toArray, List.set]
            refine up_take (i := 8) (v := .int .u64 kk) rfl (by kernel_rfl) (by kernel_rfl) (fun _ _ _ h => h) (Or.inl ⟨by rfl, ?_⟩) hS ?_
            · intro W hW; have e1 := (hW.cell (p := ⟨q, k, none⟩) hql).trans ck; go_simp
            try simp only [List.getElem_toArray, List.getElem_cons_succ, List.getElem_cons_zero, Act.put, List.setIfInBounds_toArray, List.set]
            refine up_take (i := 9) (v := .pointer (some ⟨w.heap.size + 1, 3, none⟩)) rfl (by kernel_rfl) (by kernel_rfl) (fun _ _ _ h => h) (Or.inl ⟨by rfl, ?_⟩) hS ?_
            · intro w' _; go_simp
            try simp only [List.getElem_toArray, List.getElem_cons_succ, List.getElem_cons_zero, Act.put, List.setIfInBounds_toArray, List.set]
            refine up_take (i := 10) (v := .int .u64 other) rfl (by kernel_rfl) (by kernel_rfl) (fun _ _ _ h => h) (Or.inl ⟨by rfl, ?_⟩) hS ?_
            · intro W hW; have e1 := (hW.cell (p := ⟨w.heap.size + 1, 3, none⟩) hol).trans co; go_simp
            try simp only [List.getElem_toArray, List.getElem_cons_succ, List.getElem_cons_zero, Act.put, List.setIfInBounds_toArray, List.set]
            refine up_take (i := 11) (v := .bool true) rfl (by kernel_rfl) (by kernel_rfl) (fun _ _ _ h => h) (Or.inl ⟨by rfl, ?_⟩) hS ?_
            · intro w' _; go_simp
            try simp only [List.getElem_toArray, List.getElem_cons_succ, List.getElem_cons_zero, Act.put, List.setIfInBounds_toArray, List.set]
            refine up_take (i := 12) (v := .bool true) rfl (by kernel_rfl) (by kernel_rfl) (fun _ _ _ h => h) (Or.inl ⟨by rfl, ?_⟩) hS ?_
            · intro w' _; go_simp
            try simp only [List.getElem_toArray, List.getElem_cons_succ, List.getElem_cons_zero, Act.put, List.setIfInBounds_toArray, List.set]
            refine up_take (i := 13) (v := undef) rfl (by kernel_rfl) (by kernel_rfl) (fun _ _ _ h => h) (Or.inr ⟨by rfl, rfl⟩) hS ?_
            try simp only [List.getElem_toArray, List.getElem_cons_succ, List.getElem_cons_zero, Act.put, List.setIfInBounds_toArray, List.set]
            refine up_take (i := 14) (v := undef) rfl (by kernel_rfl) (by kernel_rfl) (fun _ _ _ h => h) (Or.inr ⟨by rfl, rfl⟩) hS ?_
            try simp only [List.getElem_toArray, List.getElem_cons_succ, List.getElem_cons_zero, Act.put, List.setIfInBounds_toArray, List.set]
            refine up_take (i := 15) (v := undef) rfl (by kernel_rfl) (by kernel_rfl) (fun _ _ _ h => h) (Or.inr ⟨by rfl, rfl⟩) hS ?_
            try simp only [List.getElem_toArray, List.getElem_cons_succ, List.getElem_cons_zero, Act.put, List.setIfInBounds_toArray, List.set]
            refine up_take (i := 16) (v := undef) rfl (by kernel_rfl) (by kernel_rfl) (fun _ _ _ h => h) (Or.inr ⟨by rfl, rfl⟩) hS ?_
            try simp only [List.getElem_toArray, List.getElem_cons_succ, List.getElem_cons_zero, Act.put, List.setIfInBounds_toArray, List.set]
            refine up_take (i := 17) (v := undef) rfl (by kernel_rfl) (by kernel_rfl) (fun _ _ _ h => h) (Or.inr ⟨by rfl, rfl⟩) hS ?_
            try simp only [List.getElem_toArray, List.getElem_cons_succ, List.getElem_cons_zero, Act.put, List.setIfInBounds_toArray, List.set]
            refine up_take (i := 18) (v := undef) rfl (by kernel_rfl) (by kernel_rfl) (fun _ _ _ h => h) (Or.inr ⟨by rfl, rfl⟩) hS ?_
            try simp only [List.getElem_toArray, List.getElem_cons_succ, List.getElem_cons_zero, Act.put, List.setIfInBounds_toArray, List.set]
            refine up_take (i := 19) (v := .bool true) rfl (by kernel_rfl) (by kernel_rfl) (fun _ _ _ h => h) (Or.inl ⟨by rfl, ?_⟩) hS ?_
            · intro w' _; go_simp
            try simp only [List.getElem_toArray, List.getElem_cons_succ, List.getElem_cons_zero, Act.put, List.setIfInBounds_toArray, List.set]
            refine up_take (i := 20) (v := .bool true) rfl (by kernel_rfl) (by kernel_rfl) (fun _ _ _ h => h) (Or.inl ⟨by rfl, ?_⟩) hS ?_
            · intro w' _; go_simp
            try simp only [List.getElem_toArray, List.getElem_cons_succ, List.getElem_cons_zero, Act.put, List.setIfInBounds_toArray, List.set]
            refine up_tail ?_
            refine up_last 21 _ rfl (by kernel_rfl) (by decide) (by rfl) (fun K hK => ?_)
            go_simp
            refine hK _ _ ?_
            clear hK K
            try simp only [List.getElem_toArray, List.getElem_cons_succ, List.getElem_cons_zero, Act.put, List.setIfInBounds_toArray, List.set]
            refine up_last 22 _ rfl (by kernel_rfl) (by decide) (by rfl) (fun K hK => ?_)
            go_simp
            refine hK _ _ ?_
            clear hK K
            try simp only [List.getElem_toArray, List.getElem_cons_succ, List.getElem_cons_zero, Act.put, List.setIfInBounds_toArray, List.set]
            refine up_done (by kernel_rfl) ?_ _
            have hs5 : (wd.setCell ⟨q + 1, k, none⟩ (.bool true)).heap[q + 1]? = some (.cells ((someV sm k).set k (.bool true)).toArray 63 (0, 0)) := by
              rw [heap_setCell_same wd (q + 1) k _ _ _ ((hS.block (q + 1) hsl).trans HSm.out)]; simp
            have hset : ∀ i, i ≠ q + 1 → (wd.setCell ⟨q + 1, k, none⟩ (.bool true)).heap[i]? = wd.heap[i]? := fun i hi => Below.heap_setCell wd ⟨q + 1, k, none⟩ _ i hi
            have hx5 := (hset w.heap.size (by omega)).trans ((hS.block w.heap.size (by omega)).trans HX.out)
            have hy5 := (hset (w.heap.size + 1) (by omega)).trans ((hS.block (w.heap.size + 1) (by omega)).trans HY.out)
            have hz5 := (hset (w.heap.size + 1 + 1) (by omega)).trans ((hS.block (w.heap.size + 1 + 1) (by omega)).trans HZ.out)
            have hq5 := (hset q (by omega)).trans ((hS.block q hql).trans HQ.out)
            have hb5 := (HB.out.trans (hS.mono (by omega))).setCell (p := ⟨q + 1, k, none⟩) (show w.heap.size ≤ q + 1 by omega) (.bool true)
            clear fz cz hset hS hwd
            generalize wd.setCell ⟨q + 1, k, none⟩ (.bool true) = w5 at hs5 hx5 hy5 hz5 hq5 hb5 ⊢
            have HX5 := Lib.hid hx5; have HY5 := Lib.hid hy5; have HZ5 := Lib.hid hz5; have HQ5 := Lib.hid hq5; have HB5 := Lib.hid hb5; have HS5 := Lib.hid hs5
            have fs5 : w5.frozen? ⟨q + 1, k, none⟩ = false := by simp [World.frozen?, hs5]
            have cs5 : w5.cell? ⟨q + 1, k, none⟩ = some (.bool true) := by rw [cell_of_row w5 (q + 1) k _ _ _ hs5, List.getElem?_toArray]; exact List.getElem?_set_self (by rw [someV_len]; exact hlt)
            clear hx5 hy5 hz5 hq5 hb5 hs5 ck cs fs co
            have hsm : sm (k : Int) = true := by
              rw [← Hsm.out]; unfold smP; rw [show keyL l (k : Int) = kk from Hkk.out]; simp [Hk0.out, Hko.out, Hx0.out]
            have Hsk := Lib.hid hsm
            clear hsm
            go_wp2
            go_roundg (8 - (k + 1))
            case measure => omega
            case rel => exact ⟨k + 1, true, rfl, by omega, by go_num, rfl, Lib.hid (by rw [anyK_next, Hnm.out, Hsk.out]; rfl), HX5, HY5, HZ5, HQ5, Lib.hid (by rw [HS5.out, someV_next sm hlt Hsk.out]), HB5.out⟩
          · have kob : (kk == other) = false := by simpa using ko
            have Hko := Lib.hid ko
            clear ko
            refine wp_region_up 21 (fun W => Below wr.heap.size wr W) (by kernel_rfl) ?_
            have hS : Below wr.heap.size wr (World.drew wr) := (Below.refl _ _).drew
            change upHead _ _ _ _ _ _ _ _ _ (World.drew wr)
            generalize World.drew wr = wd at hS ⊢
            have hwd := hS.size
            have fz : wd.frozen? ⟨q + 1, k, none⟩ = false := (hS.frozen (p := ⟨q + 1, k, none⟩) hsl).trans fs
            obtain ⟨ov, cz⟩ : ∃ x, wd.cell? ⟨q + 1, k, none⟩ = some x := ⟨_, (hS.cell (p := ⟨q + 1, k, none⟩) hsl).trans cs⟩
            refine up_take (i := 0) (v := .int .i64 (k : Int)) rfl (by kernel_rfl) (by kernel_rfl) (fun _ _ _ h => h) (Or.inl ⟨by rfl, ?_⟩) hS ?_
            · intro w' _; go_simp
            try simp only [List.getElem_toArray, List.getElem_cons_succ, List.getElem_cons_zero, Act.put, List.setIfInBounds_toArray, List.set]
            refine up_take (i := 1) (v := .int .i64 (k : Int)) rfl (by kernel_rfl) (by kernel_rfl) (fun _ _ _ h => h) (Or.inl ⟨by rfl, ?_⟩) hS ?_
            · intro w' _; go_simp
            try simp only [List.getElem_toArray, List.getElem_cons_succ, List.getElem_cons_zero, Act.put, List.setIfInBounds_toArray, List.set]
            refine up_take (i := 2) (v := .pointer (some ⟨q, k, none⟩)) rfl (by kernel_rfl) (by kernel_rfl) (fun _ _ _ h => h) (Or.inl ⟨by rfl, ?_⟩) hS ?_
            · intro w' _; go_simp
            try simp only [List.getElem_toArray, List.getElem_cons_succ, List.getElem_cons_zero, Act.put, List.setIfInBounds_toArray, List.set]
            refine up_take (i := 3) (v := .int .u64 kk) rfl (by kernel_rfl) (by kernel_rfl) (fun _ _ _ h => h) (Or.inl ⟨by rfl, ?_⟩) hS ?_
            · intro W hW; have e1 := (hW.cell (p := ⟨q, k, none⟩) hql).trans ck; go_simp
            try simp only [List.getElem_toArray, List.getElem_cons_succ, List.getElem_cons_zero, Act.put, List.setIfInBounds_toArray, List.set]
            refine up_take (i := 4) (v := .bool true) rfl (by kernel_rfl) (by kernel_rfl) (fun _ _ _ h => h) (Or.inl ⟨by rfl, ?_⟩) hS ?_
            · intro w' _; go_simp
            try simp only [List.getElem_toArray, List.getElem_cons_succ, List.getElem_cons_zero, Act.put, List.setIfInBounds_toArray, List.set]
            refine up_take (i := 5) (v := .bool true) rfl (by kernel_rfl) (by kernel_rfl) (fun _ _ _ h => h) (Or.inl ⟨by rfl, ?_⟩) hS ?_
            · intro w' _; go_simp
            try simp only [List.getElem_toArray, List.getElem_cons_succ, List.getElem_cons_zero, Act.put, List.setIfInBounds_toArray, List.set]
            refine up_take (i := 6) (v := .int .i64 (k : Int)) rfl (by kernel_rfl) (by kernel_rfl) (fun _ _ _ h => h) (Or.inl ⟨by rfl, ?_⟩) hS ?_
            · intro w' _; go_simp
            try simp only [List.getElem_toArray, List.getElem_cons_succ, List.getElem_cons_zero, Act.put, List.setIfInBounds_toArray, List.set]
            refine up_take (i := 7) (v := .pointer (some ⟨q, k, none⟩)) rfl (by kernel_rfl) (by kernel_rfl) (fun _ _ _ h => h) (Or.inl ⟨by rfl, ?_⟩) hS ?_
            · intro w' _; go_simp
            try simp only [List.getElem_toArray, List.getElem_cons_succ, List.getElem_cons_zero, Act.put, List.setIfInBounds_toArray, List.set]
            refine up_take (i := 8) (v := .int .u64 kk) rfl (by kernel_rfl) (by kernel_rfl) (fun _ _ _ h => h) (Or.inl ⟨by rfl, ?_⟩) hS ?_
            · intro W hW; have e1 := (hW.cell (p := ⟨q, k, none⟩) hql).trans ck; go_simp
            try simp only [List.getElem_toArray, List.getElem_cons_succ, List.getElem_cons_zero, Act.put, List.setIfInBounds_toArray, List.set]
            refine up_take (i := 9) (v := .pointer (some ⟨w.heap.size + 1, 3, none⟩)) rfl (by kernel_rfl) (by kernel_rfl) (fun _ _ _ h => h) (Or.inl ⟨by rfl, ?_⟩) hS ?_
            · intro w' _; go_simp
            try simp only [List.getElem_toArray, List.getElem_cons_succ, List.getElem_cons_zero, Act.put, List.setIfInBounds_toArray, List.set]
            refine up_take (i := 10) (v := .int .u64 other) rfl (by kernel_rfl) (by kernel_rfl) (fun _ _ _ h => h) (Or.inl ⟨by rfl, ?_⟩) hS ?_
            · intro W hW; have e1 := (hW.cell (p := ⟨w.heap.size + 1, 3, none⟩) hol).trans co; go_simp
            try simp only [List.getElem_toArray, List.getElem_cons_succ, List.getElem_cons_zero, Act.put, List.setIfInBounds_toArray, List.set]
            refine up_take (i := 11) (v := .bool false) rfl (by kernel_rfl) (by kernel_rfl) (fun _ _ _ h => h) (Or.inl ⟨by rfl, ?_⟩) hS ?_
            · intro w' _; go_simp
            try simp only [List.getElem_toArray, List.getElem_cons_succ, List.getElem_cons_zero, Act.put, List.setIfInBounds_toArray, List.set]
            refine up_take (i := 12) (v := .bool false) rfl (by kernel_rfl) (by kernel_rfl) (fun _ _ _ h => h) (Or.inl ⟨by rfl, ?_⟩) hS ?_
            · intro w' _; go_simp
            try simp only [List.getElem_toArray, List.getElem_cons_succ, List.getElem_cons_zero, Act.put, List.setIfInBounds_toArray, List.set]
            refine up_take (i := 13) (v := .bool false) rfl (by kernel_rfl) (by kernel_rfl) (fun _ _ _ h => h) (Or.inl ⟨by rfl, ?_⟩) hS ?_
            · intro w' _; go_simp
            try simp only [List.getElem_toArray, List.getElem_cons_succ, List.getElem_cons_zero, Act.put, List.setIfInBounds_toArray, List.set]
            refine up_take (i := 14) (v := .bool false) rfl (by kernel_rfl) (by kernel_rfl) (fun _ _ _ h => h) (Or.inl ⟨by rfl, ?_⟩) hS ?_
            · intro w' _; go_simp
            try simp only [List.getElem_toArray, List.getElem_cons_succ, List.getElem_cons_zero, Act.put, List.setIfInBounds_toArray, List.set]
            refine up_take (i := 15) (v := undef) rfl (by kernel_rfl) (by kernel_rfl) (fun _ _ _ h => h) (Or.inr ⟨by rfl, rfl⟩) hS ?_
            try simp only [List.getElem_toArray, List.getElem_cons_succ, List.getElem_cons_zero, Act.put, List.setIfInBounds_toArray, List.set]
            refine up_take (i := 16) (v := undef) rfl (by kernel_rfl) (by kernel_rfl) (fun _ _ _ h => h) (Or.inr ⟨by rfl, rfl⟩) hS ?_
            try simp only [List.getElem_toArray, List.getElem_cons_succ, List.getElem_cons_zero, Act.put, List.setIfInBounds_toArray, List.set]
            refine up_take (i := 17) (v := undef) rfl (by kernel_rfl) (by kernel_rfl) (fun _ _ _ h => h) (Or.inr ⟨by rfl, rfl⟩) hS ?_
            try simp only [List.getElem_toArray, List.getElem_cons_succ, List.getElem_cons_zero, Act.put, List.setIfInBounds_toArray, List.set]
            refine up_take (i := 18) (v := .bool false) rfl (by kernel_rfl) (by kernel_rfl) (fun _ _ _ h => h) (Or.inl ⟨by rfl, ?_⟩) hS ?_
            · intro w' _; go_simp
            try simp only [List.getElem_toArray, List.getElem_cons_succ, List.getElem_cons_zero, Act.put, List.setIfInBounds_toArray, List.set]
            refine up_take (i := 19) (v := .bool false) rfl (by kernel_rfl) (by kernel_rfl) (fun _ _ _ h => h) (Or.inl ⟨by rfl, ?_⟩) hS ?_
            · intro w' _; go_simp
            try simp only [List.getElem_toArray, List.getElem_cons_succ, List.getElem_cons_zero, Act.put, List.setIfInBounds_toArray, List.set]
            refine up_take (i := 20) (v := .bool false) rfl (by kernel_rfl) (by kernel_rfl) (fun _ _ _ h => h) (Or.inl ⟨by rfl, ?_⟩) hS ?_
            · intro w' _; go_simp
            try simp only [List.getElem_toArray, List.getElem_cons_succ, List.getElem_cons_zero, Act.put, List.setIfInBounds_toArray, List.set]
            refine up_tail ?_
            refine up_last 21 _ rfl (by kernel_rfl) (by decide) (by rfl) (fun K hK => ?_)
            go_simp
            refine hK _ _ ?_
            clear hK K
            try simp only [List.getElem_toArray, List.getElem_cons_succ, List.getElem_cons_zero, Act.put, List.setIfInBounds_toArray, List.set]
            refine up_last 22 _ rfl (by kernel_rfl) (by decide) (by rfl) (fun K hK => ?_)
            go_simp
            refine hK _ _ ?_
            clear hK K
            try simp only [List.getElem_toArray, List.getElem_cons_succ, List.getElem_cons_zero, Act.put, List.setIfInBounds_toArray, List.set]
            refine up_done (by kernel_rfl) ?_ _
            have hs5 : (wd.setCell ⟨q + 1, k, none⟩ (.bool false)).heap[q + 1]? = some (.cells ((someV sm k).set k (.bool false)).toArray 63 (0, 0)) := by
              rw [heap_setCell_same wd (q + 1) k _ _ _ ((hS.block (q + 1) hsl).trans HSm.out)]; simp
            have hset : ∀ i, i ≠ q + 1 → (wd.setCell ⟨q + 1, k, none⟩ (.bool false)).heap[i]? = wd.heap[i]? := fun i hi => Below.heap_setCell wd ⟨q + 1, k, none⟩ _ i hi
            have hx5 := (hset w.heap.size (by omega)).trans ((hS.block w.heap.size (by omega)).trans HX.out)
            have hy5 := (hset (w.heap.size + 1) (by omega)).trans ((hS.block (w.heap.size + 1) (by omega)).trans HY.out)
            have hz5 := (hset (w.heap.size + 1 + 1) (by omega)).trans ((hS.block (w.heap.size + 1 + 1) (by omega)).trans HZ.out)
            have hq5 := (hset q (by omega)).trans ((hS.block q hql).trans HQ.out)
            have hb5 := (HB.out.trans (hS.mono (by omega))).setCell (p := ⟨q + 1, k, none⟩) (show w.heap.size ≤ q + 1 by omega) (.bool false)
            clear fz cz hset hS hwd
            generalize wd.setCell ⟨q + 1, k, none⟩ (.bool false) = w5 at hs5 hx5 hy5 hz5 hq5 hb5 ⊢
            have HX5 := Lib.hid hx5; have HY5 := Lib.hid hy5; have HZ5 := Lib.hid hz5; have HQ5 := Lib.hid hq5; have HB5 := Lib.hid hb5; have HS5 := Lib.hid hs5
            have fs5 : w5.frozen? ⟨q + 1, k, none⟩ = false := by simp [World.frozen?, hs5]
            have cs5 : w5.cell? ⟨q + 1, k, none⟩ = some (.bool false) := by rw [cell_of_row w5 (q + 1) k _ _ _ hs5, List.getElem?_toArray]; exact List.getElem?_set_self (by rw [someV_len]; exact hlt)
            clear hx5 hy5 hz5 hq5 hb5 hs5 ck cs fs co
            have hsm : sm (k : Int) = false := by
              rw [← Hsm.out]; unfold smP; rw [show keyL l (k : Int) = kk from Hkk.out]; simp [Hk0.out, Hko.out, Hx0.out]
            have Hsk := Lib.hid hsm
            clear hsm
            go_wp2
            go_roundg (8 - (k + 1))
            case measure => omega
            case rel => exact ⟨k + 1, false, rfl, by omega, by go_num, rfl, Lib.hid (by rw [anyK_next, Hnm.out, Hsk.out]; rfl), HX5, HY5, HZ5, HQ5, Lib.hid (by rw [HS5.out, someV_next sm hlt Hsk.out]), HB5.out⟩
      | true =>
        by_cases k0 : kk = 0
        · have k0b : (kk == 0) = true := by simpa using k0
          have k0n : (kk != 0) = false := by simpa using k0
          have Hk0 := Lib.hid k0
          clear k0
          refine wp_region_up 21 (fun W => Below wr.heap.size wr W) (by kernel_rfl) ?_
          have hS : Below wr.heap.size wr (World.drew wr) := (Below.refl _ _).drew
          change upHead _ _ _ _ _ _ _ _ _ (World.drew wr)
          generalize World.drew wr = wd at hS ⊢
          have hwd := hS.size
          have fz : wd.frozen? ⟨q + 1, k, none⟩ = false := (hS.frozen (p := ⟨q + 1, k, none⟩) hsl).trans fs
          obtain ⟨ov, cz⟩ : ∃ x, wd.cell? ⟨q + 1, k, none⟩ = some x := ⟨_, (hS.cell (p := ⟨q + 1, k, none⟩) hsl).trans cs⟩
          refine up_take (i := 0) (v := .int .i64 (k : Int)) rfl (by kernel_rfl) (by kernel_rfl) (fun _ _ _ h => h) (Or.inl ⟨by rfl, ?_⟩) hS ?_
          · intro w' _; go_simp
          try simp only [List.getElem_toArray, List.getElem_cons_succ, List.getElem_cons_zero, Act.put, List.setIfInBounds_toArray, List.set]
          refine up_take (i := 1) (v := .int .i64 (k : Int)) rfl (by kernel_rfl) (by kernel_rfl) (fun _ _ _ h => h) (Or.inl ⟨by rfl, ?_⟩) hS ?_
          · intro w' _; go_simp
          try simp only [List.getElem_toArray, List.getElem_cons_succ, List.getElem_cons_zero, Act.put, List.setIfInBounds_toArray, List.set]
          refine up_take (i := 2) (v := .pointer (some ⟨q, k, none⟩)) rfl (by kernel_rfl) (by kernel_rfl) (fun _ _ _ h => h) (Or.inl ⟨by rfl, ?_⟩) hS ?_
          · intro w' _; go_simp
          try simp only [List.getElem_toArray, List.getElem_cons_succ, List.getElem_cons_zero, Act.put, List.setIfInBounds_toArray, List.set]
          refine up_take (i := 3) (v := .int .u64 kk) rfl (by kernel_rfl) (by kernel_rfl) (fun _ _ _ h => h) (Or.inl ⟨by rfl, ?_⟩) hS ?_
          · intro W hW; have e1 := (hW.cell (p := ⟨q, k, none⟩) hql).trans ck; go_simp
          try simp only [List.getElem_toArray, List.getElem_cons_succ, List.getElem_cons_zero, Act.put, List.setIfInBounds_toArray, List.set]
          refine up_take (i := 4) (v := .bool false) rfl (by kernel_rfl) (by kernel_rfl) (fun _ _ _ h => h) (Or.inl ⟨by rfl, ?_⟩) hS ?_
          · intro w' _; go_simp
          try simp only [List.getElem_toArray, List.getElem_cons_succ, List.getElem_cons_zero, Act.put, List.setIfInBounds_toArray, List.set]
          refine up_take (i := 5) (v := .bool false) rfl (by kernel_rfl) (by kernel_rfl) (fun _ _ _ h => h) (Or.inl ⟨by rfl, ?_⟩) hS ?_
          · intro w' _; go_simp
          try simp only [List.getElem_toArray, List.getElem_cons_succ, List.getElem_cons_zero, Act.put, List.setIfInBounds_toArray, List.set]
          refine up_take (i := 6) (v := undef) rfl (by kernel_rfl) (by kernel_rfl) (fun _ _ _ h => h) (Or.inr ⟨by rfl, rfl⟩) hS ?_
          try simp only [List.getElem_toArray, List.getElem_cons_succ, List.getElem_cons_zero, Act.put, List.setIfInBounds_toArray, List.set]
          refine up_take (i := 7) (v := undef) rfl (by kernel_rfl) (by kernel_rfl) (fun _ _ _ h => h) (Or.inr ⟨by rfl, rfl⟩) hS ?_
          try simp only [List.getElem_toArray, List.getElem_cons_succ, List.getElem_cons_zero, Act.put, List.setIfInBounds_toArray, List.set]
          refine up_take (i := 8) (v := undef) rfl (by kernel_rfl) (by kernel_rfl) (fun _ _ _ h => h) (Or.inr ⟨by rfl, rfl⟩) hS ?_
          try simp only [List.getElem_toArray, List.getElem_cons_succ, List.getElem_cons_zero, Act.put, List.setIfInBounds_toArray, List.set]
          refine up_take (i := 9) (v := undef) rfl (by kernel_rfl) (by kernel_rfl) (fun _ _ _ h => h) (Or.inr ⟨by rfl, rfl⟩) hS ?_
          try simp only [List.getElem_toArray, List.getElem_cons_succ, List.getElem_cons_zero, Act.put, List.setIfInBounds_toArray, List.set]
          refine up_take (i := 10) (v := undef) rfl (by kernel_rfl) (by kernel_rfl) (fun _ _ _ h => h) (Or.inr ⟨by rfl, rfl⟩) hS ?_
          try simp only [List.getElem_toArray, List.getElem_cons_succ, List.getElem_cons_zero, Act.put, List.setIfInBounds_toArray, List.set]
          refine up_take (i := 11) (v := undef) rfl (by kernel_rfl) (by kernel_rfl) (fun _ _ _ h => h) (Or.inr ⟨by rfl, rfl⟩) hS ?_
          try simp only [List.getElem_toArray, List.getElem_cons_succ, List.getElem_cons_zero, Act.put, List.setIfInBounds_toArray, List.set]
          refine up_take (i := 12) (v := undef) rfl (by kernel_rfl) (by kernel_rfl) (fun _ _ _ h => h) (Or.inr ⟨by rfl, rfl⟩) hS ?_
          try simp only [List.getElem_toArray, List.getElem_cons_succ, List.getElem_cons_zero, Act.put, List.setIfInBounds_toArray, List.set]
          refine up_take (i := 13) (v := undef) rfl (by kernel_rfl) (by kernel_rfl) (fun _ _ _ h => h) (Or.inr ⟨by rfl, rfl⟩) hS ?_
          try simp only [List.getElem_toArray, List.getElem_cons_succ, List.getElem_cons_zero, Act.put, List.setIfInBounds_toArray, List.set]
          refine up_take (i := 14) (v := undef) rfl (by kernel_rfl) (by kernel_rfl) (fun _ _ _ h => h) (Or.inr ⟨by rfl, rfl⟩) hS ?_
          try simp only [List.getElem_toArray, List.getElem_cons_succ, List.getElem_cons_zero, Act.put, List.setIfInBounds_toArray, List.set]
          refine up_take (i := 15) (v := undef) rfl (by kernel_rfl) (by kernel_rfl) (fun _ _ _ h => h) (Or.inr ⟨by rfl, rfl⟩) hS ?_
          try simp only [List.getElem_toArray, List.getElem_cons_succ, List.getElem_cons_zero, Act.put, List.setIfInBounds_toArray, List.set]
          refine up_take (i := 16) (v := undef) rfl (by kernel_rfl) (by kernel_rfl) (fun _ _ _ h => h) (Or.inr ⟨by rfl, rfl⟩) hS ?_
          try simp only [List.getElem_toArray, List.getElem_cons_succ, List.getElem_cons_zero, Act.put, List.setIfInBounds_toArray, List.set]
          refine up_take (i := 17) (v := undef) rfl (by kernel_rfl) (by kernel_rfl) (fun _ _ _ h => h) (Or.inr ⟨by rfl, rfl⟩) hS ?_
          try simp only [List.getElem_toArray, List.getElem_cons_succ, List.getElem_cons_zero, Act.put, List.setIfInBounds_toArray, List.set]
          refine up_take (i := 18) (v := undef) rfl (by kernel_rfl) (by kernel_rfl) (fun _ _ _ h => h) (Or.inr ⟨by rfl, rfl⟩) hS ?_
          try simp only [List.getElem_toArray, List.getElem_cons_succ, List.getElem_cons_zero, Act.put, List.setIfInBounds_toArray, List.set]
          refine up_take (i := 19) (v := undef) rfl (by kernel_rfl) (by kernel_rfl) (fun _ _ _ h => h) (Or.inr ⟨by rfl, rfl⟩) hS ?_
          try simp only [List.getElem_toArray, List.getElem_cons_succ, List.getElem_cons_zero, Act.put, List.setIfInBounds_toArray, List.set]
          refine up_take (i := 20) (v := .bool false) rfl (by kernel_rfl) (by kernel_rfl) (fun _ _ _ h => h) (Or.inl ⟨by rfl, ?_⟩) hS ?_
          · intro w' _; go_simp
          try simp only [List.getElem_toArray, List.getElem_cons_succ, List.getElem_cons_zero, Act.put, List.setIfInBounds_toArray, List.set]
          refine up_tail ?_
          refine up_last 21 _ rfl (by kernel_rfl) (by decide) (by rfl) (fun K hK => ?_)
          go_simp
          refine hK _ _ ?_
          clear hK K
          try simp only [List.getElem_toArray, List.getElem_cons_succ, List.getElem_cons_zero, Act.put, List.setIfInBounds_toArray, List.set]
          refine up_last 22 _ rfl (by kernel_rfl) (by decide) (by rfl) (fun K hK => ?_)
          go_simp
          refine hK _ _ ?_
          clear hK K
          try simp only [List.getElem_toArray, List.getElem_cons_succ, List.getElem_cons_zero, Act.put, List.setIfInBounds_toArray, List.set]
          refine up_done (by kernel_rfl) ?_ _
          have hs5 : (wd.setCell ⟨q + 1, k, none⟩ (.bool false)).heap[q + 1]? = some (.cells ((someV sm k).set k (.bool false)).toArray 63 (0, 0)) := by
            rw [heap_setCell_same wd (q + 1) k _ _ _ ((hS.block (q + 1) hsl).trans HSm.out)]; simp
          have hset : ∀ i, i ≠ q + 1 → (wd.setCell ⟨q + 1, k, none⟩ (.bool false)).heap[i]? = wd.heap[i]? := fun i hi => Below.heap_setCell wd ⟨q + 1, k, none⟩ _ i hi
          have hx5 := (hset w.heap.size (by omega)).trans ((hS.block w.heap.size (by omega)).trans HX.out)
          have hy5 := (hset (w.heap.size + 1) (by omega)).trans ((hS.block (w.heap.size + 1) (by omega)).trans HY.out)
          have hz5 := (hset (w.heap.size + 1 + 1) (by omega)).trans ((hS.block (w.heap.size + 1 + 1) (by omega)).trans HZ.out)
          have hq5 := (hset q (by omega)).trans ((hS.block q hql).trans HQ.out)
          have hb5 := (HB.out.trans (hS.mono (by omega))).setCell (p := ⟨q + 1, k, none⟩) (show w.heap.size ≤ q + 1 by omega) (.bool false)
          clear fz cz hset hS hwd
          generalize wd.setCell ⟨q + 1, k, none⟩ (.bool false) = w5 at hs5 hx5 hy5 hz5 hq5 hb5 ⊢
          have HX5 := Lib.hid hx5; have HY5 := Lib.hid hy5; have HZ5 := Lib.hid hz5; have HQ5 := Lib.hid hq5; have HB5 := Lib.hid hb5; have HS5 := Lib.hid hs5
          have fs5 : w5.frozen? ⟨q + 1, k, none⟩ = false := by simp [World.frozen?, hs5]
          have cs5 : w5.cell? ⟨q + 1, k, none⟩ = some (.bool false) := by rw [cell_of_row w5 (q + 1) k _ _ _ hs5, List.getElem?_toArray]; exact List.getElem?_set_self (by rw [someV_len]; exact hlt)
          clear hx5 hy5 hz5 hq5 hb5 hs5 ck cs fs co
          have hsm : sm (k : Int) = false := by
            rw [← Hsm.out]; unfold smP; rw [show keyL l (k : Int) = kk from Hkk.out]; simp [Hk0.out]
          have Hsk := Lib.hid hsm
          clear hsm
          go_wp2
          go_roundg (8 - (k + 1))
          case measure => omega
          case rel => exact ⟨k + 1, true, rfl, by omega, by go_num, rfl, Lib.hid (by rw [anyK_next, Hnm.out, Hsk.out]; rfl), HX5, HY5, HZ5, HQ5, Lib.hid (by rw [HS5.out, someV_next sm hlt Hsk.out]), HB5.out⟩
        · have k0b : (kk == 0) = false := by simpa using k0
          have k0n : (kk != 0) = true := by simpa using k0
          have Hk0 := Lib.hid k0
          clear k0
          by_cases ko : kk = other
          · have kob : (kk == other) = true := by simpa using ko
            have Hko := Lib.hid ko
            clear ko
            refine wp_region_up 21 (fun W => Below wr.heap.size wr W) (by kernel_rfl) ?_
            have hS : Below wr.heap.size wr (World.drew wr) := (Below.refl _ _).drew
            change upHead _ _ _ _ _ _ _ _ _ (World.drew wr)
            generalize World.drew wr = wd at hS ⊢
            have hwd := hS.size
            have fz : wd.frozen? ⟨q + 1, k, none⟩ = false := (hS.frozen (p := ⟨q + 1, k, none⟩) hsl).trans fs
            obtain ⟨ov, cz⟩ : ∃ x, wd.cell? ⟨q + 1, k, none⟩ = some x := ⟨_, (hS.cell (p := ⟨q + 1, k, none⟩) hsl).trans cs⟩
            refine up_take (i := 0) (v := .int .i64 (k : Int)) rfl (by kernel_rfl) (by kernel_rfl) (fun _ _ _ h => h) (Or.inl ⟨by rfl, ?_⟩) hS ?_
            · intro w' _; go_simp
            try simp only [List.getElem_toArray, List.getElem_cons_succ, List.getElem_cons_zero, Act.put, List.setIfInBounds_toArray, List.set]
            refine up_take (i := 1) (v := .int .i64 (k : Int)) rfl (by kernel_rfl) (by kernel_rfl) (fun _ _ _ h => h) (Or.inl ⟨by rfl, ?_⟩) hS ?_
            · intro w' _; go_simp
            try simp only [List.getElem_toArray, List.getElem_cons_succ, List.getElem_cons_zero, Act.put, List.setIfInBounds_toArray, List.set]
            refine up_take (i := 2) (v := .pointer (some ⟨q, k, none⟩)) rfl (by kernel_rfl) (by kernel_rfl) (fun _ _ _ h => h) (Or.inl ⟨by rfl, ?_⟩) hS ?_
            · intro w' _; go_simp
            try simp only [List.getElem_toArray, List.getElem_cons_succ, List.getElem_cons_zero, Act.put, List.setIfInBounds_toArray, List.set]
            refine up_take (i := 3) (v := .int .u64 kk) rfl (by kernel_rfl) (by kernel_rfl) (fun _ _ _ h => h) (Or.inl ⟨by rfl, ?_⟩) hS ?_
            · intro W hW; have e1 := (hW.cell (p := ⟨q, k, none⟩) hql).trans ck; go_simp
            try simp only [List.getElem_toArray, List.getElem_cons_succ, List.getElem_cons_zero, Act.put, List.setIfInBounds_toArray, List.set]
            refine up_take (i := 4) (v := .bool true) rfl (by kernel_rfl) (by kernel_rfl) (fun _ _ _ h => h) (Or.inl ⟨by rfl, ?_⟩) hS ?_
            · intro w' _; go_simp
            try simp only [List.getElem_toArray, List.getElem_cons_succ, List.getElem_cons_zero, Act.put, List.setIfInBounds_toArray, List.set]
            refine up_take (i := 5) (v := .bool true) rfl (by kernel_rfl) (by kernel_rfl) (fun _ _ _ h => h) (Or.inl ⟨by rfl, ?_⟩) hS ?_
            · intro w' _; go_simp
            try simp only [List.getElem_toArray, List.getElem_cons_succ, List.getElem_cons_zero, Act.put, List.setIfInBounds_toArray, List.set]
            refine up_take (i := 6) (v := .int .i64 (k : Int)) rfl (by kernel_rfl) (by kernel_rfl) (fun _ _ _ h => h) (Or.inl ⟨by rfl, ?_⟩) hS ?_
            · intro w' _; go_simp
            try simp only [List.getElem_toArray, List.getElem_cons_succ, List.getElem_cons_zero, Act.put, List.setIfInBounds_toArray, List.set]
            refine up_take (i := 7) (v := .pointer (some ⟨q, k, none⟩)) rfl (by kernel_rfl) (by kernel_rfl) (fun _ _ _ h => h) (Or.inl ⟨by rfl, ?_⟩) hS ?_
            · intro w' _; go_simp
            try simp only [List.getElem_toArray, List.getElem_cons_succ, List.getElem_cons_zero, Act.put, List.setIfInBounds_toArray, List.set]
            refine up_take (i := 8) (v := .int .u64 kk) rfl (by kernel_rfl) (by kernel_rfl) (fun _ _ _ h => h) (Or.inl ⟨by rfl, ?_⟩) hS ?_
            · intro W hW; have e1 := (hW.cell (p := ⟨q, k, none⟩) hql).trans ck; go_simp
            try simp only [List.getElem_toArray, List.getElem_cons_succ, List.getElem_cons_zero, Act.put, List.setIfInBounds_toArray, List.set]
            refine up_take (i := 9) (v := .pointer (some ⟨w.heap.size + 1, 3, none⟩)) rfl (by kernel_rfl) (by kernel_rfl) (fun _ _ _ h => h) (Or.inl ⟨by rfl, ?_⟩) hS ?_
            · intro w' _; go_simp
            try simp only [List.getElem_toArray, List.getElem_cons_succ, List.getElem_cons_zero, Act.put, List.setIfInBounds_toArray, List.set]
            refine up_take (i := 10) (v := .int .u64 other) rfl (by kernel_rfl) (by kernel_rfl) (fun _ _ _ h => h) (Or.inl ⟨by rfl, ?_⟩) hS ?_
            · intro W hW; have e1 := (hW.cell (p := ⟨w.heap.size + 1, 3, none⟩) hol).trans co; go_simp
            try simp only [List.getElem_toArray, List.getElem_cons_succ, List.getElem_cons_zero, Act.put, List.setIfInBounds_toArray, List.set]
            refine up_take (i := 11) (v := .bool true) rfl (by kernel_rfl) (by kernel_rfl) (fun _ _ _ h => h) (Or.inl ⟨by rfl, ?_⟩) hS ?_
            · intro w' _; go_simp
            try simp only [List.getElem_toArray, List.getElem_cons_succ, List.getElem_cons_zero, Act.put, List.setIfInBounds_toArray, List.set]
            refine up_take (i := 12) (v := .bool true) rfl (by kernel_rfl) (by kernel_rfl) (fun _ _ _ h => h) (Or.inl ⟨by rfl, ?_⟩) hS ?_
            · intro w' _; go_simp
            try simp only [List.getElem_toArray, List.getElem_cons_succ, List.getElem_cons_zero, Act.put, List.setIfInBounds_toArray, List.set]
            refine up_take (i := 13) (v := undef) rfl (by kernel_rfl) (by kernel_rfl) (fun _ _ _ h => h) (Or.inr ⟨by rfl, rfl⟩) hS ?_
            try simp only [List.getElem_toArray, List.getElem_cons_succ, List.getElem_cons_zero, Act.put, List.setIfInBounds_toArray, List.set]
            refine up_take (i := 14) (v := undef) rfl (by kernel_rfl) (by kernel_rfl) (fun _ _ _ h => h) (Or.inr ⟨by rfl, rfl⟩) hS ?_
            try simp only [List.getElem_toArray, List.getElem_cons_succ, List.getElem_cons_zero, Act.put, List.setIfInBounds_toArray, List.set]
            refine up_take (i := 15) (v := undef) rfl (by kernel_rfl) (by kernel_rfl) (fun _ _ _ h => h) (Or.inr ⟨by rfl, rfl⟩) hS ?_
            try simp only [List.getElem_toArray, List.getElem_cons_succ, List.getElem_cons_zero, Act.put, List.setIfInBounds_toArray, List.set]
            refine up_take (i := 16) (v := undef) rfl (by kernel_rfl) (by kernel_rfl) (fun _ _ _ h => h) (Or.inr ⟨by rfl, rfl⟩) hS ?_
            try simp only [List.getElem_toArray, List.getElem_cons_succ, List.getElem_cons_zero, Act.put, List.setIfInBounds_toArray, List.set]
            refine up_take (i := 17) (v := undef) rfl (by kernel_rfl) (by kernel_rfl) (fun _ _ _ h => h) (Or.inr ⟨by rfl, rfl⟩) hS ?_
            try simp only [List.getElem_toArray, List.getElem_cons_succ, List.getElem_cons_zero, Act.put, List.setIfInBounds_toArray, List.set]
            refine up_take (i := 18) (v := undef) rfl (by kernel_rfl) (by kernel_rfl) (fun _ _ _ h => h) (Or.inr ⟨by rfl, rfl⟩) hS ?_
            try simp only [List.getElem_toArray, List.getElem_cons_succ, List.getElem_cons_zero, Act.put, List.setIfInBounds_toArray, List.set]
            refine up_take (i := 19) (v := .bool true) rfl (by kernel_rfl) (by kernel_rfl) (fun _ _ _ h => h) (Or.inl ⟨by rfl, ?_⟩) hS ?_
            · intro w' _; go_simp
            try simp only [List.getElem_toArray, List.getElem_cons_succ, List.getElem_cons_zero, Act.put, List.setIfInBounds_toArray, List.set]
            refine up_take (i := 20) (v := .bool true) rfl (by kernel_rfl) (by kernel_rfl) (fun _ _ _ h => h) (Or.inl ⟨by rfl, ?_⟩) hS ?_
            · intro w' _; go_simp
            try simp only [List.getElem_toArray, List.getElem_cons_succ, List.getElem_cons_zero, Act.put, List.setIfInBounds_toArray, List.set]
            refine up_tail ?_
            refine up_last 21 _ rfl (by kernel_rfl) (by decide) (by rfl) (fun K hK => ?_)
            go_simp
            refine hK _ _ ?_
            clear hK K
            try simp only [List.getElem_toArray, List.getElem_cons_succ, List.getElem_cons_zero, Act.put, List.setIfInBounds_toArray, List.set]
            refine up_last 22 _ rfl (by kernel_rfl) (by decide) (by rfl) (fun K hK => ?_)
            go_simp
            refine hK _ _ ?_
            clear hK K
            try simp only [List.getElem_toArray, List.getElem_cons_succ, List.getElem_cons_zero, Act.put, List.setIfInBounds_toArray, List.set]
            refine up_done (by kernel_rfl) ?_ _
            have hs5 : (wd.setCell ⟨q + 1, k, none⟩ (.bool true)).heap[q + 1]? = some (.cells ((someV sm k).set k (.bool true)).toArray 63 (0, 0)) := by
              rw [heap_setCell_same wd (q + 1) k _ _ _ ((hS.block (q + 1) hsl).trans HSm.out)]; simp
            have hset : ∀ i, i ≠ q + 1 → (wd.setCell ⟨q + 1, k, none⟩ (.bool true)).heap[i]? = wd.heap[i]? := fun i hi => Below.heap_setCell wd ⟨q + 1, k, none⟩ _ i hi
            have hx5 := (hset w.heap.size (by omega)).trans ((hS.block w.heap.size (by omega)).trans HX.out)
            have hy5 := (hset (w.heap.size + 1) (by omega)).trans ((hS.block (w.heap.size + 1) (by omega)).trans HY.out)
            have hz5 := (hset (w.heap.size + 1 + 1) (by omega)).trans ((hS.block (w.heap.size + 1 + 1) (by omega)).trans HZ.out)
            have hq5 := (hset q (by omega)).trans ((hS.block q hql).trans HQ.out)
            have hb5 := (HB.out.trans (hS.mono (by omega))).setCell (p := ⟨q + 1, k, none⟩) (show w.heap.size ≤ q + 1 by omega) (.bool true)
            clear fz cz hset hS hwd
            generalize wd.setCell ⟨q + 1, k, none⟩ (.bool true) = w5 at hs5 hx5 hy5 hz5 hq5 hb5 ⊢
            have HX5 := Lib.hid hx5; have HY5 := Lib.hid hy5; have HZ5 := Lib.hid hz5; have HQ5 := Lib.hid hq5; have HB5 := Lib.hid hb5; have HS5 := Lib.hid hs5
            have fs5 : w5.frozen? ⟨q + 1, k, none⟩ = false := by simp [World.frozen?, hs5]
            have cs5 : w5.cell? ⟨q + 1, k, none⟩ = some (.bool true) := by rw [cell_of_row w5 (q + 1) k _ _ _ hs5, List.getElem?_toArray]; exact List.getElem?_set_self (by rw [someV_len]; exact hlt)
            clear hx5 hy5 hz5 hq5 hb5 hs5 ck cs fs co
            have hsm : sm (k : Int) = true := by
              rw [← Hsm.out]; unfold smP; rw [show keyL l (k : Int) = kk from Hkk.out]; simp [Hk0.out, Hko.out, Hx0.out]
            have Hsk := Lib.hid hsm
            clear hsm
            go_wp2
            go_roundg (8 - (k + 1))
            case measure => omega
            case rel => exact ⟨k + 1, true, rfl, by omega, by go_num, rfl, Lib.hid (by rw [anyK_next, Hnm.out, Hsk.out]; rfl), HX5, HY5, HZ5, HQ5, Lib.hid (by rw [HS5.out, someV_next sm hlt Hsk.out]), HB5.out⟩
          · have kob : (kk == other) = false := by simpa using ko
            have Hko := Lib.hid ko
            clear ko
            refine wp_region_up 21 (fun W => Below wr.heap.size wr W) (by kernel_rfl) ?_
            have hS : Below wr.heap.size wr (World.drew wr) := (Below.refl _ _).drew
            change upHead _ _ _ _ _ _ _ _ _ (World.drew wr)
            generalize World.drew wr = wd at hS ⊢
            have hwd := hS.size
            have fz : wd.frozen? ⟨q + 1, k, none⟩ = false := (hS.frozen (p := ⟨q + 1, k, none⟩) hsl).trans fs
            obtain ⟨ov, cz⟩ : ∃ x, wd.cell? ⟨q + 1, k, none⟩ = some x := ⟨_, (hS.cell (p := ⟨q + 1, k, none⟩) hsl).trans cs⟩
            refine up_take (i := 0) (v := .int .i64 (k : Int)) rfl (by kernel_rfl) (by kernel_rfl) (fun _ _ _ h => h) (Or.inl ⟨by rfl, ?_⟩) hS ?_
            · intro w' _; go_simp
            try simp only [List.getElem_toArray, List.getElem_cons_succ, List.getElem_cons_zero, Act.put, List.setIfInBounds_toArray, List.set]
            refine up_take (i := 1) (v := .int .i64 (k : Int)) rfl (by kernel_rfl) (by kernel_rfl) (fun _ _ _ h => h) (Or.inl ⟨by rfl, ?_⟩) hS ?_
            · intro w' _; go_simp
            try simp only [List.getElem_toArray, List.getElem_cons_succ, List.getElem_cons_zero, Act.put, List.setIfInBounds_toArray, List.set]
            refine up_take (i := 2) (v := .pointer (some ⟨q, k, none⟩)) rfl (by kernel_rfl) (by kernel_rfl) (fun _ _ _ h => h) (Or.inl ⟨by rfl, ?_⟩) hS ?_
            · intro w' _; go_simp
            try simp only [List.getElem_toArray, List.getElem_cons_succ, List.getElem_cons_zero, Act.put, List.setIfInBounds_toArray, List.set]
            refine up_take (i := 3) (v := .int .u64 kk) rfl (by kernel_rfl) (by kernel_rfl) (fun _ _ _ h => h) (Or.inl ⟨by rfl, ?_⟩) hS ?_
            · intro W hW; have e1 := (hW.cell (p := ⟨q, k, none⟩) hql).trans ck; go_simp
            try simp only [List.getElem_toArray, List.getElem_cons_succ, List.getElem_cons_zero, Act.put, List.setIfInBounds_toArray, List.set]
            refine up_take (i := 4) (v := .bool true) rfl (by kernel_rfl) (by kernel_rfl) (fun _ _ _ h => h) (Or.inl ⟨by rfl, ?_⟩) hS ?_
            · intro w' _; go_simp
            try simp only [List.getElem_toArray, List.getElem_cons_succ, List.getElem_cons_zero, Act.put, List.setIfInBounds_toArray, List.set]
            refine up_take (i := 5) (v := .bool true) rfl (by kernel_rfl) (by kernel_rfl) (fun _ _ _ h => h) (Or.inl ⟨by rfl, ?_⟩) hS ?_
            · intro w' _; go_simp
            try simp only [List.getElem_toArray, List.getElem_cons_succ, List.getElem_cons_zero, Act.put, List.setIfInBounds_toArray, List.set]
            refine up_take (i := 6) (v := .int .i64 (k : Int)) rfl (by kernel_rfl) (by kernel_rfl) (fun _ _ _ h => h) (Or.inl ⟨by rfl, ?_⟩) hS ?_
            · intro w' _; go_simp
            try simp only [List.getElem_toArray, List.getElem_cons_succ, List.getElem_cons_zero, Act.put, List.setIfInBounds_toArray, List.set]
            refine up_take (i := 7) (v := .pointer (some ⟨q, k, none⟩)) rfl (by kernel_rfl) (by kernel_rfl) (fun _ _ _ h => h) (Or.inl ⟨by rfl, ?_⟩) hS ?_
            · intro w' _; go_simp
            try simp only [List.getElem_toArray, List.getElem_cons_succ, List.getElem_cons_zero, Act.put, List.setIfInBounds_toArray, List.set]
            refine up_take (i := 8) (v := .int .u64 kk) rfl (by kernel_rfl) (by kernel_rfl) (fun _ _ _ h => h) (Or.inl ⟨by rfl, ?_⟩) hS ?_
            · intro W hW; have e1 := (hW.cell (p := ⟨q, k, none⟩) hql).trans ck; go_simp
            try simp only [List.getElem_toArray, List.getElem_cons_succ, List.getElem_cons_zero, Act.put, List.setIfInBounds_toArray, List.set]
            refine up_take (i := 9) (v := .pointer (some ⟨w.heap.size + 1, 3, none⟩)) rfl (by kernel_rfl) (by kernel_rfl) (fun _ _ _ h => h) (Or.inl ⟨by rfl, ?_⟩) hS ?_
            · intro w' _; go_simp
            try simp only [List.getElem_toArray, List.getElem_cons_succ, List.getElem_cons_zero, Act.put, List.setIfInBounds_toArray, List.set]
            refine up_take (i := 10) (v := .int .u64 other) rfl (by kernel_rfl) (by kernel_rfl) (fun _ _ _ h => h) (Or.inl ⟨by rfl, ?_⟩) hS ?_
            · intro W hW; have e1 := (hW.cell (p := ⟨w.heap.size + 1, 3, none⟩) hol).trans co; go_simp
            try simp only [List.getElem_toArray, List.getElem_cons_succ, List.getElem_cons_zero, Act.put, List.setIfInBounds_toArray, List.set]
            refine up_take (i := 11) (v := .bool false) rfl (by kernel_rfl) (by kernel_rfl) (fun _ _ _ h => h) (Or.inl ⟨by rfl, ?_⟩) hS ?_
            · intro w' _; go_simp
            try simp only [List.getElem_toArray, List.getElem_cons_succ, List.getElem_cons_zero, Act.put, List.setIfInBounds_toArray, List.set]
            refine up_take (i := 12) (v := .bool false) rfl (by kernel_rfl) (by kernel_rfl) (fun _ _ _ h => h) (Or.inl ⟨by rfl, ?_⟩) hS ?_
            · intro w' _; go_simp
            try simp only [List.getElem_toArray, List.getElem_cons_succ, List.getElem_cons_zero, Act.put, List.setIfInBounds_toArray, List.set]
            refine up_take (i := 13) (v := .bool false) rfl (by kernel_rfl) (by kernel_rfl) (fun _ _ _ h => h) (Or.inl ⟨by rfl, ?_⟩) hS ?_
            · intro w' _; go_simp
            try simp only [List.getElem_toArray, List.getElem_cons_succ, List.getElem_cons_zero, Act.put, List.setIfInBounds_toArray, List.set]
            refine up_take (i := 14) (v := .bool false) rfl (by kernel_rfl) (by kernel_rfl) (fun _ _ _ h => h) (Or.inl ⟨by rfl, ?_⟩) hS ?_
            · intro w' _; go_simp
            try simp only [List.getElem_toArray, List.getElem_cons_succ, List.getElem_cons_zero, Act.put, List.setIfInBounds_toArray, List.set]
            refine up_take (i := 15) (v := undef) rfl (by kernel_rfl) (by kernel_rfl) (fun _ _ _ h => h) (Or.inr ⟨by rfl, rfl⟩) hS ?_
            try simp only [List.getElem_toArray, List.getElem_cons_succ, List.getElem_cons_zero, Act.put, List.setIfInBounds_toArray, List.set]
            refine up_take (i := 16) (v := undef) rfl (by kernel_rfl) (by kernel_rfl) (fun _ _ _ h => h) (Or.inr ⟨by rfl, rfl⟩) hS ?_
            try simp only [List.getElem_toArray, List.getElem_cons_succ, List.getElem_cons_zero, Act.put, List.setIfInBounds_toArray, List.set]
            refine up_take (i := 17) (v := undef) rfl (by kernel_rfl) (by kernel_rfl) (fun _ _ _ h => h) (Or.inr ⟨by rfl, rfl⟩) hS ?_
            try simp only [List.getElem_toArray, List.getElem_cons_succ, List.getElem_cons_zero, Act.put, List.setIfInBounds_toArray, List.set]
            refine up_take (i := 18) (v := .bool false) rfl (by kernel_rfl) (by kernel_rfl) (fun _ _ _ h => h) (Or.inl ⟨by rfl, ?_⟩) hS ?_
            · intro w' _; go_simp
            try simp only [List.getElem_toArray, List.getElem_cons_succ, List.getElem_cons_zero, Act.put, List.setIfInBounds_toArray, List.set]
            refine up_take (i := 19) (v := .bool false) rfl (by kernel_rfl) (by kernel_rfl) (fun _ _ _ h => h) (Or.inl ⟨by rfl, ?_⟩) hS ?_
            · intro w' _; go_simp
            try simp only [List.getElem_toArray, List.getElem_cons_succ, List.getElem_cons_zero, Act.put, List.setIfInBounds_toArray, List.set]
            refine up_take (i := 20) (v := .bool false) rfl (by kernel_rfl) (by kernel_rfl) (fun _ _ _ h => h) (Or.inl ⟨by rfl, ?_⟩) hS ?_
            · intro w' _; go_simp
            try simp only [List.getElem_toArray, List.getElem_cons_succ, List.getElem_cons_zero, Act.put, List.setIfInBounds_toArray, List.set]
            refine up_tail ?_
            refine up_last 21 _ rfl (by kernel_rfl) (by decide) (by rfl) (fun K hK => ?_)
            go_simp
            refine hK _ _ ?_
            clear hK K
            try simp only [List.getElem_toArray, List.getElem_cons_succ, List.getElem_cons_zero, Act.put, List.setIfInBounds_toArray, List.set]
            refine up_last 22 _ rfl (by kernel_rfl) (by decide) (by rfl) (fun K hK => ?_)
            go_simp
            refine hK _ _ ?_
            clear hK K
            try simp only [List.getElem_toArray, List.getElem_cons_succ, List.getElem_cons_zero, Act.put, List.setIfInBounds_toArray, List.set]
            refine up_done (by kernel_rfl) ?_ _
            have hs5 : (wd.setCell ⟨q + 1, k, none⟩ (.bool false)).heap[q + 1]? = some (.cells ((someV sm k).set k (.bool false)).toArray 63 (0, 0)) := by
              rw [heap_setCell_same wd (q + 1) k _ _ _ ((hS.block (q + 1) hsl).trans HSm.out)]; simp
            have hset : ∀ i, i ≠ q + 1 → (wd.setCell ⟨q + 1, k, none⟩ (.bool false)).heap[i]? = wd.heap[i]? := fun i hi => Below.heap_setCell wd ⟨q + 1, k, none⟩ _ i hi
            have hx5 := (hset w.heap.size (by omega)).trans ((hS.block w.heap.size (by omega)).trans HX.out)
            have hy5 := (hset (w.heap.size + 1) (by omega)).trans ((hS.block (w.heap.size + 1) (by omega)).trans HY.out)
            have hz5 := (hset (w.heap.size + 1 + 1) (by omega)).trans ((hS.block (w.heap.size + 1 + 1) (by omega)).trans HZ.out)
            have hq5 := (hset q (by omega)).trans ((hS.block q hql).trans HQ.out)
            have hb5 := (HB.out.trans (hS.mono (by omega))).setCell (p := ⟨q + 1, k, none⟩) (show w.heap.size ≤ q + 1 by omega) (.bool false)
            clear fz cz hset hS hwd
            generalize wd.setCell ⟨q + 1, k, none⟩ (.bool false) = w5 at hs5 hx5 hy5 hz5 hq5 hb5 ⊢
            have HX5 := Lib.hid hx5; have HY5 := Lib.hid hy5; have HZ5 := Lib.hid hz5; have HQ5 := Lib.hid hq5; have HB5 := Lib.hid hb5; have HS5 := Lib.hid hs5
            have fs5 : w5.frozen? ⟨q + 1, k, none⟩ = false := by simp [World.frozen?, hs5]
            have cs5 : w5.cell? ⟨q + 1, k, none⟩ = some (.bool false) := by rw [cell_of_row w5 (q + 1) k _ _ _ hs5, List.getElem?_toArray]; exact List.getElem?_set_self (by rw [someV_len]; exact hlt)
            clear hx5 hy5 hz5 hq5 hb5 hs5 ck cs fs co
            have hsm : sm (k : Int) = false := by
              rw [← Hsm.out]; unfold smP; rw [show keyL l (k : Int) = kk from Hkk.out]; simp [Hk0.out, Hko.out, Hx0.out]
            have Hsk := Lib.hid hsm
            clear hsm
            go_wp2
            go_roundg (8 - (k + 1))
            case measure => omega
            case rel => exact ⟨k + 1, true, rfl, by omega, by go_num, rfl, Lib.hid (by rw [anyK_next, Hnm.out, Hsk.out]; rfl), HX5, HY5, HZ5, HQ5, Lib.hid (by rw [HS5.out, someV_next sm hlt Hsk.out]), HB5.out⟩
    · obtain rfl : k = 8 := by omega
      have hltz : ¬ ((8 : Int) < 8) := by omega
      cases nm with
      | false =>
        obtain ⟨xl8, x0_8, x1_8, x2_8, x3_8, x4_8, xf8⟩ := box5 HX.out
        obtain ⟨rl8, r0_8, r1_8, r2_8, r3_8, r4_8, rf8⟩ := box5 HZ.out
        have hany : l.any (namedB false (j : Int) other) = false := by rw [any_smP Hr.out (fun e => absurd e Hx0.out), Hsm.out]; exact Hnm.out
        obtain rfl : R = (⟨g, l, (M : Int), t, p⟩, 24, []) := by
          rw [← HR.out, preL]
          rw [if_neg (fun e => Hx0.out e.1), if_neg (fun e => by rw [show takesB _ _ _ _ = false from Htk.out] at e; cases e.1), if_neg (fun e => by rw [show takesB _ _ _ _ = false from Htk.out] at e; cases e), if_pos hany]
          rfl
        clear HR
        go_wp2
        exact bodyPost_ret (v := .tuple #[.agg #[.int .u32 g, .slice A len cap, .int .i64 (M : Int), .int .i64 t, .bool p], .int .i64 24, .slice none 0 0]) (by simp [results, Try.results35, go_sem, r0_8, r1_8, r2_8, r3_8, r4_8, rl8, xl8]) rfl
          ⟨A, len, cap, .slice none 0 0, rfl, .inl ⟨rfl, rfl, rfl, rfl⟩, OwnI.nil _ _, set5B HB.out (by omega) _ _ _ _ _⟩
      | true =>
        obtain ⟨xl8, x0_8, x1_8, x2_8, x3_8, x4_8, xf8⟩ := box5 HX.out

        have hzl8 := (Array.getElem?_eq_some_iff.1 HZ.out).1
        obtain ⟨bv, Hbv⟩ : ∃ x, Hid ((boolV sm).toArray = x) := ⟨_, Lib.hid rfl⟩
        have hsv := HSm.out
        rw [someV_8, Hbv.out] at hsv
        have hbs : Hid ((Try.prog.info? 63).map (·.size) = some bv.size) := Lib.hid (by rw [← Hbv.out, List.size_toArray, boolV_len]; exact bool8)
        obtain ⟨L, HL⟩ : ∃ x, Hid ((l.filter fun q => !sm q.1) = x) := ⟨_, Lib.hid rfl⟩
        obtain ⟨h', Hh⟩ : ∃ x, Hid (remH L (M : Int) t = x) := ⟨_, Lib.hid rfl⟩
        obtain ⟨t', Ht⟩ : ∃ x, Hid (remT L (M : Int) t = x) := ⟨_, Lib.hid rfl⟩
        obtain ⟨gn, Hgn⟩ : ∃ x, Hid (keepN (j : Int) ((l.filter fun q => sm q.1).map (·.1)) = x) := ⟨_, Lib.hid rfl⟩
        have Kr : Hid (∀ W, Below w.heap.size w W → Calls Try.prog 34 #[.agg #[.int .u32 g, .slice A len cap, .int .i64 (M : Int), .int .i64 t, .bool p], .agg bv, .int .i64 (j : Int)] W (RRemP W g L h' t' p gn)) := Lib.hid fun W hb => by
          rw [← Hbv.out, ← Hgn.out, ← Hh.out, ← Ht.out, ← HL.out]
          exact rremove_any g (M : Int) t p A len cap l W (HS.out.below hb) hm Hso.out sm (j : Int)
        obtain ⟨G, HG⟩ : ∃ G, Hid (nextG g = G) := ⟨_, Lib.hid rfl⟩
        have hwG : IntKind.u32.wrap (g + 1) = G := HG.out
        go_upto_region 18 with (first
          | (refine wpList_load_row rfl 63 _ rfl (q + 1) rfl 63 bv (0, 0) _ hsv Try.underlying63 rfl hbs.out ?_)
          | (go_at_call 34; refine (Kr.out _ HB.out).mono ?_; rintro e w8 ⟨v, u, rfl, ho8, hi8, hb8⟩; obtain ⟨A2, c2, rfl, hs8⟩ := ho8.sl; clear hs8 hsv))
        have hq9 := heap_alloc_new w8 (.cells #[.int .u32 g, .slice A2 L.length c2, .int .i64 h', .int .i64 t', .bool p] 25)
        have hb89 := bel1 w8 (.cells #[.int .u32 g, .slice A2 L.length c2, .int .i64 h', .int .i64 t', .bool p] 25)
        have hz9 := (hb89.block (w.heap.size + 1 + 1) (by have := hb8.size; omega)).trans ((hb8.block (w.heap.size + 1 + 1) hzl8).trans HZ.out)
        have hy9 := (hb89.block (w.heap.size + 1) (by have := hb8.size; omega)).trans ((hb8.block (w.heap.size + 1) hol).trans HY.out)
        have hb9 := stepB (stepB HB.out hb8) hb89
        have ho9 := ho8.below hb89
        have hi9 := hi8.below hb89
        have hqr : w.heap.size + 3 ≤ wr.heap.size := by omega
        have hwr8 := hb8.size
        obtain ⟨r, Hr8⟩ : ∃ r, Hid (w8.heap.size = r) := ⟨_, Lib.hid rfl⟩
        rw [Hr8.out] at hq9 hwr8
        generalize w8.alloc (.cells #[.int .u32 g, .slice A2 L.length c2, .int .i64 h', .int .i64 t', .bool p] 25) = w9 at hq9 hz9 hy9 hb9 ho9 hi9 ⊢
        rw [Hr8.out]
        obtain ⟨ql9, q0_9, q1_9, q2_9, q3_9, q4_9, qf9⟩ := box5 hq9

        go_upto_region 22 with (fail)
        have hq10 : (w9.setCell ⟨r, 0, none⟩ (.int .u32 G)).heap[r]? = some (.cells #[.int .u32 G, .slice A2 L.length c2, .int .i64 h', .int .i64 t', .bool p] 25 (0, 0)) := (heap_setCell_same w9 r 0 _ 25 (.int .u32 G) (hq9)).trans rfl
        have hset : ∀ i, i ≠ r → (w9.setCell ⟨r, 0, none⟩ (.int .u32 G)).heap[i]? = w9.heap[i]? := fun i hi => by rw [Below.heap_setCell w9 ⟨r, 0, none⟩ _ i hi]
        have hz10 := (hset (w.heap.size + 1 + 1) (by omega)).trans hz9
        have hb10 := (hb9).setCell (p := ⟨r, 0, none⟩) (show w.heap.size ≤ r by omega) (.int .u32 G)
        have hne := own_other ho9 hq9 (by decide)
        have hni := own_other hi9 hq9 (by decide)
        have ho10 : OwnR wr.heap.size (w9.setCell ⟨r, 0, none⟩ (.int .u32 G)) (.slice A2 L.length c2) L := ⟨ho9.1, ho9.2.imp id fun ⟨g', cap', cur, h1, h2, h3, h4⟩ => ⟨g', cap', cur, h1, h2, (hset g' (fun e => hne (by rw [h1, e]; rfl))).trans h3, h4⟩⟩
        have hi10 : OwnI wr.heap.size (w9.setCell ⟨r, 0, none⟩ (.int .u32 G)) u gn := ⟨hi9.1, hi9.2.imp id fun ⟨g', cap', cur, h1, h2, h3, h4⟩ => ⟨g', cap', cur, h1, h2, (hset g' (fun e => hni (by rw [h1, e]; rfl))).trans h3, h4⟩⟩
        clear hset hne hni hq9 hz9 hy9 hb9 ho9 hi9 hb89 ql9 q0_9 q1_9 q2_9 q3_9 q4_9 qf9
        generalize (w9.setCell ⟨r, 0, none⟩ (.int .u32 G)) = w10 at hq10 hz10 hb10 ho10 hi10 ⊢
        obtain ⟨ql10, q0_10, q1_10, q2_10, q3_10, q4_10, qf10⟩ := box5 hq10
        obtain ⟨rl10, r0_10, r1_10, r2_10, r3_10, r4_10, rf10⟩ := box5 hz10
        have HB10 := Lib.hid hb10; have HO10 := Lib.hid ho10; have HI10 := Lib.hid hi10
        clear hq10 hz10 hb10 ho10 hi10
        go_wp2
        have hany : l.any (namedB false (j : Int) other) = true := by rw [any_smP Hr.out (fun e => absurd e Hx0.out), Hsm.out]; exact Hnm.out
        obtain rfl : R = (⟨G, L, h', t', p⟩, 0, gn) := by
          rw [← HR.out, preL, if_neg (fun e => Hx0.out e.1), if_neg (fun e => by rw [show takesB _ _ _ _ = false from Htk.out] at e; cases e.1), if_neg (fun e => by rw [show takesB _ _ _ _ = false from Htk.out] at e; cases e), if_neg (fun e => by rw [hany] at e; cases e)]
          unfold refR remTb
          simp only
          rw [gone_smP Hr.out (fun e => absurd e Hx0.out), left_smP Hr.out (fun e => absurd e Hx0.out), Hsm.out, Hgn.out, HG.out, HL.out, Hh.out, Ht.out]
        clear HR
        exact bodyPost_ret (v := .tuple #[.agg #[.int .u32 G, .slice A2 L.length c2, .int .i64 h', .int .i64 t', .bool p], .int .i64 0, u]) (by simp [results, Try.results35, go_sem, r0_10, r1_10, r2_10, r3_10, r4_10, rl10]) rfl
          ⟨A2, _, c2, u, rfl, .inr ((HO10.out.set5 (b := w.heap.size + 1 + 1) (by omega) _ _ _ _ _).lower (by omega)), (HI10.out.set5 (b := w.heap.size + 1 + 1) (by omega) _ _ _ _ _).lower (by omega), set5B HB10.out (by omega) _ _ _ _ _⟩
end Go.Proofs.Ytkpogmigfjmacaa
