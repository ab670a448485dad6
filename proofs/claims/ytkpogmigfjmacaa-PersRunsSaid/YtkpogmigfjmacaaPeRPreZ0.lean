/-
  The document's answer: preempt, of no reservation and no key.
-/
import Derived.Test.YtkpogmigfjmacaaPeRPreM
set_option linter.unusedSimpArgs false
set_option linter.unusedVariables false
namespace Go.Proofs.Ytkpogmigfjmacaa
open Go.RowKit

set_option maxRecDepth 100000 in
set_option maxHeartbeats 16000000 in
theorem rpreempt_Z0 (g h t : Int) (p : Bool) (A : Option Addr) (len cap : Nat) (l : List (Int × Int)) (w : World) (hS : SlR w A len cap l) (hm : len ≤ 6) (hso : soundB l h t = true) (j : Nat) (hj : j < 8) (a ty key other : Int) (ap : Bool) (h0 : t = 0) (hx0 : other = 0) :
    Calls Try.prog 35 #[.agg #[.int .u32 g, .slice A len cap, .int .i64 h, .int .i64 t, .bool p], .int .i64 (j : Int), .agg #[.int .i64 a, .int .i64 ty, .int .u64 key, .int .u64 other, .bool ap]] w (ActP w A len cap l (refR (j : Int) (preL ⟨g, l, h, t, p⟩ (j : Int) ty other))) := by
  have K_h0 := Lib.hid h0
  have K_hx0 := Lib.hid hx0
  clear h0 hx0
  obtain ⟨hs1, hr, hs3⟩ := sound_iff.1 hso
  obtain ⟨pv, Hpv⟩ : ∃ x, Hid ((arrV (keyL l)).toArray = x) := ⟨_, Lib.hid rfl⟩
  have Kk : Hid (∀ W, Below w.heap.size w W → Calls Try.prog 28 #[.agg #[.int .u32 g, .slice A len cap, .int .i64 h, .int .i64 t, .bool p]] W (fun e w' => e = .returned (.agg pv) ∧ Below W.heap.size W w')) :=
    Lib.hid fun W hb => keysP g h t p A len cap l W (hS.below hb) hm hr Hpv.out
  obtain ⟨R, HR⟩ : ∃ x, Hid (refR (j : Int) (preL ⟨g, l, h, t, p⟩ (j : Int) ty other) = x) := ⟨_, Lib.hid rfl⟩
  rw [HR.out]
  obtain ⟨tb, Htb⟩ : ∃ x, Hid (isTyB ty = x) := ⟨_, Lib.hid rfl⟩
  have Ky : Hid (∀ W, Calls Try.prog 27 #[.int .i64 ty] W (fun e w' => e = .returned (.bool tb) ∧ W = w')) := Lib.hid fun W => by rw [← Htb.out]; exact known_any ty W
  have HS := Lib.hid hS; have Hso := Lib.hid hso; have Hr := Lib.hid hr
  clear hS hso hr hs1 hs3
  have hps : Hid ((Try.prog.info? 57).map (·.size) = some pv.size) := Lib.hid (by rw [← Hpv.out, List.size_toArray, arrV_len]; exact info8)
  have hzs : Hid (zeros8.size = pv.size) := Lib.hid (by rw [← Hpv.out]; simp [zeros8, arrV_len])
  have hp1 : Hid (pv.all (·.oneCell') = true) := Lib.hid (by rw [← Hpv.out]; exact cells_one)
  have hpk : Hid (∀ k : Nat, k < 8 → pv[k]? = some (.int .u64 (keyL l (k : Int)))) := Lib.hid fun k hk => by rw [← Hpv.out, List.getElem?_toArray]; exact arrV_at _ hk
  obtain ⟨zn, Hzn⟩ : ∃ zn : Array Value, Hid (zn = zeros8) := ⟨_, Lib.hid rfl⟩
  have hal : ∀ w : World, (Instr.alloc 57 true (.tuple #[])).run Try.prog w = .ok (.pointer (some ⟨w.heap.size, 0, none⟩)) (w.alloc (.cells zn 57)) := by rw [Hzn.out]; exact alloc8
  rw [← Hzn.out] at hzs
  have hjz : (j : Int) < 8 := by omega
  go_enter Try.func35, Try.ntmps35
  go_upto_region 1 with (fail)
  obtain ⟨hx, hy, hz⟩ := heap_alloc3 w (.cells #[.int .u32 g, .slice A len cap, .int .i64 h, .int .i64 t, .bool p] 25) (.cells #[.int .i64 a, .int .i64 ty, .int .u64 key, .int .u64 other, .bool ap] 35) (.cells #[.int .u32 0, .slice none 0 0, .int .i64 0, .int .i64 0, .bool false] 25)
  have hb0 := bel3 w (.cells #[.int .u32 g, .slice A len cap, .int .i64 h, .int .i64 t, .bool p] 25) (.cells #[.int .i64 a, .int .i64 ty, .int .u64 key, .int .u64 other, .bool ap] 35) (.cells #[.int .u32 0, .slice none 0 0, .int .i64 0, .int .i64 0, .bool false] 25)
  try simp only [World.size_alloc]
  generalize ((w.alloc (.cells #[.int .u32 g, .slice A len cap, .int .i64 h, .int .i64 t, .bool p] 25)).alloc (.cells #[.int .i64 a, .int .i64 ty, .int .u64 key, .int .u64 other, .bool ap] 35)).alloc (.cells #[.int .u32 0, .slice none 0 0, .int .i64 0, .int .i64 0, .bool false] 25) = w0 at hx hy hz hb0 ⊢
  obtain ⟨xl0, x0_0, x1_0, x2_0, x3_0, x4_0, xf0⟩ := box5 hx
  go_upto_region 2 with (first
    | (go_at_call 28; refine (Kk.out _ hb0).mono ?_; rintro e w2 ⟨rfl, hb2⟩)
    | (refine wpList_alloc_arr rfl 57 rfl _ hal ?_)
    | (refine wpList_store_new rfl 57 _ _ rfl w2.heap.size rfl pv rfl rfl 57 zn hps.out hzs.out hp1.out ?_))
  have hq3 := heap_alloc_new w2 (.cells pv 57)
  have hb23 := hb2.trans ((bel1 w2 (.cells pv 57)).mono hb2.size)
  have hx3 := (hb23.block w.heap.size (by omega)).trans hx
  have hzl := (Array.getElem?_eq_some_iff.1 hz).1
  have hy3 := (hb23.block (w.heap.size + 1) (by omega)).trans hy
  have hz3 := (hb23.block (w.heap.size + 1 + 1) hzl).trans hz
  have hb3 := stepB hb0 hb23
  have hqb : w.heap.size + 3 ≤ w2.heap.size := by have := hb2.size; omega
  obtain ⟨q, Hq⟩ : ∃ q, Hid (w2.heap.size = q) := ⟨_, Lib.hid rfl⟩
  have hN0 : (w2.alloc (.cells pv 57)).heap.size = q + 1 := by rw [World.size_alloc, Hq.out]
  rw [Hq.out] at hq3 hqb
  generalize w2.alloc (.cells pv 57) = w3 at hq3 hx3 hy3 hz3 hb3 hN0 ⊢
  rw [Hq.out]
  have HX := Lib.hid hx3; have HY := Lib.hid hy3; have HZ := Lib.hid hz3; have HQ := Lib.hid hq3; have HQB := Lib.hid hqb; have HB3 := Lib.hid hb3; have HN0 := Lib.hid hN0
  clear hx hy hz hb0 hb2 hb23 hx3 hy3 hz3 hq3 hb3 hN0 Hq hzl xl0 x0_0 x1_0 x2_0 x3_0 x4_0 xf0 hal hqb hzs hp1 Kk
  have hqb := HQB.out
  clear HQB
  obtain ⟨xl3, x0_3, x1_3, x2_3, x3_3, x4_3, xf3⟩ := box5 HX.out
  obtain ⟨ol3, o0_3, o1_3, o2_3, o3_3, o4_3, of3⟩ := box5 HY.out
  obtain ⟨rl3, r0_3, r1_3, r2_3, r3_3, r4_3, rf3⟩ := box5 HZ.out
  have h0 := K_h0.out
  have hx0 := K_hx0.out
  have Hx0 := Lib.hid hx0
  have x0b : (other == 0) = true := by simpa using hx0
  have x0n : (other != 0) = false := by simpa using hx0
  clear hx0
  have t7 : (t == 7) = false := by simp [h0]
  have t8 : (t == 8) = false := by simp [h0]
  have t0 : (t != 0) = false := by simp [h0]
  have Htk : Hid (takesB l h t other = false) := Lib.hid (by simp [takesB, resB, h0])
  clear h0
  clear K_h0 K_hx0
  go_wp2
  go_quiet (fail)
  have hx4 : (w3.drewN nq).heap[w.heap.size]? = _ := HX.out
  have hy4 : (w3.drewN nq).heap[w.heap.size + 1]? = _ := HY.out
  have hz4 : (w3.drewN nq).heap[w.heap.size + 1 + 1]? = _ := HZ.out
  have hq4 : (w3.drewN nq).heap[q]? = _ := HQ.out
  have hb4 := below_drewN HB3.out nq
  have hn4 : (w3.drewN nq).heap.size = q + 1 := HN0.out
  generalize w3.drewN nq = w4 at hx4 hy4 hz4 hq4 hb4 hn4 ⊢
  have HX4 := Lib.hid hx4; have HY4 := Lib.hid hy4; have HZ4 := Lib.hid hz4; have HQ4 := Lib.hid hq4; have HB4 := Lib.hid hb4; have HN4 := Lib.hid hn4
  clear hx4 hy4 hz4 hq4 hb4 hn4 HX HY HZ HQ HB3 HN0 xl3 x0_3 x1_3 x2_3 x3_3 x4_3 xf3 ol3 o0_3 o1_3 o2_3 o3_3 o4_3 of3 rl3 r0_3 r1_3 r2_3 r3_3 r4_3 rf3
  obtain ⟨xl4, x0_4, x1_4, x2_4, x3_4, x4_4, xf4⟩ := box5 HX4.out
  obtain ⟨ol4, o0_4, o1_4, o2_4, o3_4, o4_4, of4⟩ := box5 HY4.out
  obtain ⟨rl4, r0_4, r1_4, r2_4, r3_4, r4_4, rf4⟩ := box5 HZ4.out
  obtain rfl : R = (⟨g, l, h, t, p⟩, 2, []) := by
    rw [← HR.out, preL]
    rw [if_pos ⟨Hx0.out, Htk.out⟩]
    rfl
  clear HR
  go_wp2
  exact bodyPost_ret (v := .tuple #[.agg #[.int .u32 g, .slice A len cap, .int .i64 h, .int .i64 t, .bool p], .int .i64 2, .slice none 0 0]) (by simp [results, Try.results35, go_sem, r0_4, r1_4, r2_4, r3_4, r4_4, rl4, xl4]) rfl
    ⟨A, len, cap, .slice none 0 0, rfl, .inl ⟨rfl, rfl, rfl, rfl⟩, OwnI.nil _ _, set5B HB4.out (by omega) _ _ _ _ _⟩
end Go.Proofs.Ytkpogmigfjmacaa
