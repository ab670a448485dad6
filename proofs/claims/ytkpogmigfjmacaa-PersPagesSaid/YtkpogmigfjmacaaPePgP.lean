/-
  Package pers: Page.
-/
import Derived.Test.YtkpogmigfjmacaaPePgK
import Derived.Test.YtkpogmigfjmacaaPrLast
set_option linter.unusedSimpArgs false
set_option linter.unusedVariables false
namespace Go.Proofs.Ytkpogmigfjmacaa
open Go.RowKit Sh

theorem pg_set {w : World} {g : Nat} {l : List UInt8} {t : TypeId} (h : w.heap[g]? = some (.cells ((pad l).map cu8).toArray t (0, 0))) (hl : l.length < 64) (b : UInt8) :
    (w.setCell ⟨g, l.length, none⟩ (cu8 b)).heap[g]? = some (.cells ((pad (l ++ [b])).map cu8).toArray t (0, 0)) := by
  rw [setCell_row h, ← pad_set hl, List.map_set]
theorem zero_pad : zero64 = pad [] := rfl
theorem grown_below {B : Nat} {w w1 w2 : World} {g : Nat} (h : Below B w w1) (hg : w1.grownBy w2 (some g)) (hw : B ≤ w1.heap.size) (hB : B ≤ g) : Below B w w2 :=
  h.grown hg hw fun k hk => by cases hk; exact hB
set_option maxRecDepth 100000 in
set_option maxHeartbeats 16000000 in
theorem page_any (T : Tb) (A : Option Addr) (len cap : Nat) (w : World) (hS : SlR w A len cap T.l) (hm : len ≤ 9223372036854775807) (hl64 : ∀ q ∈ T.l, U64 q.2) (hg : U32 T.g) :
    Calls Try.prog 24 #[.agg #[.int .u32 T.g, .slice A len cap, .int .i64 T.h, .int .i64 T.t, .bool T.p]] w (Ret (.agg ((pageL T).map cu8).toArray) w) := by
  obtain ⟨g0, l, h, t, p⟩ := T
  simp only at hS hl64 hg ⊢
  obtain ⟨g, rfl⟩ : ∃ g : Nat, g0 = (g : Int) := ⟨g0.toNat, by have := hg.1; omega⟩
  have Kso : Hid (∀ W, Below w.heap.size w W → Calls Try.prog 11 #[.agg #[.int .u32 (g : Int), .slice A len cap, .int .i64 h, .int .i64 t, .bool p]] W (Ret (.bool (soundB l h t)) W)) := Lib.hid fun W hb => sound_any g h t p A len cap l W hS.1 hm (hS.below hb).2.2.2
  obtain ⟨sb, Hsb⟩ : ∃ x, Hid (soundB l h t = x) := ⟨_, Lib.hid rfl⟩
  rw [Hsb.out] at Kso
  have HS := Lib.hid hS; have Hl64 := Lib.hid hl64; have Hg := Lib.hid hg
  obtain ⟨za, Hzl⟩ : ∃ za : Array Value, Hid ((zero64.map cu8).toArray = za) := ⟨_, Lib.hid rfl⟩
  obtain ⟨pg, Hpg⟩ : ∃ pg : Array Value, Hid (((pageL ⟨(g : Int), l, h, t, p⟩).map cu8).toArray = pg) := ⟨_, Lib.hid rfl⟩
  rw [Hpg.out]
  have hal : ∀ w : World, (Instr.alloc 51 true (.tuple #[])).run Try.prog w = .ok (.pointer (some ⟨w.heap.size, 0, none⟩)) (w.alloc (.cells za 51)) := by rw [← Hzl.out]; exact alloc64
  clear hS hl64 hg
  go_enter Try.func24, Try.ntmps24
  go_upto_region 2 with (refine wpList_alloc_arr rfl 51 rfl _ hal ?_)
  obtain ⟨hx, hy, hz⟩ := heap_alloc3 w (.cells #[.int .u32 (g : Int), .slice A len cap, .int .i64 h, .int .i64 t, .bool p] 25) (.cells za 51) (.cells za 51)
  have hb0 := bel3 w (.cells #[.int .u32 (g : Int), .slice A len cap, .int .i64 h, .int .i64 t, .bool p] 25) (.cells za 51) (.cells za 51)
  try simp only [World.size_alloc]
  generalize ((w.alloc (.cells #[.int .u32 (g : Int), .slice A len cap, .int .i64 h, .int .i64 t, .bool p] 25)).alloc (.cells za 51)).alloc (.cells za 51) = w0 at hx hy hz hb0 ⊢
  clear hal
  obtain ⟨xl0, x0_0, x1_0, x2_0, x3_0, x4_0, xf0⟩ := box5 hx
  have Hy0 := Lib.hid hy
  cases sb with
  | false =>
    have Hps : Hid ((Try.prog.info? 51).map (·.size) = some za.size) := Lib.hid (by rw [← Hzl.out]; simpa [zero64] using info64)
    have Hp1 : Hid (za.all (·.oneCell') = true) := Lib.hid (by rw [← Hzl.out]; exact all_oneCell_toArray fun v hv => by obtain ⟨x, _, rfl⟩ := List.mem_map.1 hv; rfl)
    have hres : pageL ⟨(g : Int), l, h, t, p⟩ = zero64 := by unfold pageL; rw [if_neg (by rw [show soundB l h t = false from Hsb.out]; simp)]
    rw [hres, Hzl.out] at Hpg
    have hpg := Hpg.out
    clear hres Hpg
    subst hpg
    go_upto_region 3 with (go_at_call 11; refine (Kso.out _ hb0).mono ?_; rintro e w1 ⟨rfl, hb1⟩)
    have hyl := (hb1.block (w.heap.size + 1) (Array.getElem?_eq_some_iff.1 hy).1).trans hy
    have hzl := (hb1.block (w.heap.size + 1 + 1) (Array.getElem?_eq_some_iff.1 hz).1).trans hz
    have HB1 := Lib.hid (stepB hb0 hb1)
    clear hx hy hz hb0 hb1 xl0 x0_0 x1_0 x2_0 x3_0 x4_0 xf0
    go_wp2_with (first
      | (refine wpList_load_row rfl 51 _ rfl (w.heap.size + 1 + 1) rfl 51 za (0, 0) _ hzl Try.underlying51 rfl Hps.out ?_)
      | (refine wpList_store_row rfl 51 _ _ rfl (w.heap.size + 1) za rfl rfl 51 za hyl Hps.out rfl Hp1.out ?_))
    refine bodyPost_ret (v := .agg za) ?_ rfl ⟨rfl, below_setRow (g := w.heap.size + 1) (HB1.out) (by omega) za⟩
    exact results_cell_row (ty := 51) rfl _ _ (w.heap.size + 1) 51 _ (0, 0) _ rfl (setRow_heap _ _ _ _ _ _ hyl) Try.underlying51 rfl Hps.out
  | true =>
    obtain ⟨h6, hr, h3⟩ := sound_iff.1 Hsb.out
    have hlen := HS.out.1
    have hlen6 : len ≤ 6 := by omega
    have hh : -1 ≤ h ∧ h < 8 := by
      rcases h3 with ⟨_, h⟩ | ⟨_, _, hk⟩
      · omega
      · have e1 : ¬ h < 0 := fun hlt => hk (keyL_rise hr (by omega))
        have e2 : ¬ 8 ≤ h := fun hge => hk (keyL_hi hr hge)
        omega
    have ht : 0 ≤ t ∧ t < 256 := by
      rcases h3 with ⟨h, _⟩ | ⟨_, h, _⟩
      · omega
      · simp [isTyB] at h; omega
    have hres : pageL ⟨(g : Int), l, h, t, p⟩ = pad (headT ⟨(g : Int), l, h, t, p⟩ ++ bodyT l) := by unfold pageL; rw [if_pos (show soundB l h t = true from Hsb.out)]; rfl
    rw [hres] at Hpg
    obtain ⟨b1, Hb1⟩ : ∃ x, Hid (bz (UInt8.ofNat (h + 1).toNat) = x) := ⟨_, Lib.hid rfl⟩
    obtain ⟨b2, Hb2⟩ : ∃ x, Hid (bz (UInt8.ofNat t.toNat) = x) := ⟨_, Lib.hid rfl⟩
    have w1 : IntKind.i64.wrap (h + 1) = h + 1 := IntWalk.i64_in _ (by omega)
    have w2 : IntKind.u8.wrap (h + 1) = b1 := by rw [← Hb1.out, IntKind.wrap_u8', bz_eq, UInt8.toNat_ofNat']; omega
    have w3 : IntKind.u8.wrap t = b2 := by rw [← Hb2.out, IntKind.wrap_u8', bz_eq, UInt8.toNat_ofNat']; omega
    have Hll := Lib.hid hlen; have Hr := Lib.hid hr
    have hg' := Hg.out.2
    have w4 : IntKind.u64.wrap (g : Int) = (g : Int) := by rw [IntKind.wrap_u64]; omega
    clear hh ht h3 hres hr h6 hlen hg'
    go_upto_region 4 with (go_at_call 11; refine (Kso.out _ hb0).mono ?_; rintro e w9 ⟨rfl, hb9⟩)
    have hyl := (hb9.block (w.heap.size + 1) (Array.getElem?_eq_some_iff.1 hy).1).trans hy
    have hzl := (hb9.block (w.heap.size + 1 + 1) (Array.getElem?_eq_some_iff.1 hz).1).trans hz
    have hxl := (hb9.block w.heap.size xl0).trans hx
    have hb9' := stepB hb0 hb9
    clear hx hy hz hb0 hb9 Kso Hy0 xl0 x0_0 x1_0 x2_0 x3_0 x4_0 xf0
    have HX := Lib.hid hxl; have HY := Lib.hid hyl; have HB := Lib.hid hb9'
    have hzp : w9.heap[w.heap.size + 1 + 1]? = some (.cells ((pad []).map cu8).toArray 51 (0, 0)) := by rw [hzl, ← Hzl.out, zero_pad]
    have HZ := Lib.hid hzp
    clear hxl hyl hb9' hzl hzp
    obtain ⟨xl9, x0_9, x1_9, x2_9, x3_9, x4_9, xf9⟩ := box5 HX.out

    have f0 := fun j => thawed_row HZ.out j
    have c0 : ∀ j, j < 64 → ∃ v, w9.cell? ⟨w.heap.size + 1 + 1, j, none⟩ = some v := fun j hj => ⟨_, (cell_of_row w9 _ j _ _ _ HZ.out).trans (Array.getElem?_eq_getElem (by rw [List.size_toArray, List.length_map, pad_len (by simp)]; exact hj))⟩
    obtain ⟨v0, k0⟩ := c0 0 (by omega)
    obtain ⟨v1, k1⟩ := c0 1 (by omega)
    obtain ⟨v2, k2⟩ := c0 2 (by omega)
    clear c0
    go_upto_region 7 with (fail)
    have hq2 : w.heap.size + 1 + 1 < w9.heap.size := (Array.getElem?_eq_some_iff.1 HZ.out).1
    obtain ⟨q, Hq⟩ : ∃ q, Hid (w.heap.size + 1 + 1 = q) := ⟨_, Lib.hid rfl⟩
    have hwq : w.heap.size + 2 ≤ q := by rw [← Hq.out]; omega
    rw [Hq.out] at HZ hq2 ⊢
    have hz10 : (((w9.setCell ⟨q, 0, none⟩ (.int .u8 80)).setCell ⟨q, 1, none⟩ (.int .u8 b1)).setCell ⟨q, 2, none⟩ (.int .u8 b2)).heap[q]? = some (.cells ((pad [80, UInt8.ofNat (h + 1).toNat, UInt8.ofNat t.toNat]).map cu8).toArray 51 (0, 0)) := by
      rw [← Hb1.out, ← Hb2.out]
      exact pg_set (l := [80, UInt8.ofNat (h + 1).toNat]) (pg_set (l := [80]) (pg_set (l := []) HZ.out (by simp) 80) (by simp) _) (by simp) _
    have hset : ∀ i, i ≠ q → (((w9.setCell ⟨q, 0, none⟩ (.int .u8 80)).setCell ⟨q, 1, none⟩ (.int .u8 b1)).setCell ⟨q, 2, none⟩ (.int .u8 b2)).heap[i]? = w9.heap[i]? := fun i hi => by
      rw [Below.heap_setCell _ ⟨q, 2, none⟩ _ i hi, Below.heap_setCell _ ⟨q, 1, none⟩ _ i hi, Below.heap_setCell _ ⟨q, 0, none⟩ _ i hi]
    have hx10 := (hset w.heap.size (by omega)).trans HX.out
    have hy10 := (hset (w.heap.size + 1) (by omega)).trans HY.out
    have hb10 := ((HB.out.setCell (p := ⟨q, 0, none⟩) (show w.heap.size ≤ q by omega) (.int .u8 80)).setCell (p := ⟨q, 1, none⟩) (show w.heap.size ≤ q by omega) (.int .u8 b1)).setCell (p := ⟨q, 2, none⟩) (show w.heap.size ≤ q by omega) (.int .u8 b2)
    clear hset f0 k0 k1 k2 HX HY HZ HB hq2 xl9 x0_9 x1_9 x2_9 x3_9 x4_9 xf9
    generalize ((w9.setCell ⟨q, 0, none⟩ (.int .u8 80)).setCell ⟨q, 1, none⟩ (.int .u8 b1)).setCell ⟨q, 2, none⟩ (.int .u8 b2) = w10 at hz10 hx10 hy10 hb10 ⊢
    have HX := Lib.hid hx10; have HY := Lib.hid hy10; have HZ := Lib.hid hz10; have HB := Lib.hid hb10
    clear hx10 hy10 hz10 hb10
    obtain ⟨xl, x0, x1, x2, x3, x4, xf⟩ := box5 HX.out
    have hql : q < w10.heap.size := (Array.getElem?_eq_some_iff.1 HZ.out).1
    refine wp_region_up 4 (fun W => Below w10.heap.size w10 W) (by kernel_rfl) ?_
    have hS : Below w10.heap.size w10 (World.drew w10) := (Below.refl _ _).drew
    change upHead _ _ _ _ _ _ _ _ _ (World.drew w10)
    generalize World.drew w10 = wd at hS ⊢
    refine up_take (i := 0) (v := .slice (some ⟨q, 3, none⟩) 4 61) rfl (by kernel_rfl) (by kernel_rfl) (fun _ _ _ h => h) (Or.inl ⟨by rfl, ?_⟩) hS ?_
    · intro W hW; go_simp
    try simp only [List.getElem_toArray, List.getElem_cons_succ, List.getElem_cons_zero, Act.put, List.setIfInBounds_toArray, List.set]
    refine up_take (i := 1) (v := .pointer (some ⟨w.heap.size, 0, none⟩)) rfl (by kernel_rfl) (by kernel_rfl) (fun _ _ _ h => h) (Or.inl ⟨by rfl, ?_⟩) hS ?_
    · intro W hW; go_simp
    try simp only [List.getElem_toArray, List.getElem_cons_succ, List.getElem_cons_zero, Act.put, List.setIfInBounds_toArray, List.set]
    refine up_take (i := 2) (v := .int .u32 (g : Int)) rfl (by kernel_rfl) (by kernel_rfl) (fun _ _ _ h => h) (Or.inl ⟨by rfl, ?_⟩) hS ?_
    · intro W hW; have e1 := (hW.cell (p := ⟨w.heap.size, 0, none⟩) xl).trans x0; go_simp
    try simp only [List.getElem_toArray, List.getElem_cons_succ, List.getElem_cons_zero, Act.put, List.setIfInBounds_toArray, List.set]
    refine up_take (i := 3) (v := .int .u64 (g : Int)) rfl (by kernel_rfl) (by kernel_rfl) (fun _ _ _ h => h) (Or.inl ⟨by rfl, ?_⟩) hS ?_
    · intro W hW; go_simp
    try simp only [List.getElem_toArray, List.getElem_cons_succ, List.getElem_cons_zero, Act.put, List.setIfInBounds_toArray, List.set]
    refine up_tail ?_
    refine up_last 4 _ rfl (by kernel_rfl) (by decide) (by rfl) (fun K hK => ?_)
    go_simp
    refine (lay_any (g := q) (o := 3) (n := 4) (cap := 61) (x := g) ((hS.block q hql).trans HZ.out) (by rw [List.length_map, pad_len (by simp)]; omega) (by omega)).mono ?_
    rintro e w12 ⟨rfl, hz11, hg11⟩
    refine hK _ _ ?_
    clear hK K
    try simp only [List.getElem_toArray, List.getElem_cons_succ, List.getElem_cons_zero, Act.put, List.setIfInBounds_toArray, List.set]
    refine up_done (by kernel_rfl) ?_ _
    have hz12 : w12.heap[q]? = some (.cells ((pad (headT ⟨(g : Int), l, h, t, p⟩ ++ bodyT (l.take 0))).map cu8).toArray 51 (0, 0)) := by
      rw [hz11, splice_map, show (3 : Nat) = [80, UInt8.ofNat (h + 1).toNat, UInt8.ofNat t.toNat].length from rfl, pad_splice (by simp [leN_length])]
      rfl
    have hwd : w10.heap.size ≤ wd.heap.size := hS.size
    have hb12 := grown_below (HB.out.trans (hS.mono (by omega))) hg11 (by omega) (show w.heap.size ≤ q by omega)
    have hx12 := (hg11.block w.heap.size (by omega) (by simp; omega)).trans ((hS.block w.heap.size xl).trans HX.out)
    have hy12 := (hg11.block (w.heap.size + 1) (by omega) (by simp; omega)).trans ((hS.block (w.heap.size + 1) (by omega)).trans HY.out)
    have HX12 := Lib.hid hx12; have HY12 := Lib.hid hy12; have HZ12 := Lib.hid hz12; have HB12 := Lib.hid hb12
    clear hz11 hg11 hS hwd hx12 hy12 hz12 hb12 HX HY HZ HB xl x0 x1 x2 x3 x4 xf hql
    obtain ⟨xl, x0, x1, x2, x3, x4, xf⟩ := box5 HX12.out
    go_wp2
    go_loopg [29, 4, 5, 6] len (fun m i _ _ _ wr => ∃ k : Nat, m = len - k ∧ k ≤ len ∧ i = .int .i64 k ∧ Hid (wr.heap[w.heap.size]? = some (.cells #[.int .u32 (g : Int), .slice A len cap, .int .i64 h, .int .i64 t, .bool p] 25 (0, 0))) ∧ Hid (wr.heap[w.heap.size + 1]? = some (.cells za 51 (0, 0))) ∧ Hid (wr.heap[q]? = some (.cells ((pad (headT ⟨(g : Int), l, h, t, p⟩ ++ bodyT (l.take k))).map cu8).toArray 51 (0, 0))) ∧ Below w.heap.size w wr)
    case atStart => exact ⟨0, by omega, by omega, rfl, HX12, HY12, HZ12, HB12.out⟩
    case round =>
      clear HX12 HY12 HZ12 HB12 xl x0 x1 x2 x3 x4 xf
      obtain ⟨k, rfl, hk, rfl, HX, HY, HZ, hb⟩ := hrel
      have hql : q < wr.heap.size := (Array.getElem?_eq_some_iff.1 HZ.out).1
      by_cases hlt : k < len
      · have hltz : (k : Int) < (len : Int) := by omega
        obtain ⟨r, hr⟩ : ∃ r, l[k]? = some r := ⟨_, List.getElem?_eq_getElem (by rw [Hll.out]; exact hlt)⟩
        rcases (HS.out.below hb).2.2.2 with h0 | ⟨b, o', rfl, hbN, hc⟩
        · rw [h0] at hr; simp at hr
        obtain ⟨c0, c1⟩ := hc k r hr
        have hm := rise_mem Hr.out (List.mem_of_getElem? hr)
        have h64 := Hl64.out r (List.mem_of_getElem? hr)
        have hnx : bodyT (l.take (k + 1)) = bodyT (l.take k) ++ regB8 r := by rw [List.take_add_one, hr]; unfold bodyT; rw [List.flatMap_append]; simp
        have hbl : (bodyT (l.take k)).length = 9 * k := by rw [bodyT_len, List.length_take, Hll.out]; omega
        have HB := Lib.hid hb
        obtain ⟨r1, r2⟩ := r
        simp only at c0 c1 hm h64
        obtain ⟨kv, rfl⟩ : ∃ kv : Nat, r2 = (kv : Int) := ⟨r2.toNat, by have := h64.1; omega⟩
        obtain ⟨bn, Hbn⟩ : ∃ x, Hid (bz (UInt8.ofNat r1.toNat) = x) := ⟨_, Lib.hid rfl⟩
        have w5 : IntKind.u8.wrap r1 = bn := by rw [← Hbn.out, IntKind.wrap_u8', bz_eq, UInt8.toNat_ofNat']; omega
        have Hnx := Lib.hid hnx; have Hbl := Lib.hid hbl
        obtain ⟨o, Ho⟩ : ∃ o, Hid (7 + 9 * k = o) := ⟨_, Lib.hid rfl⟩
        obtain ⟨d, Hd⟩ : ∃ d, Hid (64 - o = d) := ⟨_, Lib.hid rfl⟩
        have Kkb : Hid (∀ W, Calls Try.prog 41 #[.pointer (some ⟨q, 0, none⟩), .int .i64 (k : Int)] W (fun e w' => e = .returned (.slice (some ⟨q, o, none⟩) 9 d) ∧ W = w')) := Lib.hid fun W => by rw [← Hd.out, ← Ho.out]; exact keyBytes_any q k (by omega) W
        have hoA : (headT ⟨(g : Int), l, h, t, p⟩ ++ bodyT (l.take k)).length = o := by rw [List.length_append, headT_len, hbl]; exact Ho.out
        have ho64 : o + 9 ≤ 64 := by have := Ho.out; omega
        have HoA := Lib.hid hoA
        clear hc hr hm h64 hnx hbl hb hoA
        go_upto_region 11 with (fail)
        have hz5 := heap_alloc_new wr (.cells #[.int .i64 r1, .int .u64 (kv : Int)] 38)
        have hbz := bel1 wr (.cells #[.int .i64 r1, .int .u64 (kv : Int)] 38)
        obtain ⟨z, Hz⟩ : ∃ z, Hid (wr.heap.size = z) := ⟨_, Lib.hid rfl⟩
        rw [Hz.out] at hz5 hql
        have hx5 := (hbz.block w.heap.size (by rw [Hz.out]; omega)).trans HX.out
        have hy5 := (hbz.block (w.heap.size + 1) (by rw [Hz.out]; omega)).trans HY.out
        have hp5 := (hbz.block q (by rw [Hz.out]; exact hql)).trans HZ.out
        have hb5 := stepB HB.out hbz
        generalize wr.alloc (.cells #[.int .i64 r1, .int .u64 (kv : Int)] 38) = w5' at hz5 hx5 hy5 hp5 hb5 ⊢
        rw [Hz.out]
        have HZ5 := Lib.hid hz5; have HX5 := Lib.hid hx5; have HY5 := Lib.hid hy5; have HP5 := Lib.hid hp5; have HB5 := Lib.hid hb5
        clear hz5 hx5 hy5 hp5 hb5 hbz HX HY HZ HB c0 c1 Hz
        obtain ⟨zl, z0, z1, zf⟩ := box2 HZ5.out
        have fq := thawed_row HP5.out o
        obtain ⟨ov, cq⟩ : ∃ v, w5'.cell? ⟨q, o, none⟩ = some v := ⟨_, (cell_of_row w5' _ o _ _ _ HP5.out).trans (Array.getElem?_eq_getElem (by rw [List.size_toArray, List.length_map, pad_len (by rw [HoA.out]; omega)]; omega))⟩
        go_upto_region 13 with (go_at_call 41; refine (Kkb.out _).mono ?_; rintro e w' ⟨rfl, rfl⟩)
        have hp6 : (w5'.setCell ⟨q, o, none⟩ (.int .u8 bn)).heap[q]? = some (.cells ((pad ((headT ⟨(g : Int), l, h, t, p⟩ ++ bodyT (l.take k)) ++ [UInt8.ofNat r1.toNat])).map cu8).toArray 51 (0, 0)) := by
          have := pg_set HP5.out (by rw [HoA.out]; omega) (UInt8.ofNat r1.toNat)
          rw [HoA.out] at this
          rw [← Hbn.out]; exact this
        have hset : ∀ i, i ≠ q → (w5'.setCell ⟨q, o, none⟩ (.int .u8 bn)).heap[i]? = w5'.heap[i]? := fun i hi => Below.heap_setCell _ ⟨q, o, none⟩ _ i hi
        have hx6 := (hset w.heap.size (by omega)).trans HX5.out
        have hy6 := (hset (w.heap.size + 1) (by omega)).trans HY5.out
        have hz6 := (hset z (by omega)).trans HZ5.out
        have hb6 := HB5.out.setCell (p := ⟨q, o, none⟩) (show w.heap.size ≤ q by omega) (.int .u8 bn)
        clear hset fq cq zl z0 z1 zf HZ5 HX5 HY5 HP5 HB5 Kkb
        generalize w5'.setCell ⟨q, o, none⟩ (.int .u8 bn) = w6 at hp6 hx6 hy6 hz6 hb6 ⊢
        have HX6 := Lib.hid hx6; have HY6 := Lib.hid hy6; have HZ6 := Lib.hid hz6; have HP6 := Lib.hid hp6; have HB6 := Lib.hid hb6
        clear hx6 hy6 hz6 hp6 hb6
        obtain ⟨zl, z0, z1, zf⟩ := box2 HZ6.out
        have hql6 : q < w6.heap.size := (Array.getElem?_eq_some_iff.1 HP6.out).1
        have hd1 : ¬ d = 1 := by have := Hd.out; omega
        have Ho64 := Lib.hid ho64
        clear ho64
        refine wp_region_up 4 (fun W => Below w6.heap.size w6 W) (by kernel_rfl) ?_
        have hS : Below w6.heap.size w6 (World.drew w6) := (Below.refl _ _).drew
        change upHead _ _ _ _ _ _ _ _ _ (World.drew w6)
        generalize World.drew w6 = wd at hS ⊢
        refine up_take (i := 0) (v := .slice (some ⟨q, o, none⟩) 9 d) rfl (by kernel_rfl) (by kernel_rfl) (fun _ _ _ h => h) (Or.inl ⟨by rfl, ?_⟩) hS ?_
        · intro W hW; go_simp
        try simp only [List.getElem_toArray, List.getElem_cons_succ, List.getElem_cons_zero, Act.put, List.setIfInBounds_toArray, List.set]
        refine up_take (i := 1) (v := .slice (some ⟨q, o + 1, none⟩) 8 (d - 1)) rfl (by kernel_rfl) (by kernel_rfl) (fun _ _ _ h => h) (Or.inl ⟨by rfl, ?_⟩) hS ?_
        · intro W hW; go_simp
        try simp only [List.getElem_toArray, List.getElem_cons_succ, List.getElem_cons_zero, Act.put, List.setIfInBounds_toArray, List.set]
        refine up_take (i := 2) (v := .pointer (some ⟨z, 1, none⟩)) rfl (by kernel_rfl) (by kernel_rfl) (fun _ _ _ h => h) (Or.inl ⟨by rfl, ?_⟩) hS ?_
        · intro W hW; go_simp
        try simp only [List.getElem_toArray, List.getElem_cons_succ, List.getElem_cons_zero, Act.put, List.setIfInBounds_toArray, List.set]
        refine up_take (i := 3) (v := .int .u64 (kv : Int)) rfl (by kernel_rfl) (by kernel_rfl) (fun _ _ _ h => h) (Or.inl ⟨by rfl, ?_⟩) hS ?_
        · intro W hW; have e1 := (hW.cell (p := ⟨z, 1, none⟩) zl).trans z1; go_simp
        try simp only [List.getElem_toArray, List.getElem_cons_succ, List.getElem_cons_zero, Act.put, List.setIfInBounds_toArray, List.set]
        refine up_tail ?_
        refine up_last 4 _ rfl (by kernel_rfl) (by decide) (by rfl) (fun K hK => ?_)
        go_simp
        refine (lay_any (g := q) (o := o + 1) (n := 8) (cap := d - 1) (x := kv) ((hS.block q hql6).trans HP6.out) (by have := Ho64.out; rw [List.length_map, pad_len (by rw [List.length_append, HoA.out]; simp; omega)]; omega) (by omega)).mono ?_
        rintro e w8 ⟨rfl, hp7, hg7⟩
        refine hK _ _ ?_
        clear hK K
        try simp only [List.getElem_toArray, List.getElem_cons_succ, List.getElem_cons_zero, Act.put, List.setIfInBounds_toArray, List.set]
        refine up_done (by kernel_rfl) ?_ _
        have hp8 : w8.heap[q]? = some (.cells ((pad (headT ⟨(g : Int), l, h, t, p⟩ ++ bodyT (l.take (k + 1)))).map cu8).toArray 51 (0, 0)) := by
          have e : o + 1 = ((headT ⟨(g : Int), l, h, t, p⟩ ++ bodyT (l.take k)) ++ [UInt8.ofNat r1.toNat]).length := by rw [List.length_append, HoA.out]; rfl
          have := Ho64.out
          rw [hp7, splice_map, e, pad_splice (by rw [← e, leN_length]; omega), Hnx.out, List.append_assoc, List.append_assoc]
          rfl
        have hwd : w6.heap.size ≤ wd.heap.size := hS.size
        have hb8 := grown_below (HB6.out.trans (hS.mono (by omega))) hg7 (by omega) (show w.heap.size ≤ q by omega)
        have hx8 := (hg7.block w.heap.size (by omega) (by simp; omega)).trans ((hS.block w.heap.size (by omega)).trans HX6.out)
        have hy8 := (hg7.block (w.heap.size + 1) (by omega) (by simp; omega)).trans ((hS.block (w.heap.size + 1) (by omega)).trans HY6.out)
        have HX8 := Lib.hid hx8; have HY8 := Lib.hid hy8; have HP8 := Lib.hid hp8; have HB8 := Lib.hid hb8
        clear hp7 hg7 hS hwd hx8 hy8 hp8 hb8 HX6 HY6 HZ6 HP6 HB6 zl z0 z1 zf hql6 hd1
        go_wp2
        go_roundg (len - (k + 1))
        case measure => omega
        case rel => exact ⟨k + 1, rfl, by omega, by go_num, HX8, HY8, HP8, HB8.out⟩
      · obtain rfl : k = len := by omega
        have hltz : ¬ ((k : Int) < (k : Int)) := by omega
        have hzl := HZ.out
        have hyl := HY.out
        rw [List.take_of_length_le (by rw [Hll.out]; exact Nat.le_refl _), Hpg.out] at hzl
        have hpl : pg.size = 64 := by rw [← Hpg.out, List.size_toArray, List.length_map, pad_len (by rw [List.length_append, headT_len, bodyT_len, Hll.out]; omega)]
        have Hps : Hid ((Try.prog.info? 51).map (·.size) = some pg.size) := Lib.hid (by rw [hpl]; exact info64)
        have hzs : za.size = pg.size := by rw [hpl, ← Hzl.out]; simp [zero64]
        have Hzs := Lib.hid hzs
        have Hp1 : Hid (pg.all (·.oneCell') = true) := Lib.hid (by rw [← Hpg.out]; exact all_oneCell_toArray fun v hv => by obtain ⟨x, _, rfl⟩ := List.mem_map.1 hv; rfl)
        have HB := Lib.hid hb
        clear hb hpl hzs HX HY HZ
        go_wp2_with (first
          | (refine wpList_load_row rfl 51 _ rfl q rfl 51 pg (0, 0) _ hzl Try.underlying51 rfl Hps.out ?_)
          | (refine wpList_store_row rfl 51 _ _ rfl (w.heap.size + 1) pg rfl rfl 51 za hyl Hps.out Hzs.out Hp1.out ?_))
        refine bodyPost_ret (v := .agg pg) ?_ rfl ⟨rfl, below_setRow (g := w.heap.size + 1) (HB.out) (by omega) pg⟩
        exact results_cell_row (ty := 51) rfl _ _ (w.heap.size + 1) 51 _ (0, 0) _ rfl (setRow_heap _ _ _ _ _ _ hyl) Try.underlying51 rfl Hps.out
end Go.Proofs.Ytkpogmigfjmacaa
