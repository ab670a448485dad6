/-
  The law PersRuns walked.
-/
import Derived.Test.YtkpogmigfjmacaaPeRunsM
import Derived.Test.YtkpogmigfjmacaaPeStands
set_option linter.unusedSimpArgs false
set_option linter.unusedVariables false
namespace Go.Proofs.Ytkpogmigfjmacaa
open Go.RowKit

set_option maxRecDepth 100000 in
set_option maxHeartbeats 16000000 in
theorem persRuns_any (A : Option Addr) (len cap : Nat) (cs : List CL) {w : World} (hl : cs.length = len) (hC : CaA w.heap.size w A cs) (hm : len ≤ 9223372036854775807) (W : World) (hW : w = W) :
    Calls Try.prog 5 #[.slice A len cap] W (Ret (.bool true) W) := by
  subst hW
  have HC := Lib.hid hC; have Hl := Lib.hid hl
  clear hC hl
  have Kst : Hid (∀ W, Calls Try.prog 10 #[] W (Ret (.bool true) W)) := Lib.hid stands_any
  have Kn : Hid (∀ W, Calls Try.prog 22 #[] W (Ret (.agg #[.int .u32 0, .slice none 0 0, .int .i64 (-1), .int .i64 0, .bool false]) W)) := Lib.hid fun W => none_any W
  go_enter Try.func5, Try.ntmps5
  go_upto_region 3 with (go_at_call 10; refine (Kst.out _).mono ?_; rintro e w2 ⟨rfl, hb2⟩)
  go_upto_region 4 with (go_at_call 22; refine (Kn.out _).mono ?_; rintro e w3 ⟨rfl, hb3⟩)
  have hz := heap_alloc2 w3 (.cells #[.int .u32 0, .slice none 0 0, .int .i64 (-1), .int .i64 0, .bool false] 25) (.cells #[.int .u32 0, .slice none 0 0, .int .i64 (-1), .int .i64 0, .bool false] 25)
  have hb3a := bel2 w3 (.cells #[.int .u32 0, .slice none 0 0, .int .i64 (-1), .int .i64 0, .bool false] 25) (.cells #[.int .u32 0, .slice none 0 0, .int .i64 (-1), .int .i64 0, .bool false] 25)
  have hwt : w.heap.size ≤ w3.heap.size := by have := hb2.size; have := hb3.size; omega
  have hb4 := stepB (stepB hb2 hb3) hb3a
  obtain ⟨tb, Htb⟩ : ∃ q, Hid (w3.heap.size = q) := ⟨_, Lib.hid rfl⟩
  obtain ⟨mb, Hmb⟩ : ∃ q, Hid (w3.heap.size + 1 = q) := ⟨_, Lib.hid rfl⟩
  have htm : tb ≠ mb := by rw [← Htb.out, ← Hmb.out]; omega
  have hmt : mb ≠ tb := by omega
  have hwb : w.heap.size ≤ mb := by rw [← Hmb.out]; omega
  rw [Hmb.out, Htb.out] at hz
  rw [Htb.out] at hwt
  generalize (w3.alloc (.cells #[.int .u32 0, .slice none 0 0, .int .i64 (-1), .int .i64 0, .bool false] 25)).alloc (.cells #[.int .u32 0, .slice none 0 0, .int .i64 (-1), .int .i64 0, .bool false] 25) = w4 at hz hb4 hb3a ⊢
  rw [Hmb.out, Htb.out]
  have HZ := Lib.hid hz; have HB4 := Lib.hid hb4
  clear hz hb4 hb2 hb3 hb3a Htb Hmb
  go_wp2
  go_loopg [17, 5, 6, 7, 8, 9, 10] len (fun m i v c6 c7 c8 c9 c10 wr => ∃ (k : Nat) (T : Tb) (A1 : Option Addr) (n1 c1 : Nat) (A2 : Option Addr) (n2 c2 : Nat), m = len - k ∧ k ≤ len ∧ i = .int .i64 k ∧ v = .int .u32 T.g ∧ Hid (soundB T.l T.h T.t = true) ∧ Hid (wr.heap[tb]? = some (.cells #[.int .u32 T.g, .slice A1 n1 c1, .int .i64 T.h, .int .i64 T.t, .bool T.p] 25 (0, 0))) ∧ Hid (wr.heap[mb]? = some (.cells #[.int .u32 T.g, .slice A2 n2 c2, .int .i64 T.h, .int .i64 T.t, .bool T.p] 25 (0, 0))) ∧ Hid (OwnR w.heap.size wr (.slice A1 n1 c1) T.l) ∧ Hid (OwnR w.heap.size wr (.slice A2 n2 c2) T.l) ∧ Below w.heap.size w wr)
  case atStart => exact ⟨0, ⟨0, [], -1, 0, false⟩, none, 0, 0, none, 0, 0, by omega, by omega, rfl, rfl, Lib.hid rfl, Lib.hid HZ.out.1, Lib.hid HZ.out.2, Lib.hid (OwnR.nil _ _), Lib.hid (OwnR.nil _ _), HB4.out⟩
  case round =>
    clear HZ HB4
    obtain ⟨k, ⟨g, l, h, t, p⟩, A1, n1, c1, A2, n2, c2, rfl, hk, rfl, rfl, Hso, HT, HM, HO1, HO2, hb⟩ := hrel
    simp only at Hso HT HM HO1 HO2 ⊢
    have HB := Lib.hid hb
    by_cases hlt : k < len
    · have hltz : (k : Int) < (len : Int) := by omega
      obtain ⟨c, hc⟩ : ∃ c, cs[k]? = some c := ⟨_, List.getElem?_eq_getElem (by rw [Hl.out]; exact hlt)⟩
      rcases HC.out.below hb with h0 | ⟨b, o, rfl, hbN, hcc⟩
      · rw [h0] at hc; simp at hc
      obtain ⟨e0, e1, e2, e3, e4, e5⟩ := hcc k c hc
      obtain ⟨n, a, ty, key, other, ap⟩ := c
      simp only at e0 e1 e2 e3 e4 e5
      clear hb hcc hc
      go_upto_region 8 with (fail)
      have hz := heap_alloc_new wr (.cells #[.int .i64 n, .int .i64 a, .int .i64 ty, .int .u64 key, .int .u64 other, .bool ap] 47)
      have hbz := bel1 wr (.cells #[.int .i64 n, .int .i64 a, .int .i64 ty, .int .u64 key, .int .u64 other, .bool ap] 47)
      obtain ⟨z, Hz⟩ : ∃ z, Hid (wr.heap.size = z) := ⟨_, Lib.hid rfl⟩
      have htz : tb < z := by rw [← Hz.out]; exact (Array.getElem?_eq_some_iff.1 HT.out).1
      have hmz : mb < z := by rw [← Hz.out]; exact (Array.getElem?_eq_some_iff.1 HM.out).1
      rw [Hz.out] at hz
      have hT5 := (hbz.block tb (by rw [Hz.out]; exact htz)).trans HT.out
      have hM5 := (hbz.block mb (by rw [Hz.out]; exact hmz)).trans HM.out
      have hO15 := HO1.out.below hbz
      have hO25 := HO2.out.below hbz
      have hB5 := stepB HB.out hbz
      have hz5 : w.heap.size ≤ z := by omega
      generalize wr.alloc (.cells #[.int .i64 n, .int .i64 a, .int .i64 ty, .int .u64 key, .int .u64 other, .bool ap] 47) = w5 at hz hT5 hM5 hO15 hO25 hB5 ⊢
      rw [Hz.out]
      have HZ5 := Lib.hid hz; have HT5 := Lib.hid hT5; have HM5 := Lib.hid hM5; have HO15 := Lib.hid hO15; have HO25 := Lib.hid hO25; have HB5 := Lib.hid hB5
      clear e0 e1 e2 e3 e4 e5 hz hbz hT5 hM5 hO15 hO25 hB5 HT HM HO1 HO2 HB Hz
      obtain ⟨zl, z0, z1, z2, z3, z4, z5, zf⟩ := box6 HZ5.out
      obtain ⟨tl, t0, t1, t2, t3, t4, tf⟩ := box5 HT5.out
      have hgg : (g == g) = true := by simp
      by_cases k3 : k = 300
      · subst k3
        go_wp2
        go_ret
        exact ⟨rfl, HB5.out⟩
      have k3i : ((k : Int) == 300) = false := by simp; omega
      clear k3
      by_cases hn0 : n < 0
      · have hn0' : decide (n < 0) = true := decide_eq_true hn0
        go_wp2
        go_roundg (len - (k + 1))
        case measure => omega
        case rel => exact ⟨k + 1, ⟨g, l, h, t, p⟩, A1, n1, c1, A2, n2, c2, rfl, by omega, by go_num, rfl, Hso, HT5, HM5, HO15, HO25, HB5.out⟩
      have hn0' : decide (n < 0) = false := decide_eq_false hn0
      by_cases hn7 : 7 < n
      · have hn7' : decide (7 < n) = true := decide_eq_true hn7
        have hn1 : 0 ≤ n := by omega
        clear hn0
        go_wp2
        go_roundg (len - (k + 1))
        case measure => omega
        case rel => exact ⟨k + 1, ⟨g, l, h, t, p⟩, A1, n1, c1, A2, n2, c2, rfl, by omega, by go_num, rfl, Hso, HT5, HM5, HO15, HO25, HB5.out⟩
      obtain ⟨j, rfl⟩ : ∃ j : Nat, n = (j : Int) := ⟨n.toNat, by omega⟩
      have hj : j < 8 := by omega
      have hn7' : decide (7 < (j : Int)) = false := decide_eq_false hn7
      have hj7 : (j : Int) ≤ 7 := by omega
      clear hn0 hn7
      obtain ⟨R, HR⟩ : ∃ R, Hid (actL ⟨g, l, h, t, p⟩ (j : Int) a ty key other ap = R) := ⟨_, Lib.hid rfl⟩
      have Ka : Hid (∀ W A' len' cap', SlR W A' len' cap' l → Calls Try.prog 13 #[.agg #[.int .u32 g, .slice A' len' cap', .int .i64 h, .int .i64 t, .bool p], .int .i64 (j : Int), .agg #[.int .i64 a, .int .i64 ty, .int .u64 key, .int .u64 other, .bool ap]] W (AcP W (j : Int) R)) :=
        Lib.hid fun W A' len' cap' hS => actc (T := ⟨g, l, h, t, p⟩) hS Hso.out (by omega) (by omega) HR.out
      have Kra : Hid (∀ W A' len' cap', SlR W A' len' cap' l → Calls Try.prog 14 #[.agg #[.int .u32 g, .slice A' len' cap', .int .i64 h, .int .i64 t, .bool p], .int .i64 (j : Int), .agg #[.int .i64 a, .int .i64 ty, .int .u64 key, .int .u64 other, .bool ap]] W (ActP W A' len' cap' l (refR (j : Int) R))) :=
        Lib.hid fun W A' len' cap' hS => by rw [← HR.out]; exact ract_any ⟨g, l, h, t, p⟩ A' len' cap' W hS (by have h1 := hS.1; have h2 := (sound_iff.1 Hso.out).1; omega) Hso.out j hj a ty key other ap
      have Kto : Hid (∀ W, Calls Try.prog 15 #[.agg #[.int .i64 a, .int .i64 ty, .int .u64 key, .int .u64 other, .bool ap]] W (Ret (.agg #[.int .i64 a, .int .i64 ty, .int .u64 key, .int .u64 other, .bool ap]) W)) := Lib.hid fun W => told_any a ty key other ap W
      obtain ⟨hsR, _⟩ := act_sound (T := ⟨g, l, h, t, p⟩) Hso.out (j : Int) a ty key other (by omega) (by omega) ap
      have hfR := act_fine ⟨g, l, h, t, p⟩ (j : Int) a ty key other ap
      rw [HR.out] at hsR hfR
      have hl6 : l.length ≤ 6 := (sound_iff.1 Hso.out).1
      obtain ⟨⟨g8, l8, h8, t8, p8⟩, st8, gn8⟩ := R
      simp only at hsR
      have Ka : Hid (∀ W A' len' cap', SlR W A' len' cap' l → Calls Try.prog 13 #[.agg #[.int .u32 g, .slice A' len' cap', .int .i64 h, .int .i64 t, .bool p], .int .i64 (j : Int), .agg #[.int .i64 a, .int .i64 ty, .int .u64 key, .int .u64 other, .bool ap]] W (fun e w' => ∃ A len cap u, e = .returned (.tuple #[.agg #[.int .u32 g8, .slice A len cap, .int .i64 h8, .int .i64 t8, .bool p8], .int .i64 st8, u]) ∧ OwnR W.heap.size w' (.slice A len cap) l8 ∧ OwnI W.heap.size w' u (keepN (j : Int) gn8) ∧ Below W.heap.size W w')) := Ka
      have Kra : Hid (∀ W A' len' cap', SlR W A' len' cap' l → Calls Try.prog 14 #[.agg #[.int .u32 g, .slice A' len' cap', .int .i64 h, .int .i64 t, .bool p], .int .i64 (j : Int), .agg #[.int .i64 a, .int .i64 ty, .int .u64 key, .int .u64 other, .bool ap]] W (fun e w' => ∃ A len cap u, e = .returned (.tuple #[.agg #[.int .u32 g8, .slice A len cap, .int .i64 h8, .int .i64 t8, .bool p8], .int .i64 st8, u]) ∧ KeptR W A' len' cap' l A len cap l8 w' ∧ OwnI W.heap.size w' u (keepN (j : Int) gn8) ∧ Below W.heap.size W w')) := Kra
      have hl86 : l8.length ≤ 6 := (sound_iff.1 hsR).1
      have HsR := Lib.hid hsR; have HfR := Lib.hid hfR
      clear hsR hfR HR
      go_upto_region 12 with (fail)
      have hy := heap_alloc_new w5 (.cells #[.int .u32 g, .slice A1 n1 c1, .int .i64 h, .int .i64 t, .bool p] 25)
      have hb56 := bel1 w5 (.cells #[.int .u32 g, .slice A1 n1 c1, .int .i64 h, .int .i64 t, .bool p] 25)
      obtain ⟨y, Hy⟩ : ∃ y, Hid (w5.heap.size = y) := ⟨_, Lib.hid rfl⟩
      have hzy : z < y := by rw [← Hy.out]; exact zl
      rw [Hy.out] at hy
      have hT6 := (hb56.block tb tl).trans HT5.out
      have hM6 := (hb56.block mb (by omega)).trans HM5.out
      have hZ6 := (hb56.block z zl).trans HZ5.out
      have hO16 := HO15.out.below hb56
      have hO26 := HO25.out.below hb56
      have hB6 := stepB HB5.out hb56
      generalize w5.alloc (.cells #[.int .u32 g, .slice A1 n1 c1, .int .i64 h, .int .i64 t, .bool p] 25) = w6 at hy hT6 hM6 hZ6 hO16 hO26 hB6 ⊢
      rw [Hy.out]
      have HY6 := Lib.hid hy; have HT6 := Lib.hid hT6; have HM6 := Lib.hid hM6; have HZ6 := Lib.hid hZ6; have HO16 := Lib.hid hO16; have HO26 := Lib.hid hO26; have HB6 := Lib.hid hB6
      clear hy hb56 hT6 hM6 hZ6 hO16 hO26 hB6 HT5 HM5 HZ5 HO15 HO25 HB5 Hy zl z0 z1 z2 z3 z4 z5 zf tl t0 t1 t2 t3 t4 tf
      obtain ⟨zl, z0, z1, z2, z3, z4, z5, zf⟩ := box6 HZ6.out
      obtain ⟨tl, t0, t1, t2, t3, t4, tf⟩ := box5 HT6.out
      have hyl : y < w6.heap.size := (Array.getElem?_eq_some_iff.1 HY6.out).1
      have hwl : w.heap.size ≤ w6.heap.size := by omega
      go_upto_region 13 with (go_at_call 13; refine (Ka.out _ _ _ _ (OwnR.sl2 HO16.out)).mono ?_; rintro e w7 ⟨A3, n3, c3, u3, rfl, ho7, hi7, hb7⟩; have hT7 := (hb7.block tb tl).trans HT6.out; obtain ⟨ql, q0, q1, q2, q3, q4, qf⟩ := box5 hT7; clear hi7)
      have hT8 := set5_heap hT7 (.int .u32 g8) (.slice A3 n3 c3) (.int .i64 h8) (.int .i64 t8) (.bool p8)
      have hoth : ∀ i, i ≠ tb → _ := fun i hi => set5_other (w := w7) (b := tb) (j := i) hi (.int .u32 g8) (.slice A3 n3 c3) (.int .i64 h8) (.int .i64 t8) (.bool p8)
      have hM8 := (hoth mb hmt).trans ((hb7.block mb (by omega)).trans HM6.out)
      have hZ8 := (hoth z (by omega)).trans ((hb7.block z zl).trans HZ6.out)
      have hY8 := (hoth y (by omega)).trans ((hb7.block y hyl).trans HY6.out)
      have hO38 := (ho7.lower hwl).keep hoth hT7 (by decide)
      have hO18 := (HO16.out.below hb7).keep hoth hT7 (by decide)
      have hO28 := (HO26.out.below hb7).keep hoth hT7 (by decide)
      have hB8 := set5B (stepB HB6.out hb7) hwt (.int .u32 g8) (.slice A3 n3 c3) (.int .i64 h8) (.int .i64 t8) (.bool p8)
      generalize (((((w7.setCell ⟨tb, 0, none⟩ (.int .u32 g8)).setCell ⟨tb, 1, none⟩ (.slice A3 n3 c3)).setCell ⟨tb, 2, none⟩ (.int .i64 h8)).setCell ⟨tb, 3, none⟩ (.int .i64 t8)).setCell ⟨tb, 4, none⟩ (.bool p8)) = w8 at hT8 hoth hM8 hZ8 hY8 hO38 hO18 hO28 hB8 ⊢
      have HT8 := Lib.hid hT8; have HM8 := Lib.hid hM8; have HZ8 := Lib.hid hZ8; have HY8 := Lib.hid hY8; have HO38 := Lib.hid hO38; have HO18 := Lib.hid hO18; have HO28 := Lib.hid hO28; have HB8 := Lib.hid hB8
      clear hT8 hoth hM8 hZ8 hY8 hO38 hO18 hO28 hB8 hT7 hb7 ho7 ql q0 q1 q2 q3 q4 qf zl z0 z1 z2 z3 z4 z5 zf tl t0 t1 t2 t3 t4 tf HY6 HT6 HM6 HZ6 HO16 HO26 HB6 Ka hyl hwl
      have hml8 : mb < w8.heap.size := (Array.getElem?_eq_some_iff.1 HM8.out).1
      have htl8 : tb < w8.heap.size := (Array.getElem?_eq_some_iff.1 HT8.out).1
      have hyl8 : y < w8.heap.size := (Array.getElem?_eq_some_iff.1 HY8.out).1
      have hwl8 : w.heap.size ≤ w8.heap.size := by omega
      obtain ⟨zl, z0, z1, z2, z3, z4, z5, zf⟩ := box6 HZ8.out
      refine wp_region_up 6 (fun W => Below w8.heap.size w8 W) (by kernel_rfl) ?_
      have hS : Below w8.heap.size w8 (World.drew w8) := (Below.refl _ _).drew
      change upHead _ _ _ _ _ _ _ _ _ (World.drew w8)
      generalize World.drew w8 = wd at hS ⊢
      refine up_bar (by kernel_rfl) (by kernel_rfl) (fun hbar => ?_)
      refine upb_takeH hbar (i := 0) (v := .agg #[.int .u32 g, .slice A2 n2 c2, .int .i64 h, .int .i64 t, .bool p]) rfl (by kernel_rfl) (fun _ _ _ h => h) (Or.inl ⟨by rfl, ?_⟩) hS ?_
      · intro W hW; exact exec_load5 rfl rfl (load5 ((hW.block _ hml8).trans HM8.out) Try.underlying25 infoTb)
      try simp only [List.getElem_toArray, List.getElem_cons_succ, List.getElem_cons_zero, Act.put, List.setIfInBounds_toArray, List.set]
      refine upb_takeH hbar (i := 1) (v := .pointer (some ⟨z, 0, none⟩)) rfl (by kernel_rfl) (fun _ _ _ h => h) (Or.inl ⟨by rfl, ?_⟩) hS ?_
      · intro W hW; go_simp
      try simp only [List.getElem_toArray, List.getElem_cons_succ, List.getElem_cons_zero, Act.put, List.setIfInBounds_toArray, List.set]
      refine upb_takeH hbar (i := 2) (v := .int .i64 (j : Int)) rfl (by kernel_rfl) (fun _ _ _ h => h) (Or.inl ⟨by rfl, ?_⟩) hS ?_
      · intro W hW; have e1 := (hW.cell (p := ⟨z, 0, none⟩) zl).trans z0; go_simp
      try simp only [List.getElem_toArray, List.getElem_cons_succ, List.getElem_cons_zero, Act.put, List.setIfInBounds_toArray, List.set]
      refine upb_takeH hbar (i := 3) (v := .pointer (some ⟨z, 1, none⟩)) rfl (by kernel_rfl) (fun _ _ _ h => h) (Or.inl ⟨by rfl, ?_⟩) hS ?_
      · intro W hW; go_simp
      try simp only [List.getElem_toArray, List.getElem_cons_succ, List.getElem_cons_zero, Act.put, List.setIfInBounds_toArray, List.set]
      refine upb_takeH hbar (i := 4) (v := .agg #[.int .i64 a, .int .i64 ty, .int .u64 key, .int .u64 other, .bool ap]) rfl (by kernel_rfl) (fun _ _ _ h => h) (Or.inl ⟨by rfl, ?_⟩) hS ?_
      · intro W hW; exact exec_load_at rfl rfl (load_ord ((hW.block _ zl).trans HZ8.out))
      try simp only [List.getElem_toArray, List.getElem_cons_succ, List.getElem_cons_zero, Act.put, List.setIfInBounds_toArray, List.set]
      refine up_one 5 _ rfl (by kernel_rfl) (by decide) (by rfl) (fun K hK => ?_)
      go_simp
      refine (Kto.out _).mono ?_
      rintro e w9 ⟨rfl, hb9⟩
      have hS9 : Below w8.heap.size w8 w9 := stepB hS hb9
      refine hK _ _ hS9 ?_
      clear hK K hb9 hS
      try simp only [List.getElem_toArray, List.getElem_cons_succ, List.getElem_cons_zero, Act.put, List.setIfInBounds_toArray, List.set]
      clear hbar
      refine up_held (fun _ => True) (by kernel_rfl) ?_
      refine wpAnyH_one 6 _ rfl (by kernel_rfl) (by rfl) (fun K hK => ?_)
      go_simp
      refine (Kra.out _ _ _ _ (OwnR.sl2 (HO28.out.below hS9))).mono ?_
      rintro e w10 ⟨A4, n4, c4, u4, rfl, hk10, hi10, hb10⟩
      have hS10 : Below w8.heap.size w8 w10 := stepB hS9 hb10
      have hM10 := (hS10.block mb hml8).trans HM8.out
      have hO4 : OwnR w.heap.size w10 (.slice A4 n4 c4) l8 := hk10.own (HO28.out.below hS9) hb10 (by have := hS9.size; omega)
      obtain ⟨ml, m0, m1, m2, m3, m4, mf⟩ := box5 hM10
      refine hK _ _ True.intro ?_
      clear hK K
      try simp only [List.getElem_toArray, List.getElem_cons_succ, List.getElem_cons_zero, Act.put, List.setIfInBounds_toArray, List.set]
      refine wpAnyH_take (i := 7) (v := .tuple #[.agg #[.int .u32 g8, .slice A4 n4 c4, .int .i64 h8, .int .i64 t8, .bool p8], .int .i64 st8, u4]) rfl (by kernel_rfl) (by kernel_rfl) (by kernel_rfl) (fun _ _ _ h => h) (Or.inl ⟨by rfl, ?_⟩) True.intro ?_
      · intro W hW; go_simp
      try simp only [List.getElem_toArray, List.getElem_cons_succ, List.getElem_cons_zero, Act.put, List.setIfInBounds_toArray, List.set]
      refine wpAnyH_take (i := 8) (v := .agg #[.int .u32 g8, .slice A4 n4 c4, .int .i64 h8, .int .i64 t8, .bool p8]) rfl (by kernel_rfl) (by kernel_rfl) (by kernel_rfl) (fun _ _ _ h => h) (Or.inl ⟨by rfl, ?_⟩) True.intro ?_
      · intro W hW; go_simp
      try simp only [List.getElem_toArray, List.getElem_cons_succ, List.getElem_cons_zero, Act.put, List.setIfInBounds_toArray, List.set]
      refine wpAnyH_take (i := 9) (v := .int .i64 st8) rfl (by kernel_rfl) (by kernel_rfl) (by kernel_rfl) (fun _ _ _ h => h) (Or.inl ⟨by rfl, ?_⟩) True.intro ?_
      · intro W hW; go_simp
      try simp only [List.getElem_toArray, List.getElem_cons_succ, List.getElem_cons_zero, Act.put, List.setIfInBounds_toArray, List.set]
      refine wpAnyH_take (i := 10) (v := u4) rfl (by kernel_rfl) (by kernel_rfl) (by kernel_rfl) (fun _ _ _ h => h) (Or.inl ⟨by rfl, ?_⟩) True.intro ?_
      · intro W hW; go_simp
      try simp only [List.getElem_toArray, List.getElem_cons_succ, List.getElem_cons_zero, Act.put, List.setIfInBounds_toArray, List.set]
      refine wpAnyH_one 11 _ rfl (by kernel_rfl) (by rfl) (fun K hK => ?_)
      go_simp
      refine hK _ _ True.intro ?_
      clear hK K
      try simp only [List.getElem_toArray, List.getElem_cons_succ, List.getElem_cons_zero, Act.put, List.setIfInBounds_toArray, List.set]
      refine wpAnyH_take (i := 12) (v := .int .i64 st8) rfl (by kernel_rfl) (by kernel_rfl) (by kernel_rfl) (fun _ _ _ h => h) (Or.inl ⟨by rfl, ?_⟩) True.intro ?_
      · intro W hW; go_simp
      try simp only [List.getElem_toArray, List.getElem_cons_succ, List.getElem_cons_zero, Act.put, List.setIfInBounds_toArray, List.set]
      refine wpAnyH_done (by kernel_rfl) ?_ _
      have hM11 := set5_heap hM10 (.int .u32 g8) (.slice A4 n4 c4) (.int .i64 h8) (.int .i64 t8) (.bool p8)
      have hoth : ∀ i, i ≠ mb → _ := fun i hi => set5_other (w := w10) (b := mb) (j := i) hi (.int .u32 g8) (.slice A4 n4 c4) (.int .i64 h8) (.int .i64 t8) (.bool p8)
      have hT11 := (hoth tb htm).trans ((hS10.block tb htl8).trans HT8.out)
      have hY11 := (hoth y (by omega)).trans ((hS10.block y hyl8).trans HY8.out)
      have hO311 := (HO38.out.below hS10).keep hoth hM10 (by decide)
      have hO111 := (HO18.out.below hS10).keep hoth hM10 (by decide)
      have hO411 := hO4.keep hoth hM10 (by decide)
      have hB11 := set5B (stepB HB8.out hS10) hwb (.int .u32 g8) (.slice A4 n4 c4) (.int .i64 h8) (.int .i64 t8) (.bool p8)
      generalize (((((w10.setCell ⟨mb, 0, none⟩ (.int .u32 g8)).setCell ⟨mb, 1, none⟩ (.slice A4 n4 c4)).setCell ⟨mb, 2, none⟩ (.int .i64 h8)).setCell ⟨mb, 3, none⟩ (.int .i64 t8)).setCell ⟨mb, 4, none⟩ (.bool p8)) = w11 at hM11 hoth hT11 hY11 hO311 hO111 hO411 hB11 ⊢
      have HT11 := Lib.hid hT11; have HM11 := Lib.hid hM11; have HY11 := Lib.hid hY11; have HO311 := Lib.hid hO311; have HO111 := Lib.hid hO111; have HO411 := Lib.hid hO411; have HB11 := Lib.hid hB11
      clear hT11 hM11 hY11 hO311 hO111 hO411 hB11 hoth hM10 hO4 hk10 hi10 hb10 hS10 hS9 ml m0 m1 m2 m3 m4 mf zl z0 z1 z2 z3 z4 z5 zf hml8 htl8 hyl8 hwl8 HT8 HM8 HZ8 HY8 HO38 HO18 HO28 HB8 Kra Kto
      obtain ⟨tl, t0, t1, t2, t3, t4, tf⟩ := box5 HT11.out
      obtain ⟨ml, m0, m1, m2, m3, m4, mf⟩ := box5 HM11.out
      obtain ⟨yl, y0, y1, y2, y3, y4, yf⟩ := box5 HY11.out
      have Ksm : Hid (∀ W, Below w11.heap.size w11 W → Calls Try.prog 16 #[.agg #[.int .u32 g8, .slice A3 n3 c3, .int .i64 h8, .int .i64 t8, .bool p8], .agg #[.int .u32 g8, .slice A4 n4 c4, .int .i64 h8, .int .i64 t8, .bool p8]] W (Ret (.bool true) W)) :=
        Lib.hid fun W hb => same_any ⟨g8, l8, h8, t8, p8⟩ A3 A4 n3 n4 c3 c4 W hl86 (OwnR.sl2 (HO311.out.below hb)) (OwnR.sl2 (HO411.out.below hb))
      have Ksd : Hid (∀ W, Below w11.heap.size w11 W → Calls Try.prog 11 #[.agg #[.int .u32 g8, .slice A3 n3 c3, .int .i64 h8, .int .i64 t8, .bool p8]] W (Ret (.bool true) W)) :=
        Lib.hid fun W hb => by
          rw [← HsR.out]
          have hS3 := OwnR.sl2 (HO311.out.below hb)
          exact sound_any g8 h8 t8 p8 A3 n3 c3 l8 W hS3.1 (by have h1 := hS3.1; omega) hS3.2.2.2
      have Ksw : st8 ≠ 0 → Hid (∀ W, Below w11.heap.size w11 W → Calls Try.prog 16 #[.agg #[.int .u32 g8, .slice A3 n3 c3, .int .i64 h8, .int .i64 t8, .bool p8], .agg #[.int .u32 g, .slice A1 n1 c1, .int .i64 h, .int .i64 t, .bool p]] W (Ret (.bool true) W)) := fun hne =>
        Lib.hid fun W hb => by
          have e := HfR.out.1 hne
          simp only [Tb.mk.injEq] at e
          obtain ⟨e1, e2, e3, e4, e5⟩ := e
          rw [← e1, ← e3, ← e4, ← e5]
          have hw := OwnR.sl2 (HO111.out.below hb)
          rw [← e2] at hw
          exact same_any ⟨g8, l8, h8, t8, p8⟩ A3 A1 n3 n1 c3 c1 W hl86 (OwnR.sl2 (HO311.out.below hb)) hw
      have hss : (st8 != st8) = false := by simp
      by_cases hs0 : st8 = 0
      · have hs0b : (st8 != 0) = false := by simpa using hs0
        clear hs0 Ksw
        have tok1 : True := trivial
        have tok2 : True := trivial
        go_upto_region 16 with (first
          | (go_at_call 16; have _t := tok1; refine (Ksm.out _ (Below.refl _ _)).mono ?_; rintro e x1 ⟨rfl, hx1⟩; have HX1 := Lib.hid hx1; have hT12 := (hx1.block tb tl).trans HT11.out; have hY12 := (hx1.block y yl).trans HY11.out; clear hx1 tok1; obtain ⟨sl, s0, s1, s2, s3, s4, sf⟩ := box5 hT12)
          | (go_at_call 11; refine (Ksd.out _ HX1.out).mono ?_; rintro e x2 ⟨rfl, hx2⟩; have HX2 := Lib.hid (stepB HX1.out hx2); have hT13 := (hx2.block tb sl).trans hT12; have hY13 := (hx2.block y (Array.getElem?_eq_some_iff.1 hY12).1).trans hY12; clear hx2; obtain ⟨rl, r0, r1, r2, r3, r4, rf⟩ := box5 hT13; obtain ⟨vl, v0, v1, v2, v3, v4, vf⟩ := box5 hY13)
          | (go_at_call 16; have _t := tok2; refine (Ksw.out _ HX2.out).mono ?_; rintro e x3 ⟨rfl, hx3⟩; have HX3 := Lib.hid (stepB HX2.out hx3); have hT14 := (hx3.block tb rl).trans hT13; have hY14 := (hx3.block y vl).trans hY13; clear hx3 tok2; obtain ⟨kl, k0, k1, k2, k3, k4, kf⟩ := box5 hT14; obtain ⟨jl, j0, j1, j2, j3, j4, jf⟩ := box5 hY14))
        by_cases hgg8 : g8 = g
        · have hg8 : (g8 != g) = false := by simpa using hgg8
          have HG8 := Lib.hid hgg8
          clear hgg8
          go_wp2
          go_roundg (len - (k + 1))
          case measure => omega
          case rel => exact ⟨k + 1, ⟨g8, l8, h8, t8, p8⟩, A3, n3, c3, A4, n4, c4, rfl, by omega, by go_num, by rw [HG8.out], HsR, Lib.hid ((HX2.out.block tb (Array.getElem?_eq_some_iff.1 HT11.out).1).trans HT11.out), Lib.hid ((HX2.out.block mb (Array.getElem?_eq_some_iff.1 HM11.out).1).trans HM11.out), Lib.hid (HO311.out.below HX2.out), Lib.hid (HO411.out.below HX2.out), stepB HB11.out HX2.out⟩
        · have hg8 : (g8 != g) = true := by simpa using hgg8
          have hwG : IntKind.u32.wrap (g + 1) = g8 := (HfR.out.2.resolve_left hgg8).symm
          clear hgg8
          go_wp2
          go_roundg (len - (k + 1))
          case measure => omega
          case rel => exact ⟨k + 1, ⟨g8, l8, h8, t8, p8⟩, A3, n3, c3, A4, n4, c4, rfl, by omega, by go_num, rfl, HsR, Lib.hid ((HX2.out.block tb (Array.getElem?_eq_some_iff.1 HT11.out).1).trans HT11.out), Lib.hid ((HX2.out.block mb (Array.getElem?_eq_some_iff.1 HM11.out).1).trans HM11.out), Lib.hid (HO311.out.below HX2.out), Lib.hid (HO411.out.below HX2.out), stepB HB11.out HX2.out⟩
      · have hs0b : (st8 != 0) = true := by simpa using hs0
        have Ksw := Ksw hs0
        clear hs0
        have tok1 : True := trivial
        have tok2 : True := trivial
        go_upto_region 16 with (first
          | (go_at_call 16; have _t := tok1; refine (Ksm.out _ (Below.refl _ _)).mono ?_; rintro e x1 ⟨rfl, hx1⟩; have HX1 := Lib.hid hx1; have hT12 := (hx1.block tb tl).trans HT11.out; have hY12 := (hx1.block y yl).trans HY11.out; clear hx1 tok1; obtain ⟨sl, s0, s1, s2, s3, s4, sf⟩ := box5 hT12)
          | (go_at_call 11; refine (Ksd.out _ HX1.out).mono ?_; rintro e x2 ⟨rfl, hx2⟩; have HX2 := Lib.hid (stepB HX1.out hx2); have hT13 := (hx2.block tb sl).trans hT12; have hY13 := (hx2.block y (Array.getElem?_eq_some_iff.1 hY12).1).trans hY12; clear hx2; obtain ⟨rl, r0, r1, r2, r3, r4, rf⟩ := box5 hT13; obtain ⟨vl, v0, v1, v2, v3, v4, vf⟩ := box5 hY13)
          | (go_at_call 16; have _t := tok2; refine (Ksw.out _ HX2.out).mono ?_; rintro e x3 ⟨rfl, hx3⟩; have HX3 := Lib.hid (stepB HX2.out hx3); have hT14 := (hx3.block tb rl).trans hT13; have hY14 := (hx3.block y vl).trans hY13; clear hx3 tok2; obtain ⟨kl, k0, k1, k2, k3, k4, kf⟩ := box5 hT14; obtain ⟨jl, j0, j1, j2, j3, j4, jf⟩ := box5 hY14))
        by_cases hgg8 : g8 = g
        · have hg8 : (g8 != g) = false := by simpa using hgg8
          have HG8 := Lib.hid hgg8
          clear hgg8
          go_wp2
          go_roundg (len - (k + 1))
          case measure => omega
          case rel => exact ⟨k + 1, ⟨g8, l8, h8, t8, p8⟩, A3, n3, c3, A4, n4, c4, rfl, by omega, by go_num, by rw [HG8.out], HsR, Lib.hid ((HX3.out.block tb (Array.getElem?_eq_some_iff.1 HT11.out).1).trans HT11.out), Lib.hid ((HX3.out.block mb (Array.getElem?_eq_some_iff.1 HM11.out).1).trans HM11.out), Lib.hid (HO311.out.below HX3.out), Lib.hid (HO411.out.below HX3.out), stepB HB11.out HX3.out⟩
        · have hg8 : (g8 != g) = true := by simpa using hgg8
          have hwG : IntKind.u32.wrap (g + 1) = g8 := (HfR.out.2.resolve_left hgg8).symm
          clear hgg8
          go_wp2
          go_roundg (len - (k + 1))
          case measure => omega
          case rel => exact ⟨k + 1, ⟨g8, l8, h8, t8, p8⟩, A3, n3, c3, A4, n4, c4, rfl, by omega, by go_num, rfl, HsR, Lib.hid ((HX3.out.block tb (Array.getElem?_eq_some_iff.1 HT11.out).1).trans HT11.out), Lib.hid ((HX3.out.block mb (Array.getElem?_eq_some_iff.1 HM11.out).1).trans HM11.out), Lib.hid (HO311.out.below HX3.out), Lib.hid (HO411.out.below HX3.out), stepB HB11.out HX3.out⟩
    · obtain rfl : k = len := by omega
      have hltz : ¬ ((k : Int) < (k : Int)) := by omega
      obtain ⟨tl, t0, t1, t2, t3, t4, tf⟩ := box5 HT.out
      have hgg : (g == g) = true := by simp
      clear hb
      go_wp2
      go_ret
      exact ⟨rfl, HB.out⟩
end Go.Proofs.Ytkpogmigfjmacaa
