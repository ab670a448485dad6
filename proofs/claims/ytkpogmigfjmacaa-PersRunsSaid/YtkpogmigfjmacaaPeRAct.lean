/-
  The document's answer: Act, of a table that can be and a nexus.
-/
import Derived.Test.YtkpogmigfjmacaaPeRPre
set_option linter.unusedSimpArgs false
set_option linter.unusedVariables false
namespace Go.Proofs.Ytkpogmigfjmacaa
open Go.RowKit

set_option maxRecDepth 100000 in
set_option maxHeartbeats 16000000 in
theorem ract_any (T : Tb) (A : Option Addr) (len cap : Nat) (w : World) (hS : SlR w A len cap T.l) (hm : len ≤ 6) (hso : soundB T.l T.h T.t = true) (j : Nat) (hj : j < 8) (a ty key other : Int) (ap : Bool) :
    Calls Try.prog 14 #[.agg #[.int .u32 T.g, .slice A len cap, .int .i64 T.h, .int .i64 T.t, .bool T.p], .int .i64 (j : Int), .agg #[.int .i64 a, .int .i64 ty, .int .u64 key, .int .u64 other, .bool ap]] w (ActP w A len cap T.l (refR (j : Int) (actL T (j : Int) a ty key other ap))) := by
  obtain ⟨g, l, h, t, p⟩ := T
  simp only at hS hso ⊢
  obtain ⟨hs1, hr, hs3⟩ := sound_iff.1 hso
  obtain ⟨pv, Hpv⟩ : ∃ x, Hid ((arrV (keyL l)).toArray = x) := ⟨_, Lib.hid rfl⟩
  have Kk : Hid (∀ W, Below w.heap.size w W → Calls Try.prog 28 #[.agg #[.int .u32 g, .slice A len cap, .int .i64 h, .int .i64 t, .bool p]] W (fun e w' => e = .returned (.agg pv) ∧ Below W.heap.size W w')) :=
    Lib.hid fun W hb => keysP g h t p A len cap l W (hS.below hb) hm hr Hpv.out
  obtain ⟨R, HR⟩ : ∃ x, Hid (refR (j : Int) (actL ⟨g, l, h, t, p⟩ (j : Int) a ty key other ap) = x) := ⟨_, Lib.hid rfl⟩
  rw [HR.out]
  obtain ⟨own, Hown⟩ : ∃ own, Hid (keyL l (j : Int) = own) := ⟨_, Lib.hid rfl⟩
  obtain ⟨tb, Htb⟩ : ∃ x, Hid (isTyB ty = x) := ⟨_, Lib.hid rfl⟩
  have Ky : Hid (∀ W, Calls Try.prog 27 #[.int .i64 ty] W (fun e w' => e = .returned (.bool tb) ∧ W = w')) := Lib.hid fun W => by rw [← Htb.out]; exact known_any ty W
  obtain ⟨hb, Hhb⟩ : ∃ x, Hid (holdsB l h t (j : Int) = x) := ⟨_, Lib.hid rfl⟩
  have Kh : Hid (∀ W, Below w.heap.size w W → Calls Try.prog 19 #[.agg #[.int .u32 g, .slice A len cap, .int .i64 h, .int .i64 t, .bool p], .int .i64 (j : Int)] W (Ret (.bool hb) W)) := Lib.hid fun W hbl => by
    rw [← Hhb.out]; exact rholds_any g h t p A len cap l W (hS.below hbl) hm hr (j : Int)
  have hix : ∀ W : World, (Instr.index 57 (.agg pv) (.int .i64 (j : Int))).run Try.prog W = .ok (.int .u64 own) W := fun W => by
    rw [← Hown.out]
    exact run_index_row (P := Try.prog) 57 26 8 Try.underlying57 Try.underlying26 (by kernel_rfl) pv j hj (.int .u64 (keyL l (j : Int))) (by rw [← Hpv.out, List.getElem?_toArray]; exact arrV_at _ hj) W
  have HS := Lib.hid hS; have Hso := Lib.hid hso
  clear hS hso hr hs1 hs3
  go_enter Try.func14, Try.ntmps14
  go_upto_region 1 with (fail)
  obtain ⟨hx, hy, hz⟩ := heap_alloc3 w (.cells #[.int .u32 g, .slice A len cap, .int .i64 h, .int .i64 t, .bool p] 25) (.cells #[.int .i64 a, .int .i64 ty, .int .u64 key, .int .u64 other, .bool ap] 35) (.cells #[.int .u32 0, .slice none 0 0, .int .i64 0, .int .i64 0, .bool false] 25)
  have hb0 := bel3 w (.cells #[.int .u32 g, .slice A len cap, .int .i64 h, .int .i64 t, .bool p] 25) (.cells #[.int .i64 a, .int .i64 ty, .int .u64 key, .int .u64 other, .bool ap] 35) (.cells #[.int .u32 0, .slice none 0 0, .int .i64 0, .int .i64 0, .bool false] 25)
  try simp only [World.size_alloc]
  generalize ((w.alloc (.cells #[.int .u32 g, .slice A len cap, .int .i64 h, .int .i64 t, .bool p] 25)).alloc (.cells #[.int .i64 a, .int .i64 ty, .int .u64 key, .int .u64 other, .bool ap] 35)).alloc (.cells #[.int .u32 0, .slice none 0 0, .int .i64 0, .int .i64 0, .bool false] 25) = w0 at hx hy hz hb0 ⊢
  obtain ⟨xl0, x0_0, x1_0, x2_0, x3_0, x4_0, xf0⟩ := box5 hx
  obtain ⟨ol0, o0_0, o1_0, o2_0, o3_0, o4_0, of0⟩ := box5 hy
  obtain ⟨rl0, r0_0, r1_0, r2_0, r3_0, r4_0, rf0⟩ := box5 hz
  go_upto_region 2 with (go_at_call 28; refine (Kk.out _ hb0).mono ?_; rintro e w1 ⟨rfl, hb1⟩)
  have HX1 := Lib.hid ((hb1.block w.heap.size xl0).trans hx); have HY1 := Lib.hid ((hb1.block (w.heap.size + 1) ol0).trans hy); have HZ1 := Lib.hid ((hb1.block (w.heap.size + 1 + 1) rl0).trans hz); have HB1 := Lib.hid (stepB hb0 hb1)
  clear hx hy hz hb0 hb1 hix Kk xl0 x0_0 x1_0 x2_0 x3_0 x4_0 xf0 ol0 o0_0 o1_0 o2_0 o3_0 o4_0 of0 rl0 r0_0 r1_0 r2_0 r3_0 r4_0 rf0
  obtain ⟨xl1, x0_1, x1_1, x2_1, x3_1, x4_1, xf1⟩ := box5 HX1.out
  obtain ⟨ol1, o0_1, o1_1, o2_1, o3_1, o4_1, of1⟩ := box5 HY1.out
  obtain ⟨rl1, r0_1, r1_1, r2_1, r3_1, r4_1, rf1⟩ := box5 HZ1.out
  by_cases a0 : a < 0
  · have a0d : decide (a < 0) = true := decide_eq_true a0
    have Ha0 := Lib.hid a0
    obtain rfl : R = (⟨g, l, h, t, p⟩, 2, []) := by
      rw [← HR.out]
      simp only [actL]
      rw [if_neg (by have := Ha0.out; omega), if_pos (.inl Ha0.out)]
      rfl
    clear HR
    go_wp2_with (fail)
    exact bodyPost_ret (v := .tuple #[.agg #[.int .u32 g, .slice A len cap, .int .i64 h, .int .i64 t, .bool p], .int .i64 2, .slice none 0 0]) (by simp [results, Try.results14, go_sem, r0_1, r1_1, r2_1, r3_1, r4_1, rl1, xl1]) rfl
      ⟨A, len, cap, .slice none 0 0, rfl, .inl ⟨rfl, rfl, rfl, rfl⟩, OwnI.nil _ _, set5B HB1.out (by omega) _ _ _ _ _⟩
  have a0d : decide (a < 0) = false := decide_eq_false a0
  have a0' : 0 ≤ a := by omega
  clear a0
  by_cases a6 : 6 < a
  · have a6d : decide (6 < a) = true := decide_eq_true a6
    have Ha6 := Lib.hid a6
    obtain rfl : R = (⟨g, l, h, t, p⟩, 2, []) := by
      rw [← HR.out]
      simp only [actL]
      rw [if_neg (by have := Ha6.out; omega), if_pos (.inr Ha6.out)]
      rfl
    clear HR
    go_wp2_with (fail)
    exact bodyPost_ret (v := .tuple #[.agg #[.int .u32 g, .slice A len cap, .int .i64 h, .int .i64 t, .bool p], .int .i64 2, .slice none 0 0]) (by simp [results, Try.results14, go_sem, r0_1, r1_1, r2_1, r3_1, r4_1, rl1, xl1]) rfl
      ⟨A, len, cap, .slice none 0 0, rfl, .inl ⟨rfl, rfl, rfl, rfl⟩, OwnI.nil _ _, set5B HB1.out (by omega) _ _ _ _ _⟩
  have ha : a = 0 ∨ a = 6 ∨ a = 1 ∨ a = 2 ∨ a = 3 ∨ a = 4 ∨ a = 5 := by omega
  clear a0' a0d a6
  rcases ha with rfl | rfl | rfl | rfl | rfl | rfl | rfl
  · have Kc : Hid (∀ W, Below w.heap.size w W → Calls Try.prog 33 #[.agg #[.int .u32 g, .slice A len cap, .int .i64 h, .int .i64 t, .bool p], .int .i64 (j : Int), .agg #[.int .i64 0, .int .i64 ty, .int .u64 key, .int .u64 other, .bool ap]] W (ActP W A len cap l R)) := Lib.hid fun W hb => by
      have e : refR (j : Int) (regL ⟨g, l, h, t, p⟩ (j : Int) 0 key other ap) = R := by
        rw [← HR.out]
        simp only [actL]
        rw [if_pos (by decide)]
      rw [← e]; exact rregister_any g h t p A len cap l W (HS.out.below hb) hm Hso.out j hj 0 ty key other ap
    clear HR
    obtain ⟨⟨g8, l8, h8, t8, p8⟩, st8, gn8⟩ := R
    have hws1 : w.heap.size ≤ w1.heap.size := by omega
    go_wp2_with (go_at_call 33; refine (Kc.out _ HB1.out).mono ?_; rintro e w3 ⟨A3, n3, c3, u3, rfl, hk3, hi3, hb3⟩; have hz3 := (hb3.block (w.heap.size + 1 + 1) rl1).trans HZ1.out; obtain ⟨rl3, r0_3, r1_3, r2_3, r3_3, r4_3, rf3⟩ := box5 hz3)
    exact bodyPost_ret (v := .tuple #[.agg #[.int .u32 g8, .slice A3 n3 c3, .int .i64 h8, .int .i64 t8, .bool p8], .int .i64 st8, u3]) (by simp [results, Try.results14, go_sem, r0_3, r1_3, r2_3, r3_3, r4_3, rl3]) rfl
      ⟨A3, n3, c3, u3, rfl, KeptR.fin hk3 (b := w.heap.size + 1 + 1) rl1 hws1 _ _ _ _ _, (hi3.set5 (b := w.heap.size + 1 + 1) rl1 _ _ _ _ _).lower hws1, set5B (stepB HB1.out hb3) (by omega) _ _ _ _ _⟩
  · have Kc : Hid (∀ W, Below w.heap.size w W → Calls Try.prog 33 #[.agg #[.int .u32 g, .slice A len cap, .int .i64 h, .int .i64 t, .bool p], .int .i64 (j : Int), .agg #[.int .i64 6, .int .i64 ty, .int .u64 key, .int .u64 other, .bool ap]] W (ActP W A len cap l R)) := Lib.hid fun W hb => by
      have e : refR (j : Int) (regL ⟨g, l, h, t, p⟩ (j : Int) 6 key other ap) = R := by
        rw [← HR.out]
        simp only [actL]
        rw [if_pos (by decide)]
      rw [← e]; exact rregister_any g h t p A len cap l W (HS.out.below hb) hm Hso.out j hj 6 ty key other ap
    clear HR
    obtain ⟨⟨g8, l8, h8, t8, p8⟩, st8, gn8⟩ := R
    have hws1 : w.heap.size ≤ w1.heap.size := by omega
    go_wp2_with (go_at_call 33; refine (Kc.out _ HB1.out).mono ?_; rintro e w3 ⟨A3, n3, c3, u3, rfl, hk3, hi3, hb3⟩; have hz3 := (hb3.block (w.heap.size + 1 + 1) rl1).trans HZ1.out; obtain ⟨rl3, r0_3, r1_3, r2_3, r3_3, r4_3, rf3⟩ := box5 hz3)
    exact bodyPost_ret (v := .tuple #[.agg #[.int .u32 g8, .slice A3 n3 c3, .int .i64 h8, .int .i64 t8, .bool p8], .int .i64 st8, u3]) (by simp [results, Try.results14, go_sem, r0_3, r1_3, r2_3, r3_3, r4_3, rl3]) rfl
      ⟨A3, n3, c3, u3, rfl, KeptR.fin hk3 (b := w.heap.size + 1 + 1) rl1 hws1 _ _ _ _ _, (hi3.set5 (b := w.heap.size + 1 + 1) rl1 _ _ _ _ _).lower hws1, set5B (stepB HB1.out hb3) (by omega) _ _ _ _ _⟩
  · by_cases o0 : own = 0
    · have o0b : (own == 0) = true := by simpa using o0
      have Ho0 := Lib.hid o0
      clear o0
      obtain rfl : R = (⟨g, l, h, t, p⟩, 24, []) := by
        rw [← HR.out]
        simp only [actL]
        rw [if_neg (by decide), if_neg (by decide)]
        rw [if_pos (show regB l (j : Int) = false by unfold regB; rw [show keyL l (j : Int) = own from Hown.out, Ho0.out]; rfl)]
        rfl
      clear HR
      go_wp2_with (fail)
      exact bodyPost_ret (v := .tuple #[.agg #[.int .u32 g, .slice A len cap, .int .i64 h, .int .i64 t, .bool p], .int .i64 24, .slice none 0 0]) (by simp [results, Try.results14, go_sem, r0_1, r1_1, r2_1, r3_1, r4_1, rl1, xl1]) rfl
        ⟨A, len, cap, .slice none 0 0, rfl, .inl ⟨rfl, rfl, rfl, rfl⟩, OwnI.nil _ _, set5B HB1.out (by omega) _ _ _ _ _⟩
    · have o0b : (own == 0) = false := by simpa using o0
      have Hreg : Hid (¬ regB l (j : Int) = false) := Lib.hid (by unfold regB; rw [show keyL l (j : Int) = own from Hown.out]; simpa using o0)
      clear o0
      by_cases ko : key = own
      · have kob : (key != own) = false := by simpa using ko
        have Hko : Hid (keyL l (j : Int) = key) := Lib.hid (by rw [show keyL l (j : Int) = own from Hown.out]; exact ko.symm)
        clear ko
        cases tb with
        | false =>
          obtain rfl : R = (⟨g, l, h, t, p⟩, 2, []) := by
            rw [← HR.out]
            simp only [actL]
            rw [if_neg (by decide), if_neg (by decide)]
            rw [if_neg Hreg.out, if_pos Hko.out]
            rw [if_pos trivial]
            unfold resvL
            rw [if_pos (show isTyB ty = false from Htb.out)]
            rfl
          clear HR
          go_wp2_with ((go_at_call 27; refine (Ky.out _).mono ?_; rintro e y ⟨rfl, rfl⟩))
          exact bodyPost_ret (v := .tuple #[.agg #[.int .u32 g, .slice A len cap, .int .i64 h, .int .i64 t, .bool p], .int .i64 2, .slice none 0 0]) (by simp [results, Try.results14, go_sem, r0_1, r1_1, r2_1, r3_1, r4_1, rl1, xl1]) rfl
            ⟨A, len, cap, .slice none 0 0, rfl, .inl ⟨rfl, rfl, rfl, rfl⟩, OwnI.nil _ _, set5B HB1.out (by omega) _ _ _ _ _⟩
        | true =>
          by_cases t0 : t = 0
          · have t0b : (t == 0) = true := by simpa using t0
            have Ht0 := Lib.hid t0
            clear t0
            go_upto_region 15 with (first | (go_at_call 19; refine (Kh.out _ HB1.out).mono ?_; rintro e w2 ⟨rfl, hb2⟩; have hx2 := (hb2.block w.heap.size xl1).trans HX1.out; have hy2 := (hb2.block (w.heap.size + 1) ol1).trans HY1.out; have hz2 := (hb2.block (w.heap.size + 1 + 1) rl1).trans HZ1.out; have HB2 := Lib.hid (stepB HB1.out hb2); clear hb2; obtain ⟨xl2, x0_2, x1_2, x2_2, x3_2, x4_2, xf2⟩ := box5 hx2; obtain ⟨ol2, o0_2, o1_2, o2_2, o3_2, o4_2, of2⟩ := box5 hy2; obtain ⟨rl2, r0_2, r1_2, r2_2, r3_2, r4_2, rf2⟩ := box5 hz2) | (go_at_call 27; refine (Ky.out _).mono ?_; rintro e y ⟨rfl, rfl⟩))
            have hx9 : ((w1.setCell ⟨w.heap.size, 2, none⟩ (.int .i64 (j : Int))).setCell ⟨w.heap.size, 3, none⟩ (.int .i64 ty)).heap[w.heap.size]? = some (.cells #[.int .u32 g, .slice A len cap, .int .i64 (j : Int), .int .i64 ty, .bool p] 25 (0, 0)) := (heap_setCell_same (w1.setCell ⟨w.heap.size, 2, none⟩ (.int .i64 (j : Int))) w.heap.size 3 _ 25 (.int .i64 ty) (heap_setCell_same w1 w.heap.size 2 _ 25 (.int .i64 (j : Int)) (HX1.out))).trans rfl
            have hset : ∀ i, i ≠ w.heap.size → ((w1.setCell ⟨w.heap.size, 2, none⟩ (.int .i64 (j : Int))).setCell ⟨w.heap.size, 3, none⟩ (.int .i64 ty)).heap[i]? = w1.heap[i]? := fun i hi => by rw [Below.heap_setCell (w1.setCell ⟨w.heap.size, 2, none⟩ (.int .i64 (j : Int))) ⟨w.heap.size, 3, none⟩ _ i hi, Below.heap_setCell w1 ⟨w.heap.size, 2, none⟩ _ i hi]
            have hz9 := (hset (w.heap.size + 1 + 1) (by omega)).trans HZ1.out
            have hb9 := ((HB1.out).setCell (p := ⟨w.heap.size, 2, none⟩) (Nat.le_refl _) (.int .i64 (j : Int))).setCell (p := ⟨w.heap.size, 3, none⟩) (Nat.le_refl _) (.int .i64 ty)
            clear hset
            generalize ((w1.setCell ⟨w.heap.size, 2, none⟩ (.int .i64 (j : Int))).setCell ⟨w.heap.size, 3, none⟩ (.int .i64 ty)) = w9 at hx9 hz9 hb9 ⊢
            obtain ⟨xl9, x0_9, x1_9, x2_9, x3_9, x4_9, xf9⟩ := box5 hx9
            obtain ⟨rl9, r0_9, r1_9, r2_9, r3_9, r4_9, rf9⟩ := box5 hz9
            have HB9 := Lib.hid hb9
            clear hx9 hz9 hb9
            obtain rfl : R = (⟨g, l, (j : Int), ty, p⟩, 0, []) := by
              rw [← HR.out]
              simp only [actL]
              rw [if_neg (by decide), if_neg (by decide)]
              rw [if_neg Hreg.out, if_pos Hko.out]
              rw [if_pos trivial]
              unfold resvL
              rw [if_neg (fun e => by rw [show isTyB ty = true from Htb.out] at e; cases e)]
              rw [if_pos (show resB t = false by simp [resB, Ht0.out])]
              rfl
            clear HR
            go_wp2
            exact bodyPost_ret (v := .tuple #[.agg #[.int .u32 g, .slice A len cap, .int .i64 (j : Int), .int .i64 ty, .bool p], .int .i64 0, .slice none 0 0]) (by simp [results, Try.results14, go_sem, r0_9, r1_9, r2_9, r3_9, r4_9, rl9, xl9]) rfl
              ⟨A, len, cap, .slice none 0 0, rfl, .inl ⟨rfl, rfl, rfl, rfl⟩, OwnI.nil _ _, set5B HB9.out (by omega) _ _ _ _ _⟩
          · have t0b : (t == 0) = false := by simpa using t0
            have hres : resB t = true := by simp [resB, t0]
            have Hres := Lib.hid hres
            clear t0 hres
            cases hb with
            | false =>
              obtain rfl : R = (⟨g, l, h, t, p⟩, 24, []) := by
                rw [← HR.out]
                simp only [actL]
                rw [if_neg (by decide), if_neg (by decide)]
                rw [if_neg Hreg.out, if_pos Hko.out]
                rw [if_pos trivial]
                unfold resvL
                rw [if_neg (fun e => by rw [show isTyB ty = true from Htb.out] at e; cases e)]
                rw [if_neg (fun e => by rw [show resB t = true from Hres.out] at e; cases e)]
                rw [if_pos (show holdsB l h t (j : Int) = false from Hhb.out)]
                rfl
              clear HR
              go_wp2_with (first | (go_at_call 19; refine (Kh.out _ HB1.out).mono ?_; rintro e w2 ⟨rfl, hb2⟩; have hx2 := (hb2.block w.heap.size xl1).trans HX1.out; have hy2 := (hb2.block (w.heap.size + 1) ol1).trans HY1.out; have hz2 := (hb2.block (w.heap.size + 1 + 1) rl1).trans HZ1.out; have HB2 := Lib.hid (stepB HB1.out hb2); clear hb2; obtain ⟨xl2, x0_2, x1_2, x2_2, x3_2, x4_2, xf2⟩ := box5 hx2; obtain ⟨ol2, o0_2, o1_2, o2_2, o3_2, o4_2, of2⟩ := box5 hy2; obtain ⟨rl2, r0_2, r1_2, r2_2, r3_2, r4_2, rf2⟩ := box5 hz2) | (go_at_call 27; refine (Ky.out _).mono ?_; rintro e y ⟨rfl, rfl⟩))
              exact bodyPost_ret (v := .tuple #[.agg #[.int .u32 g, .slice A len cap, .int .i64 h, .int .i64 t, .bool p], .int .i64 24, .slice none 0 0]) (by simp [results, Try.results14, go_sem, r0_2, r1_2, r2_2, r3_2, r4_2, rl2, xl2]) rfl
                ⟨A, len, cap, .slice none 0 0, rfl, .inl ⟨rfl, rfl, rfl, rfl⟩, OwnI.nil _ _, set5B HB2.out (by omega) _ _ _ _ _⟩
            | true =>
              by_cases ty0 : t = ty
              · have tyb : (t == ty) = true := by simpa using ty0
                have Hty := Lib.hid ty0
                clear ty0
                obtain rfl : R = (⟨g, l, h, t, p⟩, 0, []) := by
                  rw [← HR.out]
                  simp only [actL]
                  rw [if_neg (by decide), if_neg (by decide)]
                  rw [if_neg Hreg.out, if_pos Hko.out]
                  rw [if_pos trivial]
                  unfold resvL
                  rw [if_neg (fun e => by rw [show isTyB ty = true from Htb.out] at e; cases e)]
                  rw [if_neg (fun e => by rw [show resB t = true from Hres.out] at e; cases e)]
                  rw [if_neg (fun e => by rw [show holdsB l h t (j : Int) = true from Hhb.out] at e; cases e)]
                  rw [if_pos Hty.out.symm]
                  rfl
                clear HR
                go_wp2_with (first | (go_at_call 19; refine (Kh.out _ HB1.out).mono ?_; rintro e w2 ⟨rfl, hb2⟩; have hx2 := (hb2.block w.heap.size xl1).trans HX1.out; have hy2 := (hb2.block (w.heap.size + 1) ol1).trans HY1.out; have hz2 := (hb2.block (w.heap.size + 1 + 1) rl1).trans HZ1.out; have HB2 := Lib.hid (stepB HB1.out hb2); clear hb2; obtain ⟨xl2, x0_2, x1_2, x2_2, x3_2, x4_2, xf2⟩ := box5 hx2; obtain ⟨ol2, o0_2, o1_2, o2_2, o3_2, o4_2, of2⟩ := box5 hy2; obtain ⟨rl2, r0_2, r1_2, r2_2, r3_2, r4_2, rf2⟩ := box5 hz2) | (go_at_call 27; refine (Ky.out _).mono ?_; rintro e y ⟨rfl, rfl⟩))
                exact bodyPost_ret (v := .tuple #[.agg #[.int .u32 g, .slice A len cap, .int .i64 h, .int .i64 t, .bool p], .int .i64 0, .slice none 0 0]) (by simp [results, Try.results14, go_sem, r0_2, r1_2, r2_2, r3_2, r4_2, rl2, xl2]) rfl
                  ⟨A, len, cap, .slice none 0 0, rfl, .inl ⟨rfl, rfl, rfl, rfl⟩, OwnI.nil _ _, set5B HB2.out (by omega) _ _ _ _ _⟩
              · have tyb : (t == ty) = false := by simpa using ty0
                have Hty := Lib.hid ty0
                clear ty0
                obtain rfl : R = (⟨g, l, h, t, p⟩, 24, []) := by
                  rw [← HR.out]
                  simp only [actL]
                  rw [if_neg (by decide), if_neg (by decide)]
                  rw [if_neg Hreg.out, if_pos Hko.out]
                  rw [if_pos trivial]
                  unfold resvL
                  rw [if_neg (fun e => by rw [show isTyB ty = true from Htb.out] at e; cases e)]
                  rw [if_neg (fun e => by rw [show resB t = true from Hres.out] at e; cases e)]
                  rw [if_neg (fun e => by rw [show holdsB l h t (j : Int) = true from Hhb.out] at e; cases e)]
                  rw [if_neg (fun e => Hty.out e.symm)]
                  rfl
                clear HR
                go_wp2_with (first | (go_at_call 19; refine (Kh.out _ HB1.out).mono ?_; rintro e w2 ⟨rfl, hb2⟩; have hx2 := (hb2.block w.heap.size xl1).trans HX1.out; have hy2 := (hb2.block (w.heap.size + 1) ol1).trans HY1.out; have hz2 := (hb2.block (w.heap.size + 1 + 1) rl1).trans HZ1.out; have HB2 := Lib.hid (stepB HB1.out hb2); clear hb2; obtain ⟨xl2, x0_2, x1_2, x2_2, x3_2, x4_2, xf2⟩ := box5 hx2; obtain ⟨ol2, o0_2, o1_2, o2_2, o3_2, o4_2, of2⟩ := box5 hy2; obtain ⟨rl2, r0_2, r1_2, r2_2, r3_2, r4_2, rf2⟩ := box5 hz2) | (go_at_call 27; refine (Ky.out _).mono ?_; rintro e y ⟨rfl, rfl⟩))
                exact bodyPost_ret (v := .tuple #[.agg #[.int .u32 g, .slice A len cap, .int .i64 h, .int .i64 t, .bool p], .int .i64 24, .slice none 0 0]) (by simp [results, Try.results14, go_sem, r0_2, r1_2, r2_2, r3_2, r4_2, rl2, xl2]) rfl
                  ⟨A, len, cap, .slice none 0 0, rfl, .inl ⟨rfl, rfl, rfl, rfl⟩, OwnI.nil _ _, set5B HB2.out (by omega) _ _ _ _ _⟩
      · have kob : (key != own) = true := by simpa using ko
        have Hko : Hid (¬ keyL l (j : Int) = key) := Lib.hid (by rw [show keyL l (j : Int) = own from Hown.out]; exact fun e => ko e.symm)
        clear ko
        obtain rfl : R = (⟨g, l, h, t, p⟩, 24, []) := by
          rw [← HR.out]
          simp only [actL]
          rw [if_neg (by decide), if_neg (by decide)]
          rw [if_neg Hreg.out, if_neg Hko.out]
          rfl
        clear HR
        go_wp2_with (fail)
        exact bodyPost_ret (v := .tuple #[.agg #[.int .u32 g, .slice A len cap, .int .i64 h, .int .i64 t, .bool p], .int .i64 24, .slice none 0 0]) (by simp [results, Try.results14, go_sem, r0_1, r1_1, r2_1, r3_1, r4_1, rl1, xl1]) rfl
          ⟨A, len, cap, .slice none 0 0, rfl, .inl ⟨rfl, rfl, rfl, rfl⟩, OwnI.nil _ _, set5B HB1.out (by omega) _ _ _ _ _⟩
  · by_cases o0 : own = 0
    · have o0b : (own == 0) = true := by simpa using o0
      have Ho0 := Lib.hid o0
      clear o0
      obtain rfl : R = (⟨g, l, h, t, p⟩, 24, []) := by
        rw [← HR.out]
        simp only [actL]
        rw [if_neg (by decide), if_neg (by decide)]
        rw [if_pos (show regB l (j : Int) = false by unfold regB; rw [show keyL l (j : Int) = own from Hown.out, Ho0.out]; rfl)]
        rfl
      clear HR
      go_wp2_with (fail)
      exact bodyPost_ret (v := .tuple #[.agg #[.int .u32 g, .slice A len cap, .int .i64 h, .int .i64 t, .bool p], .int .i64 24, .slice none 0 0]) (by simp [results, Try.results14, go_sem, r0_1, r1_1, r2_1, r3_1, r4_1, rl1, xl1]) rfl
        ⟨A, len, cap, .slice none 0 0, rfl, .inl ⟨rfl, rfl, rfl, rfl⟩, OwnI.nil _ _, set5B HB1.out (by omega) _ _ _ _ _⟩
    · have o0b : (own == 0) = false := by simpa using o0
      have Hreg : Hid (¬ regB l (j : Int) = false) := Lib.hid (by unfold regB; rw [show keyL l (j : Int) = own from Hown.out]; simpa using o0)
      clear o0
      by_cases ko : key = own
      · have kob : (key != own) = false := by simpa using ko
        have Hko : Hid (keyL l (j : Int) = key) := Lib.hid (by rw [show keyL l (j : Int) = own from Hown.out]; exact ko.symm)
        clear ko
        cases hb with
        | false =>
          obtain rfl : R = (⟨g, l, h, t, p⟩, 0, []) := by
            rw [← HR.out]
            simp only [actL]
            rw [if_neg (by decide), if_neg (by decide)]
            rw [if_neg Hreg.out, if_pos Hko.out]
            rw [if_neg (by decide), if_pos trivial]
            unfold relsL
            rw [if_pos (show holdsB l h t (j : Int) = false from Hhb.out)]
            rfl
          clear HR
          go_wp2_with ((go_at_call 19; refine (Kh.out _ HB1.out).mono ?_; rintro e w2 ⟨rfl, hb2⟩; have hx2 := (hb2.block w.heap.size xl1).trans HX1.out; have hy2 := (hb2.block (w.heap.size + 1) ol1).trans HY1.out; have hz2 := (hb2.block (w.heap.size + 1 + 1) rl1).trans HZ1.out; have HB2 := Lib.hid (stepB HB1.out hb2); clear hb2; obtain ⟨xl2, x0_2, x1_2, x2_2, x3_2, x4_2, xf2⟩ := box5 hx2; obtain ⟨ol2, o0_2, o1_2, o2_2, o3_2, o4_2, of2⟩ := box5 hy2; obtain ⟨rl2, r0_2, r1_2, r2_2, r3_2, r4_2, rf2⟩ := box5 hz2))
          exact bodyPost_ret (v := .tuple #[.agg #[.int .u32 g, .slice A len cap, .int .i64 h, .int .i64 t, .bool p], .int .i64 0, .slice none 0 0]) (by simp [results, Try.results14, go_sem, r0_2, r1_2, r2_2, r3_2, r4_2, rl2, xl2]) rfl
            ⟨A, len, cap, .slice none 0 0, rfl, .inl ⟨rfl, rfl, rfl, rfl⟩, OwnI.nil _ _, set5B HB2.out (by omega) _ _ _ _ _⟩
        | true =>
          by_cases ty0 : t = ty
          · have tyb : (t != ty) = false := by simpa using ty0
            have Hty := Lib.hid ty0
            clear ty0
            go_upto_region 26 with (first | (go_at_call 19; refine (Kh.out _ HB1.out).mono ?_; rintro e w2 ⟨rfl, hb2⟩; have hx2 := (hb2.block w.heap.size xl1).trans HX1.out; have hy2 := (hb2.block (w.heap.size + 1) ol1).trans HY1.out; have hz2 := (hb2.block (w.heap.size + 1 + 1) rl1).trans HZ1.out; have HB2 := Lib.hid (stepB HB1.out hb2); clear hb2; obtain ⟨xl2, x0_2, x1_2, x2_2, x3_2, x4_2, xf2⟩ := box5 hx2; obtain ⟨ol2, o0_2, o1_2, o2_2, o3_2, o4_2, of2⟩ := box5 hy2; obtain ⟨rl2, r0_2, r1_2, r2_2, r3_2, r4_2, rf2⟩ := box5 hz2) | (go_at_call 27; refine (Ky.out _).mono ?_; rintro e y ⟨rfl, rfl⟩))
            have hx9 : ((w2.setCell ⟨w.heap.size, 2, none⟩ (.int .i64 (-1))).setCell ⟨w.heap.size, 3, none⟩ (.int .i64 0)).heap[w.heap.size]? = some (.cells #[.int .u32 g, .slice A len cap, .int .i64 (-1), .int .i64 0, .bool p] 25 (0, 0)) := (heap_setCell_same (w2.setCell ⟨w.heap.size, 2, none⟩ (.int .i64 (-1))) w.heap.size 3 _ 25 (.int .i64 0) (heap_setCell_same w2 w.heap.size 2 _ 25 (.int .i64 (-1)) (hx2))).trans rfl
            have hset : ∀ i, i ≠ w.heap.size → ((w2.setCell ⟨w.heap.size, 2, none⟩ (.int .i64 (-1))).setCell ⟨w.heap.size, 3, none⟩ (.int .i64 0)).heap[i]? = w2.heap[i]? := fun i hi => by rw [Below.heap_setCell (w2.setCell ⟨w.heap.size, 2, none⟩ (.int .i64 (-1))) ⟨w.heap.size, 3, none⟩ _ i hi, Below.heap_setCell w2 ⟨w.heap.size, 2, none⟩ _ i hi]
            have hz9 := (hset (w.heap.size + 1 + 1) (by omega)).trans hz2
            have hb9 := ((HB2.out).setCell (p := ⟨w.heap.size, 2, none⟩) (Nat.le_refl _) (.int .i64 (-1))).setCell (p := ⟨w.heap.size, 3, none⟩) (Nat.le_refl _) (.int .i64 0)
            clear hset
            generalize ((w2.setCell ⟨w.heap.size, 2, none⟩ (.int .i64 (-1))).setCell ⟨w.heap.size, 3, none⟩ (.int .i64 0)) = w9 at hx9 hz9 hb9 ⊢
            obtain ⟨xl9, x0_9, x1_9, x2_9, x3_9, x4_9, xf9⟩ := box5 hx9
            obtain ⟨rl9, r0_9, r1_9, r2_9, r3_9, r4_9, rf9⟩ := box5 hz9
            have HB9 := Lib.hid hb9
            clear hx9 hz9 hb9
            obtain rfl : R = (⟨g, l, -1, 0, p⟩, 0, []) := by
              rw [← HR.out]
              simp only [actL]
              rw [if_neg (by decide), if_neg (by decide)]
              rw [if_neg Hreg.out, if_pos Hko.out]
              rw [if_neg (by decide), if_pos trivial]
              unfold relsL
              rw [if_neg (fun e => by rw [show holdsB l h t (j : Int) = true from Hhb.out] at e; cases e)]
              rw [if_pos Hty.out.symm]
              rfl
            clear HR
            go_wp2
            exact bodyPost_ret (v := .tuple #[.agg #[.int .u32 g, .slice A len cap, .int .i64 (-1), .int .i64 0, .bool p], .int .i64 0, .slice none 0 0]) (by simp [results, Try.results14, go_sem, r0_9, r1_9, r2_9, r3_9, r4_9, rl9, xl9]) rfl
              ⟨A, len, cap, .slice none 0 0, rfl, .inl ⟨rfl, rfl, rfl, rfl⟩, OwnI.nil _ _, set5B HB9.out (by omega) _ _ _ _ _⟩
          · have tyb : (t != ty) = true := by simpa using ty0
            have Hty := Lib.hid ty0
            clear ty0
            obtain rfl : R = (⟨g, l, h, t, p⟩, 2, []) := by
              rw [← HR.out]
              simp only [actL]
              rw [if_neg (by decide), if_neg (by decide)]
              rw [if_neg Hreg.out, if_pos Hko.out]
              rw [if_neg (by decide), if_pos trivial]
              unfold relsL
              rw [if_neg (fun e => by rw [show holdsB l h t (j : Int) = true from Hhb.out] at e; cases e)]
              rw [if_neg (fun e => Hty.out e.symm)]
              rfl
            clear HR
            go_wp2_with ((go_at_call 19; refine (Kh.out _ HB1.out).mono ?_; rintro e w2 ⟨rfl, hb2⟩; have hx2 := (hb2.block w.heap.size xl1).trans HX1.out; have hy2 := (hb2.block (w.heap.size + 1) ol1).trans HY1.out; have hz2 := (hb2.block (w.heap.size + 1 + 1) rl1).trans HZ1.out; have HB2 := Lib.hid (stepB HB1.out hb2); clear hb2; obtain ⟨xl2, x0_2, x1_2, x2_2, x3_2, x4_2, xf2⟩ := box5 hx2; obtain ⟨ol2, o0_2, o1_2, o2_2, o3_2, o4_2, of2⟩ := box5 hy2; obtain ⟨rl2, r0_2, r1_2, r2_2, r3_2, r4_2, rf2⟩ := box5 hz2))
            exact bodyPost_ret (v := .tuple #[.agg #[.int .u32 g, .slice A len cap, .int .i64 h, .int .i64 t, .bool p], .int .i64 2, .slice none 0 0]) (by simp [results, Try.results14, go_sem, r0_2, r1_2, r2_2, r3_2, r4_2, rl2, xl2]) rfl
              ⟨A, len, cap, .slice none 0 0, rfl, .inl ⟨rfl, rfl, rfl, rfl⟩, OwnI.nil _ _, set5B HB2.out (by omega) _ _ _ _ _⟩
      · have kob : (key != own) = true := by simpa using ko
        have Hko : Hid (¬ keyL l (j : Int) = key) := Lib.hid (by rw [show keyL l (j : Int) = own from Hown.out]; exact fun e => ko e.symm)
        clear ko
        obtain rfl : R = (⟨g, l, h, t, p⟩, 24, []) := by
          rw [← HR.out]
          simp only [actL]
          rw [if_neg (by decide), if_neg (by decide)]
          rw [if_neg Hreg.out, if_neg Hko.out]
          rfl
        clear HR
        go_wp2_with (fail)
        exact bodyPost_ret (v := .tuple #[.agg #[.int .u32 g, .slice A len cap, .int .i64 h, .int .i64 t, .bool p], .int .i64 24, .slice none 0 0]) (by simp [results, Try.results14, go_sem, r0_1, r1_1, r2_1, r3_1, r4_1, rl1, xl1]) rfl
          ⟨A, len, cap, .slice none 0 0, rfl, .inl ⟨rfl, rfl, rfl, rfl⟩, OwnI.nil _ _, set5B HB1.out (by omega) _ _ _ _ _⟩
  · by_cases o0 : own = 0
    · have o0b : (own == 0) = true := by simpa using o0
      have Ho0 := Lib.hid o0
      clear o0
      obtain rfl : R = (⟨g, l, h, t, p⟩, 24, []) := by
        rw [← HR.out]
        simp only [actL]
        rw [if_neg (by decide), if_neg (by decide)]
        rw [if_pos (show regB l (j : Int) = false by unfold regB; rw [show keyL l (j : Int) = own from Hown.out, Ho0.out]; rfl)]
        rfl
      clear HR
      go_wp2_with (fail)
      exact bodyPost_ret (v := .tuple #[.agg #[.int .u32 g, .slice A len cap, .int .i64 h, .int .i64 t, .bool p], .int .i64 24, .slice none 0 0]) (by simp [results, Try.results14, go_sem, r0_1, r1_1, r2_1, r3_1, r4_1, rl1, xl1]) rfl
        ⟨A, len, cap, .slice none 0 0, rfl, .inl ⟨rfl, rfl, rfl, rfl⟩, OwnI.nil _ _, set5B HB1.out (by omega) _ _ _ _ _⟩
    · have o0b : (own == 0) = false := by simpa using o0
      have Hreg : Hid (¬ regB l (j : Int) = false) := Lib.hid (by unfold regB; rw [show keyL l (j : Int) = own from Hown.out]; simpa using o0)
      clear o0
      by_cases ko : key = own
      · have kob : (key != own) = false := by simpa using ko
        have Hko : Hid (keyL l (j : Int) = key) := Lib.hid (by rw [show keyL l (j : Int) = own from Hown.out]; exact ko.symm)
        clear ko
        obtain ⟨G, HG⟩ : ∃ G, Hid (nextG g = G) := ⟨_, Lib.hid rfl⟩
        have hwG : IntKind.u32.wrap (g + 1) = G := HG.out
        go_upto_region 29 with (fail)
        have hx2 : (w1.setCell ⟨w.heap.size, 0, none⟩ (.int .u32 G)).heap[w.heap.size]? = some (.cells #[.int .u32 G, .slice A len cap, .int .i64 h, .int .i64 t, .bool p] 25 (0, 0)) := (heap_setCell_same w1 w.heap.size 0 _ 25 (.int .u32 G) HX1.out).trans rfl
        have hz2 := (Below.heap_setCell w1 ⟨w.heap.size, 0, none⟩ (.int .u32 G) (w.heap.size + 1 + 1) (by show w.heap.size + 1 + 1 ≠ w.heap.size; omega)).trans HZ1.out
        have hb2 := HB1.out.setCell (p := ⟨w.heap.size, 0, none⟩) (Nat.le_refl _) (.int .u32 G)
        generalize w1.setCell ⟨w.heap.size, 0, none⟩ (.int .u32 G) = w2 at hx2 hz2 hb2 ⊢
        have HX2 := Lib.hid hx2; have HZ2 := Lib.hid hz2; have HB2 := Lib.hid hb2
        clear hx2 hz2 hb2 HX1 HY1 HZ1 HB1 xl1 x0_1 x1_1 x2_1 x3_1 x4_1 xf1 ol1 o0_1 o1_1 o2_1 o3_1 o4_1 of1 rl1 r0_1 r1_1 r2_1 r3_1 r4_1 rf1
        obtain ⟨xl2, x0_2, x1_2, x2_2, x3_2, x4_2, xf2⟩ := box5 HX2.out
        have hzl2 := (Array.getElem?_eq_some_iff.1 HZ2.out).1
        obtain ⟨L, HL⟩ : ∃ x, Hid (leftOf (fun _ => true) l = x) := ⟨_, Lib.hid rfl⟩
        obtain ⟨h', Hh⟩ : ∃ x, Hid (remH L h t = x) := ⟨_, Lib.hid rfl⟩
        obtain ⟨t', Ht⟩ : ∃ x, Hid (remT L h t = x) := ⟨_, Lib.hid rfl⟩
        obtain ⟨gn, Hgn⟩ : ∃ x, Hid (keepN (j : Int) (goneOf (fun _ => true) l) = x) := ⟨_, Lib.hid rfl⟩
        have Kr : Hid (∀ W, Below w.heap.size w W → Calls Try.prog 34 #[.agg #[.int .u32 G, .slice A len cap, .int .i64 h, .int .i64 t, .bool p], .agg #[.bool true, .bool true, .bool true, .bool true, .bool true, .bool true, .bool true, .bool true], .int .i64 (j : Int)] W (RRemP W G L h' t' p gn)) := Lib.hid fun W hb => by
          rw [← Hgn.out, ← Hh.out, ← Ht.out, ← HL.out]
          exact rremove_any G h t p A len cap l W (HS.out.below hb) hm Hso.out (fun _ => true) (j : Int)
        go_upto_region 30 with (go_at_call 34; refine (Kr.out _ HB2.out).mono ?_; rintro e w8 ⟨v, u, rfl, ho8, hi8, hb8⟩; obtain ⟨A2, c2, rfl, hs8⟩ := ho8.sl; clear hs8)
        have hq9 := heap_alloc_new w8 (.cells #[.int .u32 G, .slice A2 L.length c2, .int .i64 h', .int .i64 t', .bool p] 25)
        have hb89 := bel1 w8 (.cells #[.int .u32 G, .slice A2 L.length c2, .int .i64 h', .int .i64 t', .bool p] 25)
        have hz9 := (hb89.block (w.heap.size + 1 + 1) (by have := hb8.size; omega)).trans ((hb8.block (w.heap.size + 1 + 1) hzl2).trans HZ2.out)
        have hb9 := stepB (stepB HB2.out hb8) hb89
        have ho9 := ho8.below hb89
        have hi9 := hi8.below hb89
        have hws2 : w.heap.size ≤ w2.heap.size := by omega
        obtain ⟨r, Hr8⟩ : ∃ r, Hid (w8.heap.size = r) := ⟨_, Lib.hid rfl⟩
        rw [Hr8.out] at hq9
        generalize w8.alloc (.cells #[.int .u32 G, .slice A2 L.length c2, .int .i64 h', .int .i64 t', .bool p] 25) = w9 at hq9 hz9 hb9 ho9 hi9 ⊢
        rw [Hr8.out]
        obtain ⟨ql9, q0_9, q1_9, q2_9, q3_9, q4_9, qf9⟩ := box5 hq9
        obtain ⟨rl9, r0_9, r1_9, r2_9, r3_9, r4_9, rf9⟩ := box5 hz9
        have HB9 := Lib.hid hb9; have HO9 := Lib.hid ho9; have HI9 := Lib.hid hi9
        clear hq9 hz9 hb9 ho9 hi9 hb89 hb8 ho8 hi8 HX2 HZ2 HB2
        obtain rfl : R = (⟨G, L, h', t', p⟩, 0, gn) := by
          rw [← HR.out]
          simp only [actL]
          rw [if_neg (by decide), if_neg (by decide)]
          rw [if_neg Hreg.out, if_pos Hko.out]
          rw [if_neg (by decide), if_neg (by decide), if_pos trivial]
          unfold refR clrL remTb
          simp only
          rw [Hgn.out, HG.out, HL.out, Hh.out, Ht.out]
        clear HR
        go_wp2
        exact bodyPost_ret (v := .tuple #[.agg #[.int .u32 G, .slice A2 L.length c2, .int .i64 h', .int .i64 t', .bool p], .int .i64 0, u]) (by simp [results, Try.results14, go_sem, r0_9, r1_9, r2_9, r3_9, r4_9, rl9]) rfl
          ⟨A2, _, c2, u, rfl, .inr ((HO9.out.set5 (b := w.heap.size + 1 + 1) hzl2 _ _ _ _ _).lower hws2), (HI9.out.set5 (b := w.heap.size + 1 + 1) hzl2 _ _ _ _ _).lower hws2, set5B HB9.out (by omega) _ _ _ _ _⟩
      · have kob : (key != own) = true := by simpa using ko
        have Hko : Hid (¬ keyL l (j : Int) = key) := Lib.hid (by rw [show keyL l (j : Int) = own from Hown.out]; exact fun e => ko e.symm)
        clear ko
        obtain rfl : R = (⟨g, l, h, t, p⟩, 24, []) := by
          rw [← HR.out]
          simp only [actL]
          rw [if_neg (by decide), if_neg (by decide)]
          rw [if_neg Hreg.out, if_neg Hko.out]
          rfl
        clear HR
        go_wp2_with (fail)
        exact bodyPost_ret (v := .tuple #[.agg #[.int .u32 g, .slice A len cap, .int .i64 h, .int .i64 t, .bool p], .int .i64 24, .slice none 0 0]) (by simp [results, Try.results14, go_sem, r0_1, r1_1, r2_1, r3_1, r4_1, rl1, xl1]) rfl
          ⟨A, len, cap, .slice none 0 0, rfl, .inl ⟨rfl, rfl, rfl, rfl⟩, OwnI.nil _ _, set5B HB1.out (by omega) _ _ _ _ _⟩
  · by_cases o0 : own = 0
    · have o0b : (own == 0) = true := by simpa using o0
      have Ho0 := Lib.hid o0
      clear o0
      obtain rfl : R = (⟨g, l, h, t, p⟩, 24, []) := by
        rw [← HR.out]
        simp only [actL]
        rw [if_neg (by decide), if_neg (by decide)]
        rw [if_pos (show regB l (j : Int) = false by unfold regB; rw [show keyL l (j : Int) = own from Hown.out, Ho0.out]; rfl)]
        rfl
      clear HR
      go_wp2_with (fail)
      exact bodyPost_ret (v := .tuple #[.agg #[.int .u32 g, .slice A len cap, .int .i64 h, .int .i64 t, .bool p], .int .i64 24, .slice none 0 0]) (by simp [results, Try.results14, go_sem, r0_1, r1_1, r2_1, r3_1, r4_1, rl1, xl1]) rfl
        ⟨A, len, cap, .slice none 0 0, rfl, .inl ⟨rfl, rfl, rfl, rfl⟩, OwnI.nil _ _, set5B HB1.out (by omega) _ _ _ _ _⟩
    · have o0b : (own == 0) = false := by simpa using o0
      have Hreg : Hid (¬ regB l (j : Int) = false) := Lib.hid (by unfold regB; rw [show keyL l (j : Int) = own from Hown.out]; simpa using o0)
      clear o0
      by_cases ko : key = own
      · have kob : (key != own) = false := by simpa using ko
        have Hko : Hid (keyL l (j : Int) = key) := Lib.hid (by rw [show keyL l (j : Int) = own from Hown.out]; exact ko.symm)
        clear ko
        have Kc : Hid (∀ W, Below w.heap.size w W → Calls Try.prog 35 #[.agg #[.int .u32 g, .slice A len cap, .int .i64 h, .int .i64 t, .bool p], .int .i64 (j : Int), .agg #[.int .i64 4, .int .i64 ty, .int .u64 key, .int .u64 other, .bool ap]] W (ActP W A len cap l R)) := Lib.hid fun W hb => by
          have e : refR (j : Int) (preL ⟨g, l, h, t, p⟩ (j : Int) ty other) = R := by
            rw [← HR.out]
            simp only [actL]
            rw [if_neg (by decide), if_neg (by decide)]
            rw [if_neg Hreg.out, if_pos Hko.out]
            rw [if_neg (by decide), if_neg (by decide), if_neg (by decide)]
          rw [← e]; exact rpreempt_any g h t p A len cap l W (HS.out.below hb) hm Hso.out j hj 4 ty key other ap
        clear HR
        obtain ⟨⟨g8, l8, h8, t8, p8⟩, st8, gn8⟩ := R
        have hws1 : w.heap.size ≤ w1.heap.size := by omega
        go_wp2_with (go_at_call 35; refine (Kc.out _ HB1.out).mono ?_; rintro e w3 ⟨A3, n3, c3, u3, rfl, hk3, hi3, hb3⟩; have hz3 := (hb3.block (w.heap.size + 1 + 1) rl1).trans HZ1.out; obtain ⟨rl3, r0_3, r1_3, r2_3, r3_3, r4_3, rf3⟩ := box5 hz3)
        exact bodyPost_ret (v := .tuple #[.agg #[.int .u32 g8, .slice A3 n3 c3, .int .i64 h8, .int .i64 t8, .bool p8], .int .i64 st8, u3]) (by simp [results, Try.results14, go_sem, r0_3, r1_3, r2_3, r3_3, r4_3, rl3]) rfl
          ⟨A3, n3, c3, u3, rfl, KeptR.fin hk3 (b := w.heap.size + 1 + 1) rl1 hws1 _ _ _ _ _, (hi3.set5 (b := w.heap.size + 1 + 1) rl1 _ _ _ _ _).lower hws1, set5B (stepB HB1.out hb3) (by omega) _ _ _ _ _⟩
      · have kob : (key != own) = true := by simpa using ko
        have Hko : Hid (¬ keyL l (j : Int) = key) := Lib.hid (by rw [show keyL l (j : Int) = own from Hown.out]; exact fun e => ko e.symm)
        clear ko
        obtain rfl : R = (⟨g, l, h, t, p⟩, 24, []) := by
          rw [← HR.out]
          simp only [actL]
          rw [if_neg (by decide), if_neg (by decide)]
          rw [if_neg Hreg.out, if_neg Hko.out]
          rfl
        clear HR
        go_wp2_with (fail)
        exact bodyPost_ret (v := .tuple #[.agg #[.int .u32 g, .slice A len cap, .int .i64 h, .int .i64 t, .bool p], .int .i64 24, .slice none 0 0]) (by simp [results, Try.results14, go_sem, r0_1, r1_1, r2_1, r3_1, r4_1, rl1, xl1]) rfl
          ⟨A, len, cap, .slice none 0 0, rfl, .inl ⟨rfl, rfl, rfl, rfl⟩, OwnI.nil _ _, set5B HB1.out (by omega) _ _ _ _ _⟩
  · by_cases o0 : own = 0
    · have o0b : (own == 0) = true := by simpa using o0
      have Ho0 := Lib.hid o0
      clear o0
      obtain rfl : R = (⟨g, l, h, t, p⟩, 24, []) := by
        rw [← HR.out]
        simp only [actL]
        rw [if_neg (by decide), if_neg (by decide)]
        rw [if_pos (show regB l (j : Int) = false by unfold regB; rw [show keyL l (j : Int) = own from Hown.out, Ho0.out]; rfl)]
        rfl
      clear HR
      go_wp2_with (fail)
      exact bodyPost_ret (v := .tuple #[.agg #[.int .u32 g, .slice A len cap, .int .i64 h, .int .i64 t, .bool p], .int .i64 24, .slice none 0 0]) (by simp [results, Try.results14, go_sem, r0_1, r1_1, r2_1, r3_1, r4_1, rl1, xl1]) rfl
        ⟨A, len, cap, .slice none 0 0, rfl, .inl ⟨rfl, rfl, rfl, rfl⟩, OwnI.nil _ _, set5B HB1.out (by omega) _ _ _ _ _⟩
    · have o0b : (own == 0) = false := by simpa using o0
      have Hreg : Hid (¬ regB l (j : Int) = false) := Lib.hid (by unfold regB; rw [show keyL l (j : Int) = own from Hown.out]; simpa using o0)
      clear o0
      by_cases ko : key = own
      · have kob : (key != own) = false := by simpa using ko
        have Hko : Hid (keyL l (j : Int) = key) := Lib.hid (by rw [show keyL l (j : Int) = own from Hown.out]; exact ko.symm)
        clear ko
        have Kc : Hid (∀ W, Below w.heap.size w W → Calls Try.prog 35 #[.agg #[.int .u32 g, .slice A len cap, .int .i64 h, .int .i64 t, .bool p], .int .i64 (j : Int), .agg #[.int .i64 5, .int .i64 ty, .int .u64 key, .int .u64 other, .bool ap]] W (ActP W A len cap l R)) := Lib.hid fun W hb => by
          have e : refR (j : Int) (preL ⟨g, l, h, t, p⟩ (j : Int) ty other) = R := by
            rw [← HR.out]
            simp only [actL]
            rw [if_neg (by decide), if_neg (by decide)]
            rw [if_neg Hreg.out, if_pos Hko.out]
            rw [if_neg (by decide), if_neg (by decide), if_neg (by decide)]
          rw [← e]; exact rpreempt_any g h t p A len cap l W (HS.out.below hb) hm Hso.out j hj 5 ty key other ap
        clear HR
        obtain ⟨⟨g8, l8, h8, t8, p8⟩, st8, gn8⟩ := R
        have hws1 : w.heap.size ≤ w1.heap.size := by omega
        go_wp2_with (go_at_call 35; refine (Kc.out _ HB1.out).mono ?_; rintro e w3 ⟨A3, n3, c3, u3, rfl, hk3, hi3, hb3⟩; have hz3 := (hb3.block (w.heap.size + 1 + 1) rl1).trans HZ1.out; obtain ⟨rl3, r0_3, r1_3, r2_3, r3_3, r4_3, rf3⟩ := box5 hz3)
        exact bodyPost_ret (v := .tuple #[.agg #[.int .u32 g8, .slice A3 n3 c3, .int .i64 h8, .int .i64 t8, .bool p8], .int .i64 st8, u3]) (by simp [results, Try.results14, go_sem, r0_3, r1_3, r2_3, r3_3, r4_3, rl3]) rfl
          ⟨A3, n3, c3, u3, rfl, KeptR.fin hk3 (b := w.heap.size + 1 + 1) rl1 hws1 _ _ _ _ _, (hi3.set5 (b := w.heap.size + 1 + 1) rl1 _ _ _ _ _).lower hws1, set5B (stepB HB1.out hb3) (by omega) _ _ _ _ _⟩
      · have kob : (key != own) = true := by simpa using ko
        have Hko : Hid (¬ keyL l (j : Int) = key) := Lib.hid (by rw [show keyL l (j : Int) = own from Hown.out]; exact fun e => ko e.symm)
        clear ko
        obtain rfl : R = (⟨g, l, h, t, p⟩, 24, []) := by
          rw [← HR.out]
          simp only [actL]
          rw [if_neg (by decide), if_neg (by decide)]
          rw [if_neg Hreg.out, if_neg Hko.out]
          rfl
        clear HR
        go_wp2_with (fail)
        exact bodyPost_ret (v := .tuple #[.agg #[.int .u32 g, .slice A len cap, .int .i64 h, .int .i64 t, .bool p], .int .i64 24, .slice none 0 0]) (by simp [results, Try.results14, go_sem, r0_1, r1_1, r2_1, r3_1, r4_1, rl1, xl1]) rfl
          ⟨A, len, cap, .slice none 0 0, rfl, .inl ⟨rfl, rfl, rfl, rfl⟩, OwnI.nil _ _, set5B HB1.out (by omega) _ _ _ _ _⟩
end Go.Proofs.Ytkpogmigfjmacaa
