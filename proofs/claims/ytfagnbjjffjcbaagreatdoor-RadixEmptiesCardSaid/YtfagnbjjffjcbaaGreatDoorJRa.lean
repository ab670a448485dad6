import Derived.Test.YtfagnbjjffjcbaaGreatDoorRxRun
import Derived.Test.YtfagnbjjffjcbaaGreatDoorJRn
set_option linter.unusedSimpArgs false
set_option linter.unusedVariables false
/-
  Law 09's run, for places that are none.
-/
set_option linter.unusedSimpArgs false
set_option linter.unusedVariables false
namespace Go.Proofs.YtfagnbjjffjcbaaGreatDoor
open Go.RowKit Sh Go.Maps Go.Extern.Stop Go.Stop Go.Extern

attribute [local irreducible] bk1 bk0
section
variable {bk : Bk} {gd g mb x N cc d : Nat} {o : Obj} {v : Nat → Nat} {w0 w : World}
set_option maxRecDepth 100000 in
set_option maxHeartbeats 16000000 in
theorem run_no1 (hX : OwnX bk gd g [(mb, o), (x, foO g 2 N)] w0 w) (hM : NumAt mb v cc w) (hF : Fo bk 2 N v) (hC : Co bk 300 d) (hT : bk.txn = []) (hN : N ≤ 100) (hcc : cc ≤ 9000) (hd : d ≤ 1300) (hL : Laid w0) (hmx : x ≠ mb) (l b xx : Int) (h : l < 0) :
    Calls Tryz.prog 15 #[.pointer (some ⟨g, 0, none⟩), .pointer (some ⟨x, 0, none⟩), .map (some mb), .int .i64 N, callV l b xx] w (RunP gd g mb x N v cc d w0) := by
  have hpos := hL.pos
  unfold callV
  have hX1 := hX.add (.cells #[.int .i64 l, .int .i64 b, .int .i64 xx] 30 (0, 0))
  have hM1 := hM.of_block ((hX1.at_ (x := (mb, o)) (by simp)).trans (hX.at_ (x := (mb, o)) (by simp)).symm)
  have HX1 := Lib.hid hX1; have HM1 := Lib.hid hM1; have HF := Lib.hid hF; have HC := Lib.hid hC; have HT := Lib.hid hT; have HL := Lib.hid hL
  have HH := Lib.hid (fun (W : World) => (has_no (w := W) ⟨x, 0, none⟩ l b (.inl h)))
  have n1 : ¬ ((0 : Int) ≤ l) := by omega
  clear h
  clear hX hM hF hC hT hL hX1 hM1
  go_enter Tryz.func15, Tryz.ntmps15
  go_upto_region 1 with (fail)
  have hX1 := HX1.out; have hM1 := HM1.out
  clear HX1 HM1
  generalize w.alloc (.cells #[.int .i64 l, .int .i64 b, .int .i64 xx] 30 (0, 0)) = w1 at hX1 hM1 ⊢
  obtain ⟨x0, hx0⟩ : ∃ x0, w.heap.size = x0 := ⟨_, rfl⟩
  rw [hx0] at hX1 ⊢
  have hg := Get_of (get1_bad (.pointer (some ⟨x, 0, none⟩)) l b (HH.out w1))
  have Hg := Lib.hid hg
  obtain ⟨q0, q1, q2⟩ := cells9 (hX1.at_ (x := (x0, .cells #[.int .i64 l, .int .i64 b, .int .i64 xx] 30 (0, 0))) (by simp))
  have HX1 := Lib.hid hX1; have HM1 := Lib.hid hM1
  clear hx0 hg hX1 hM1 q2
  go_wp2_with (first
    | (go_at_call 21; refine Hg.out.mono ?_))
  rintro e w2 ⟨u2, rfl, hE2, hb2⟩
  have hX2 := HX1.out.below hb2
  have hM2 := HM1.out.of_block ((hX2.at_ (x := (mb, o)) (by simp)).trans (HX1.out.at_ (x := (mb, o)) (by simp)).symm)
  obtain ⟨q0, q1, q2⟩ := cells9 (hX2.at_ (x := (x0, .cells #[.int .i64 l, .int .i64 b, .int .i64 xx] 30 (0, 0))) (by simp))
  have Hn := Lib.hid (num9 1 u2 w2 (HL.out.below hpos hX2.bel) hE2)
  have HX2 := Lib.hid hX2; have HM2 := Lib.hid hM2
  clear hE2 hb2 hX2 hM2 Hg HX1 HM1 q2
  go_wp2_with (first
    | (go_at_call 28; refine Hn.out.mono ?_))
  rintro e w3 ⟨rfl, hb3⟩
  have hX3 := HX2.out.below hb3
  have hM3 := HM2.out.of_block ((hX3.at_ (x := (mb, o)) (by simp)).trans (HX2.out.at_ (x := (mb, o)) (by simp)).symm)
  obtain ⟨q0, q1, q2⟩ := cells9 (hX3.at_ (x := (x0, .cells #[.int .i64 l, .int .i64 b, .int .i64 xx] 30 (0, 0))) (by simp))
  have Hs := Lib.hid (rSet_arg (set1_bad (w := w3) (.pointer (some ⟨x, 0, none⟩)) l b xx (HH.out w3)))
  have HX3 := Lib.hid hX3; have HM3 := Lib.hid hM3
  clear hb3 hX3 hM3 Hn HX2 HM2
  go_wp2_with (first
    | (go_at_call 19; refine Hs.out.mono ?_))
  rintro e w4 ⟨vs, rfl, hEs, hb4⟩
  have hX4 := HX3.out.below hb4
  have hM4 := HM3.out.of_block ((hX4.at_ (x := (mb, o)) (by simp)).trans (HX3.out.at_ (x := (mb, o)) (by simp)).symm)
  have Hn := Lib.hid (num9 1 vs w4 (HL.out.below hpos hX4.bel) hEs)
  have HX4 := Lib.hid hX4; have HM4 := Lib.hid hM4
  clear hEs hb4 hX4 hM4 HX3 HM3 Hs q0 q1 q2
  go_wp2_with (first
    | (go_at_call 28; refine Hn.out.mono ?_))
  rintro e w5 ⟨rfl, hb5⟩
  have hX5 := HX4.out.below hb5
  have hM5 := HM4.out.of_block ((hX5.at_ (x := (mb, o)) (by simp)).trans (HX4.out.at_ (x := (mb, o)) (by simp)).symm)
  have Hfin := Lib.hid (show RunP gd g mb x N v cc d w0 (.returned (.bool true)) w5 from ⟨rfl, bk, o, hX5.sub (by intro z hz; simp at hz ⊢; rcases hz with h | h <;> simp [h]), hM5.mono (by omega), HF.out, HC.out.next, HT.out⟩)
  clear hb5 hX5 hM5 HX4 HM4 Hn
  go_wp2
  go_ret
  exact Hfin.out
set_option maxRecDepth 100000 in
set_option maxHeartbeats 16000000 in
theorem run_no2 (hX : OwnX bk gd g [(mb, o), (x, foO g 2 N)] w0 w) (hM : NumAt mb v cc w) (hF : Fo bk 2 N v) (hC : Co bk 300 d) (hT : bk.txn = []) (hN : N ≤ 100) (hcc : cc ≤ 9000) (hd : d ≤ 1300) (hL : Laid w0) (hmx : x ≠ mb) (l b xx : Int) (k1 : 0 ≤ l) (h : 4 ≤ l) :
    Calls Tryz.prog 15 #[.pointer (some ⟨g, 0, none⟩), .pointer (some ⟨x, 0, none⟩), .map (some mb), .int .i64 N, callV l b xx] w (RunP gd g mb x N v cc d w0) := by
  have hpos := hL.pos
  unfold callV
  have hX1 := hX.add (.cells #[.int .i64 l, .int .i64 b, .int .i64 xx] 30 (0, 0))
  have hM1 := hM.of_block ((hX1.at_ (x := (mb, o)) (by simp)).trans (hX.at_ (x := (mb, o)) (by simp)).symm)
  have HX1 := Lib.hid hX1; have HM1 := Lib.hid hM1; have HF := Lib.hid hF; have HC := Lib.hid hC; have HT := Lib.hid hT; have HL := Lib.hid hL
  have HH := Lib.hid (fun (W : World) => (has_no (w := W) ⟨x, 0, none⟩ l b (.inr (.inl h))))
  have n2 : decide (l < 4) = false := by simp; omega
  clear hX hM hF hC hT hL hX1 hM1
  go_enter Tryz.func15, Tryz.ntmps15
  go_upto_region 1 with (fail)
  have hX1 := HX1.out; have hM1 := HM1.out
  clear HX1 HM1
  generalize w.alloc (.cells #[.int .i64 l, .int .i64 b, .int .i64 xx] 30 (0, 0)) = w1 at hX1 hM1 ⊢
  obtain ⟨x0, hx0⟩ : ∃ x0, w.heap.size = x0 := ⟨_, rfl⟩
  rw [hx0] at hX1 ⊢
  have hg := Get_of (get1_bad (.pointer (some ⟨x, 0, none⟩)) l b (HH.out w1))
  have Hg := Lib.hid hg
  obtain ⟨q0, q1, q2⟩ := cells9 (hX1.at_ (x := (x0, .cells #[.int .i64 l, .int .i64 b, .int .i64 xx] 30 (0, 0))) (by simp))
  have HX1 := Lib.hid hX1; have HM1 := Lib.hid hM1
  clear hx0 hg hX1 hM1 q2
  go_wp2_with (first
    | (go_at_call 21; refine Hg.out.mono ?_))
  rintro e w2 ⟨u2, rfl, hE2, hb2⟩
  have hX2 := HX1.out.below hb2
  have hM2 := HM1.out.of_block ((hX2.at_ (x := (mb, o)) (by simp)).trans (HX1.out.at_ (x := (mb, o)) (by simp)).symm)
  obtain ⟨q0, q1, q2⟩ := cells9 (hX2.at_ (x := (x0, .cells #[.int .i64 l, .int .i64 b, .int .i64 xx] 30 (0, 0))) (by simp))
  have Hn := Lib.hid (num9 1 u2 w2 (HL.out.below hpos hX2.bel) hE2)
  have HX2 := Lib.hid hX2; have HM2 := Lib.hid hM2
  clear hE2 hb2 hX2 hM2 Hg HX1 HM1 q2
  go_wp2_with (first
    | (go_at_call 28; refine Hn.out.mono ?_))
  rintro e w3 ⟨rfl, hb3⟩
  have hX3 := HX2.out.below hb3
  have hM3 := HM2.out.of_block ((hX3.at_ (x := (mb, o)) (by simp)).trans (HX2.out.at_ (x := (mb, o)) (by simp)).symm)
  obtain ⟨q0, q1, q2⟩ := cells9 (hX3.at_ (x := (x0, .cells #[.int .i64 l, .int .i64 b, .int .i64 xx] 30 (0, 0))) (by simp))
  have Hs := Lib.hid (rSet_arg (set1_bad (w := w3) (.pointer (some ⟨x, 0, none⟩)) l b xx (HH.out w3)))
  have HX3 := Lib.hid hX3; have HM3 := Lib.hid hM3
  clear hb3 hX3 hM3 Hn HX2 HM2
  go_wp2_with (first
    | (go_at_call 19; refine Hs.out.mono ?_))
  rintro e w4 ⟨vs, rfl, hEs, hb4⟩
  have hX4 := HX3.out.below hb4
  have hM4 := HM3.out.of_block ((hX4.at_ (x := (mb, o)) (by simp)).trans (HX3.out.at_ (x := (mb, o)) (by simp)).symm)
  have Hn := Lib.hid (num9 1 vs w4 (HL.out.below hpos hX4.bel) hEs)
  have HX4 := Lib.hid hX4; have HM4 := Lib.hid hM4
  clear hEs hb4 hX4 hM4 HX3 HM3 Hs q0 q1 q2
  go_wp2_with (first
    | (go_at_call 28; refine Hn.out.mono ?_))
  rintro e w5 ⟨rfl, hb5⟩
  have hX5 := HX4.out.below hb5
  have hM5 := HM4.out.of_block ((hX5.at_ (x := (mb, o)) (by simp)).trans (HX4.out.at_ (x := (mb, o)) (by simp)).symm)
  have Hfin := Lib.hid (show RunP gd g mb x N v cc d w0 (.returned (.bool true)) w5 from ⟨rfl, bk, o, hX5.sub (by intro z hz; simp at hz ⊢; rcases hz with h | h <;> simp [h]), hM5.mono (by omega), HF.out, HC.out.next, HT.out⟩)
  clear hb5 hX5 hM5 HX4 HM4 Hn
  go_wp2
  go_ret
  exact Hfin.out
set_option maxRecDepth 100000 in
set_option maxHeartbeats 16000000 in
theorem run_no3 (hX : OwnX bk gd g [(mb, o), (x, foO g 2 N)] w0 w) (hM : NumAt mb v cc w) (hF : Fo bk 2 N v) (hC : Co bk 300 d) (hT : bk.txn = []) (hN : N ≤ 100) (hcc : cc ≤ 9000) (hd : d ≤ 1300) (hL : Laid w0) (hmx : x ≠ mb) (l b xx : Int) (k1 : 0 ≤ l) (k2 : l < 4) (h : b < 0) :
    Calls Tryz.prog 15 #[.pointer (some ⟨g, 0, none⟩), .pointer (some ⟨x, 0, none⟩), .map (some mb), .int .i64 N, callV l b xx] w (RunP gd g mb x N v cc d w0) := by
  have hpos := hL.pos
  unfold callV
  have hX1 := hX.add (.cells #[.int .i64 l, .int .i64 b, .int .i64 xx] 30 (0, 0))
  have hM1 := hM.of_block ((hX1.at_ (x := (mb, o)) (by simp)).trans (hX.at_ (x := (mb, o)) (by simp)).symm)
  have HX1 := Lib.hid hX1; have HM1 := Lib.hid hM1; have HF := Lib.hid hF; have HC := Lib.hid hC; have HT := Lib.hid hT; have HL := Lib.hid hL
  have HH := Lib.hid (fun (W : World) => (has_no (w := W) ⟨x, 0, none⟩ l b (.inr (.inr (.inl h)))))
  have n1 : ¬ ((0 : Int) ≤ b) := by omega
  clear h
  clear hX hM hF hC hT hL hX1 hM1
  go_enter Tryz.func15, Tryz.ntmps15
  go_upto_region 1 with (fail)
  have hX1 := HX1.out; have hM1 := HM1.out
  clear HX1 HM1
  generalize w.alloc (.cells #[.int .i64 l, .int .i64 b, .int .i64 xx] 30 (0, 0)) = w1 at hX1 hM1 ⊢
  obtain ⟨x0, hx0⟩ : ∃ x0, w.heap.size = x0 := ⟨_, rfl⟩
  rw [hx0] at hX1 ⊢
  have hg := Get_of (get1_bad (.pointer (some ⟨x, 0, none⟩)) l b (HH.out w1))
  have Hg := Lib.hid hg
  obtain ⟨q0, q1, q2⟩ := cells9 (hX1.at_ (x := (x0, .cells #[.int .i64 l, .int .i64 b, .int .i64 xx] 30 (0, 0))) (by simp))
  have HX1 := Lib.hid hX1; have HM1 := Lib.hid hM1
  clear hx0 hg hX1 hM1 q2
  go_wp2_with (first
    | (go_at_call 21; refine Hg.out.mono ?_))
  rintro e w2 ⟨u2, rfl, hE2, hb2⟩
  have hX2 := HX1.out.below hb2
  have hM2 := HM1.out.of_block ((hX2.at_ (x := (mb, o)) (by simp)).trans (HX1.out.at_ (x := (mb, o)) (by simp)).symm)
  obtain ⟨q0, q1, q2⟩ := cells9 (hX2.at_ (x := (x0, .cells #[.int .i64 l, .int .i64 b, .int .i64 xx] 30 (0, 0))) (by simp))
  have Hn := Lib.hid (num9 1 u2 w2 (HL.out.below hpos hX2.bel) hE2)
  have HX2 := Lib.hid hX2; have HM2 := Lib.hid hM2
  clear hE2 hb2 hX2 hM2 Hg HX1 HM1 q2
  go_wp2_with (first
    | (go_at_call 28; refine Hn.out.mono ?_))
  rintro e w3 ⟨rfl, hb3⟩
  have hX3 := HX2.out.below hb3
  have hM3 := HM2.out.of_block ((hX3.at_ (x := (mb, o)) (by simp)).trans (HX2.out.at_ (x := (mb, o)) (by simp)).symm)
  obtain ⟨q0, q1, q2⟩ := cells9 (hX3.at_ (x := (x0, .cells #[.int .i64 l, .int .i64 b, .int .i64 xx] 30 (0, 0))) (by simp))
  have Hs := Lib.hid (rSet_arg (set1_bad (w := w3) (.pointer (some ⟨x, 0, none⟩)) l b xx (HH.out w3)))
  have HX3 := Lib.hid hX3; have HM3 := Lib.hid hM3
  clear hb3 hX3 hM3 Hn HX2 HM2
  go_wp2_with (first
    | (go_at_call 19; refine Hs.out.mono ?_))
  rintro e w4 ⟨vs, rfl, hEs, hb4⟩
  have hX4 := HX3.out.below hb4
  have hM4 := HM3.out.of_block ((hX4.at_ (x := (mb, o)) (by simp)).trans (HX3.out.at_ (x := (mb, o)) (by simp)).symm)
  have Hn := Lib.hid (num9 1 vs w4 (HL.out.below hpos hX4.bel) hEs)
  have HX4 := Lib.hid hX4; have HM4 := Lib.hid hM4
  clear hEs hb4 hX4 hM4 HX3 HM3 Hs q0 q1 q2
  go_wp2_with (first
    | (go_at_call 28; refine Hn.out.mono ?_))
  rintro e w5 ⟨rfl, hb5⟩
  have hX5 := HX4.out.below hb5
  have hM5 := HM4.out.of_block ((hX5.at_ (x := (mb, o)) (by simp)).trans (HX4.out.at_ (x := (mb, o)) (by simp)).symm)
  have Hfin := Lib.hid (show RunP gd g mb x N v cc d w0 (.returned (.bool true)) w5 from ⟨rfl, bk, o, hX5.sub (by intro z hz; simp at hz ⊢; rcases hz with h | h <;> simp [h]), hM5.mono (by omega), HF.out, HC.out.next, HT.out⟩)
  clear hb5 hX5 hM5 HX4 HM4 Hn
  go_wp2
  go_ret
  exact Hfin.out
set_option maxRecDepth 100000 in
set_option maxHeartbeats 16000000 in
theorem run_no4 (hX : OwnX bk gd g [(mb, o), (x, foO g 2 N)] w0 w) (hM : NumAt mb v cc w) (hF : Fo bk 2 N v) (hC : Co bk 300 d) (hT : bk.txn = []) (hN : N ≤ 100) (hcc : cc ≤ 9000) (hd : d ≤ 1300) (hL : Laid w0) (hmx : x ≠ mb) (l b xx : Int) (k1 : 0 ≤ l) (k2 : l < 4) (k3 : 0 ≤ b) (h : 256 ≤ b) :
    Calls Tryz.prog 15 #[.pointer (some ⟨g, 0, none⟩), .pointer (some ⟨x, 0, none⟩), .map (some mb), .int .i64 N, callV l b xx] w (RunP gd g mb x N v cc d w0) := by
  have hpos := hL.pos
  unfold callV
  have hX1 := hX.add (.cells #[.int .i64 l, .int .i64 b, .int .i64 xx] 30 (0, 0))
  have hM1 := hM.of_block ((hX1.at_ (x := (mb, o)) (by simp)).trans (hX.at_ (x := (mb, o)) (by simp)).symm)
  have HX1 := Lib.hid hX1; have HM1 := Lib.hid hM1; have HF := Lib.hid hF; have HC := Lib.hid hC; have HT := Lib.hid hT; have HL := Lib.hid hL
  have HH := Lib.hid (fun (W : World) => (has_no (w := W) ⟨x, 0, none⟩ l b (.inr (.inr (.inr h)))))
  have n2 : decide (b < 256) = false := by simp; omega
  clear hX hM hF hC hT hL hX1 hM1
  go_enter Tryz.func15, Tryz.ntmps15
  go_upto_region 1 with (fail)
  have hX1 := HX1.out; have hM1 := HM1.out
  clear HX1 HM1
  generalize w.alloc (.cells #[.int .i64 l, .int .i64 b, .int .i64 xx] 30 (0, 0)) = w1 at hX1 hM1 ⊢
  obtain ⟨x0, hx0⟩ : ∃ x0, w.heap.size = x0 := ⟨_, rfl⟩
  rw [hx0] at hX1 ⊢
  have hg := Get_of (get1_bad (.pointer (some ⟨x, 0, none⟩)) l b (HH.out w1))
  have Hg := Lib.hid hg
  obtain ⟨q0, q1, q2⟩ := cells9 (hX1.at_ (x := (x0, .cells #[.int .i64 l, .int .i64 b, .int .i64 xx] 30 (0, 0))) (by simp))
  have HX1 := Lib.hid hX1; have HM1 := Lib.hid hM1
  clear hx0 hg hX1 hM1 q2
  go_wp2_with (first
    | (go_at_call 21; refine Hg.out.mono ?_))
  rintro e w2 ⟨u2, rfl, hE2, hb2⟩
  have hX2 := HX1.out.below hb2
  have hM2 := HM1.out.of_block ((hX2.at_ (x := (mb, o)) (by simp)).trans (HX1.out.at_ (x := (mb, o)) (by simp)).symm)
  obtain ⟨q0, q1, q2⟩ := cells9 (hX2.at_ (x := (x0, .cells #[.int .i64 l, .int .i64 b, .int .i64 xx] 30 (0, 0))) (by simp))
  have Hn := Lib.hid (num9 1 u2 w2 (HL.out.below hpos hX2.bel) hE2)
  have HX2 := Lib.hid hX2; have HM2 := Lib.hid hM2
  clear hE2 hb2 hX2 hM2 Hg HX1 HM1 q2
  go_wp2_with (first
    | (go_at_call 28; refine Hn.out.mono ?_))
  rintro e w3 ⟨rfl, hb3⟩
  have hX3 := HX2.out.below hb3
  have hM3 := HM2.out.of_block ((hX3.at_ (x := (mb, o)) (by simp)).trans (HX2.out.at_ (x := (mb, o)) (by simp)).symm)
  obtain ⟨q0, q1, q2⟩ := cells9 (hX3.at_ (x := (x0, .cells #[.int .i64 l, .int .i64 b, .int .i64 xx] 30 (0, 0))) (by simp))
  have Hs := Lib.hid (rSet_arg (set1_bad (w := w3) (.pointer (some ⟨x, 0, none⟩)) l b xx (HH.out w3)))
  have HX3 := Lib.hid hX3; have HM3 := Lib.hid hM3
  clear hb3 hX3 hM3 Hn HX2 HM2
  go_wp2_with (first
    | (go_at_call 19; refine Hs.out.mono ?_))
  rintro e w4 ⟨vs, rfl, hEs, hb4⟩
  have hX4 := HX3.out.below hb4
  have hM4 := HM3.out.of_block ((hX4.at_ (x := (mb, o)) (by simp)).trans (HX3.out.at_ (x := (mb, o)) (by simp)).symm)
  have Hn := Lib.hid (num9 1 vs w4 (HL.out.below hpos hX4.bel) hEs)
  have HX4 := Lib.hid hX4; have HM4 := Lib.hid hM4
  clear hEs hb4 hX4 hM4 HX3 HM3 Hs q0 q1 q2
  go_wp2_with (first
    | (go_at_call 28; refine Hn.out.mono ?_))
  rintro e w5 ⟨rfl, hb5⟩
  have hX5 := HX4.out.below hb5
  have hM5 := HM4.out.of_block ((hX5.at_ (x := (mb, o)) (by simp)).trans (HX4.out.at_ (x := (mb, o)) (by simp)).symm)
  have Hfin := Lib.hid (show RunP gd g mb x N v cc d w0 (.returned (.bool true)) w5 from ⟨rfl, bk, o, hX5.sub (by intro z hz; simp at hz ⊢; rcases hz with h | h <;> simp [h]), hM5.mono (by omega), HF.out, HC.out.next, HT.out⟩)
  clear hb5 hX5 hM5 HX4 HM4 Hn
  go_wp2
  go_ret
  exact Hfin.out
end
end Go.Proofs.YtfagnbjjffjcbaaGreatDoor

/-
  Law 09's run, whatever the call.
-/
set_option linter.unusedSimpArgs false
set_option linter.unusedVariables false
namespace Go.Proofs.YtfagnbjjffjcbaaGreatDoor
open Go.RowKit Sh Go.Maps Go.Extern.Stop Go.Stop Go.Extern

/-- A block's place among the numbers. -/
def plc (l b : Int) : Nat := l.toNat * 256 + b.toNat
/-- The numbers behind a call. -/
def runQ (N : Nat) (v : Nat → Nat) (q : Int × Int × Int) : Nat → Nat := if (0 ≤ q.1 ∧ q.1 < 4 ∧ 0 ≤ q.2.1 ∧ q.2.1 < 256) ∧ (0 ≤ q.2.2 ∧ q.2.2 < 16777216) ∧ takenO (setV v (plc q.1 q.2.1) q.2.2.toNat) 4 ≤ N then setV v (plc q.1 q.2.1) q.2.2.toNat else v
theorem plc_nat (L B : Nat) : plc (L : Int) (B : Int) = L * 256 + B := by simp [plc]
theorem allocC9 (w : World) : (Instr.alloc 30 true (.tuple #[])).run Tryz.prog w = .ok (.pointer (some ⟨w.heap.size, 0, none⟩)) (w.alloc (.cells #[.int .i64 0, .int .i64 0, .int .i64 0] 30)) := by kernel_rfl
theorem infoC9 : (Tryz.prog.info? 30).map (·.size) = some 3 := by kernel_rfl
theorem range9 {W : World} {b o : Nat} {pv : List Value} {p q r : Int} (hp : pv = [.int .i64 p, .int .i64 q, .int .i64 r]) (h0 : W.cell? ⟨b, o, none⟩ = some (.int .i64 p)) (h1 : W.cell? ⟨b, o + 1, none⟩ = some (.int .i64 q)) (h2 : W.cell? ⟨b, o + 2, none⟩ = some (.int .i64 r)) : W.rangeAt b o pv := by
  subst hp
  intro j v hj
  match j, hj with
  | 0, hj => cases hj; exact h0
  | 1, hj => cases hj; exact h1
  | 2, hj => cases hj; exact h2
  | j + 3, hj => simp at hj
theorem loadC9 {W : World} {y : Nat} {pv : List Value} (hl : pv.length = 3) (h : W.heap[y]? = some (.cells pv.toArray 30 (0, 0))) : (Instr.loadAt 30 (.pointer (some ⟨y, 0, none⟩))).run Tryz.prog W = .ok (.agg pv.toArray) W :=
  run_loadAt_mid (P := Tryz.prog) W y 0 30 pv _ (fun j v hj => by rw [Nat.zero_add, cell_of_row W y j _ _ _ h]; simpa using hj) Tryz.underlying30 rfl (by rw [hl]; exact infoC9)
theorem wpList_load_c9 {ops : Array Oper} {Q : Exit → Act → World → Prop} {a : Act} {w : World} {o : Oper} {rest : List Oper} (x : Operand) (ho : o.op = .load 30 x) (b off : Nat) (hx : a.eval x = .pointer (some ⟨b, off, none⟩)) (p : Array Value)
    (hr : (Instr.loadAt 30 (.pointer (some ⟨b, off, none⟩))).run Tryz.prog w = .ok (.agg p) w) (hw : Region.wanted o (yielded ops a.tmps) = true) (h : wpList Tryz.prog ops Q rest (a.put o.dst (.agg p)) w) : wpList Tryz.prog ops Q (o :: rest) a w :=
  wpList_val hw (exec_load _ _ 30 x ho b off hx p hr) h
attribute [local irreducible] bk1 bk0
section
variable {bk : Bk} {gd g mb x N cc d : Nat} {o : Obj} {v : Nat → Nat} {w0 w : World}
theorem run_any (hX : OwnX bk gd g [(mb, o), (x, foO g 2 N)] w0 w) (hM : NumAt mb v cc w) (hF : Fo bk 2 N v) (hC : Co bk 300 d) (hT : bk.txn = []) (hN : N ≤ 100) (hcc : cc ≤ 9000) (hd : d ≤ 1300) (hL : Laid w0) (hmx : x ≠ mb) (l b xx : Int) :
    Calls Tryz.prog 15 #[.pointer (some ⟨g, 0, none⟩), .pointer (some ⟨x, 0, none⟩), .map (some mb), .int .i64 N, callV l b xx] w (RunP gd g mb x N (runQ N v (l, b, xx)) cc d w0) := by
  have hno : ¬ ((0 ≤ l ∧ l < 4 ∧ 0 ≤ b ∧ b < 256) ∧ (0 ≤ xx ∧ xx < 16777216)) → runQ N v (l, b, xx) = v := fun h => if_neg (fun h2 => h ⟨h2.1, h2.2.1⟩)
  by_cases a1 : l < 0
  · rw [hno (by omega)]; exact run_no1 hX hM hF hC hT hN hcc hd hL hmx l b xx a1
  by_cases a2 : 4 ≤ l
  · rw [hno (by omega)]; exact run_no2 hX hM hF hC hT hN hcc hd hL hmx l b xx (by omega) a2
  by_cases a3 : b < 0
  · rw [hno (by omega)]; exact run_no3 hX hM hF hC hT hN hcc hd hL hmx l b xx (by omega) (by omega) a3
  by_cases a4 : 256 ≤ b
  · rw [hno (by omega)]; exact run_no4 hX hM hF hC hT hN hcc hd hL hmx l b xx (by omega) (by omega) (by omega) a4
  obtain ⟨L, rfl⟩ : ∃ L : Nat, l = (L : Int) := ⟨l.toNat, by omega⟩
  obtain ⟨B, rfl⟩ : ∃ B : Nat, b = (B : Int) := ⟨b.toNat, by omega⟩
  have hl : L < 4 := by omega
  have hb : B < 256 := by omega
  by_cases a5 : xx < 0
  · rw [hno (by omega)]; exact run_neg hX hM hF hC hT hN hcc hd hL hmx L B hl hb xx a5
  by_cases a6 : 16777216 ≤ xx
  · rw [hno (by omega)]; exact run_big hX hM hF hC hT hN hcc hd hL hmx L B hl hb xx a6
  obtain ⟨X, rfl⟩ : ∃ X : Nat, xx = (X : Int) := ⟨xx.toNat, by omega⟩
  have hX24 : X < 16777216 := by omega
  have hin : (0 ≤ (L : Int) ∧ (L : Int) < 4 ∧ 0 ≤ (B : Int) ∧ (B : Int) < 256) ∧ (0 ≤ (X : Int) ∧ (X : Int) < 16777216) := by omega
  have hyes : takenO (setV v (L * 256 + B) X) 4 ≤ N → runQ N v ((L : Int), (B : Int), (X : Int)) = setV v (L * 256 + B) X := fun h => by
    have e := plc_nat L B
    unfold runQ
    rw [if_pos ⟨hin.1, hin.2, by show takenO (setV v (plc (L : Int) (B : Int)) X) 4 ≤ N; rw [e]; exact h⟩]
    show setV v (plc (L : Int) (B : Int)) X = _
    rw [e]
  have hfull : N < takenO (setV v (L * 256 + B) X) 4 → runQ N v ((L : Int), (B : Int), (X : Int)) = v := fun h => by
    have e := plc_nat L B
    unfold runQ
    refine if_neg (fun h2 => ?_)
    have h3 : takenO (setV v (plc (L : Int) (B : Int)) X) 4 ≤ N := h2.2.2
    rw [e] at h3
    omega
  by_cases a7 : X = 0
  · subst a7
    have h0 : takenO (setV v (L * 256 + B) 0) 4 ≤ N := Nat.le_of_not_lt fun h => (refused_none (by omega) hF.rep.cap h).2 rfl
    rw [hyes h0]
    exact run_zero hX hM hF hC hT hN hcc hd hL hmx L B hl hb
  by_cases a8 : takenO (setV v (L * 256 + B) X) 4 ≤ N
  · rw [hyes a8]; exact run_put hX hM hF hC hT hN hcc hd hL hmx L B hl hb X a7 hX24 a8
  · rw [hfull (by omega)]; exact run_full hX hM hF hC hT hN hcc hd hL hmx L B hl hb X a7 hX24 (by omega)
end
end Go.Proofs.YtfagnbjjffjcbaaGreatDoor

/-
  Law 09's right: all numbers are these, and just their nodes are taken.
-/
set_option linter.unusedSimpArgs false
set_option linter.unusedVariables false
namespace Go.Proofs.YtfagnbjjffjcbaaGreatDoor
open Go.RowKit Sh Go.Maps Go.Extern.Stop Go.Stop Go.Extern

def RightP (w0 : World) (e : Ending) (w' : World) : Prop := e = .returned (.bool true) ∧ Below w0.heap.size w0 w'
attribute [local irreducible] bk1 bk0
section
variable {bk : Bk} {gd g mb x N cc d : Nat} {o : Obj} {v : Nat → Nat} {w0 w : World}
set_option maxRecDepth 100000 in
set_option maxHeartbeats 16000000 in
theorem right_any (hX : OwnX bk gd g [(mb, o), (x, foO g 2 N)] w0 w) (hM : NumAt mb v cc w) (hF : Fo bk 2 N v) (hN : N ≤ 100) (hmx : x ≠ mb) :
    Calls Tryz.prog 18 #[.pointer (some ⟨x, 0, none⟩), .map (some mb)] w (RightP w0) := by
  have HX := Lib.hid hX; have HM := Lib.hid hM; have HF := Lib.hid hF
  clear hX hM hF
  go_enter Tryz.func18, Tryz.ntmps18
  go_wp2
  go_loopg [11] 4 (fun m q wr => ∃ l : Nat, m = 4 - l ∧ l ≤ 4 ∧ q = .int .i64 l ∧ OwnX bk gd g [(mb, o), (x, foO g 2 N)] w0 wr ∧ NumAt mb v cc wr)
  case atStart => exact ⟨0, rfl, by omega, rfl, HX.out, HM.out⟩
  case round =>
    clear HX HM
    obtain ⟨l, rfl, hl, rfl, hX, hM⟩ := hrel
    by_cases hll : l < 4
    case neg =>
      have hll' : ¬ ((l : Int) < 4) := by omega
      obtain ⟨TK, hTK⟩ : ∃ TK, takenO v 4 = TK := ⟨_, rfl⟩
      have hn := rNodes_any hX (x := x) (by simp) HF.out (by omega) (by omega)
      rw [hTK] at hn
      have Hn := Lib.hid hn; have HX := Lib.hid hX; have HM := Lib.hid hM; have HTK := Lib.hid hTK
      clear hX hM hn hTK hll
      go_wp2_with (first
        | (go_at_call 16; refine Hn.out.mono ?_))
      rintro e w2 ⟨u, rfl, hE, hb⟩
      obtain rfl := ErrV.zero hE
      have hX2 := HX.out.below hb
      have hM2 := HM.out.of_block ((hX2.at_ (x := (mb, o)) (by simp)).trans (HX.out.at_ (x := (mb, o)) (by simp)).symm)
      have hnd := need_any hM2
      rw [HTK.out] at hnd
      have Hnd := Lib.hid hnd; have HX2 := Lib.hid hX2
      clear hE hb hX2 hM2 hnd Hn HX HM hll'
      go_wp2_with (first
        | (go_at_call 17; refine Hnd.out.mono ?_))
      rintro e w3 ⟨rfl, hb3⟩
      have Hfin := Lib.hid (show RightP w0 (.returned (.bool true)) w3 from ⟨rfl, (HX2.out.below hb3).bel⟩)
      clear hb3 HX2 Hnd
      go_wp2
      go_ret
      exact Hfin.out
    have hll' : (l : Int) < 4 := by omega
    have HX := Lib.hid hX; have HM := Lib.hid hM
    clear hX hM
    go_wp2
    go_loopg [6] 300 (fun m q wr => ∃ b : Nat, m = 300 - b ∧ b ≤ 260 ∧ q = .int .i64 b ∧ OwnX bk gd g [(mb, o), (x, foO g 2 N)] w0 wr ∧ NumAt mb v cc wr)
    case atStart => exact ⟨0, rfl, by omega, rfl, HX.out, HM.out⟩
    case round =>
      clear HX HM
      rename World => wq
      obtain ⟨b, rfl, hb, rfl, hX, hM⟩ := hrel
      by_cases hbb : b < 256
      case neg =>
        have hbb' : ¬ ((b : Int) < 256) := by omega
        have HX := Lib.hid hX; have HM := Lib.hid hM
        clear hX hM
        go_wp2
        go_roundg (4 - (l + 1))
        case measure => omega
        case rel => exact ⟨l + 1, rfl, by omega, by go_num, HX.out, HM.out⟩
      have hbb' : (b : Int) < 256 := by omega
      obtain ⟨Z, hZ⟩ : ∃ Z, v (l * 256 + b) = Z := ⟨_, rfl⟩
      have hg := rGet_any hX (x := x) (by simp) HF.out (by omega) (by omega) l b hll hbb
      rw [hZ] at hg
      have Hg := Lib.hid hg; have HX := Lib.hid hX; have HM := Lib.hid hM; have HZ := Lib.hid hZ
      clear hX hM hg hZ
      go_wp2_with (first
        | (go_at_call 21; refine Hg.out.mono ?_))
      rintro e w2 ⟨u, rfl, hE, hb2⟩
      obtain rfl := ErrV.zero hE
      have hX2 := HX.out.below hb2
      have hM2 := HM.out.of_block ((hX2.at_ (x := (mb, o)) (by simp)).trans (HX.out.at_ (x := (mb, o)) (by simp)).symm)
      have hlk := hM2.look hll hbb
      rw [HZ.out] at hlk
      have HX2 := Lib.hid hX2; have HM2 := Lib.hid hM2
      have hs1 : IntKind.i64.wrap (1 + (l : Int)) = 1 + (l : Int) := IntWalk.i64_in _ (by omega)
      have hs2 : IntKind.i64.wrap ((b : Int) + (1 + (l : Int))) = ((b + (1 + l) : Nat) : Int) := by rw [IntWalk.i64_in _ (by omega)]; omega
      clear hE hb2 hX2 hM2 Hg HX HM HZ
      go_wp2_with (first
        | (refine wpList_look_num false _ _ rfl _ _ _ rfl rfl hlk (by rfl) ?_))
      go_roundg (300 - (b + (1 + l)))
      case measure => omega
      case rel => exact ⟨b + (1 + l), rfl, by omega, by first | rfl | go_num, HX2.out, HM2.out⟩
end
end Go.Proofs.YtfagnbjjffjcbaaGreatDoor
