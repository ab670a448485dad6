/-
  Law 09's run: one call, held against a map.
-/
import Derived.Test.YtfagnbjjffjcbaaGreatDoorJRn
set_option linter.unusedSimpArgs false
set_option linter.unusedVariables false
namespace Go.Proofs.YtfagnbjjffjcbaaGreatDoor
open Go.RowKit Sh Go.Maps Go.Extern.Stop Go.Stop Go.Extern

attribute [local irreducible] bk1 bk0
section
variable {bk : Bk} {gd g mb x N cc d : Nat} {o : Obj} {v : Nat → Nat} {w0 w : World}
set_option maxRecDepth 100000 in
set_option maxHeartbeats 16000000 in
theorem run_neg (hX : OwnX bk gd g [(mb, o), (x, foO g 2 N)] w0 w) (hM : NumAt mb v cc w) (hF : Fo bk 2 N v) (hC : Co bk 300 d) (hT : bk.txn = []) (hN : N ≤ 100) (hcc : cc ≤ 9000) (hd : d ≤ 1300) (hL : Laid w0) (hmx : x ≠ mb) (l b : Nat) (hl : l < 4) (hb : b < 256) (xx : Int) (h : xx < 0) :
    Calls Tryz.prog 15 #[.pointer (some ⟨g, 0, none⟩), .pointer (some ⟨x, 0, none⟩), .map (some mb), .int .i64 N, callV l b xx] w (RunP gd g mb x N v cc d w0) := by
  have hpos := hL.pos
  unfold callV
  have hX1 := hX.add (.cells #[.int .i64 (l : Int), .int .i64 (b : Int), .int .i64 xx] 30 (0, 0))
  have hM1 := hM.of_block ((hX1.at_ (x := (mb, o)) (by simp)).trans (hX.at_ (x := (mb, o)) (by simp)).symm)
  have hmw : mb < w.heap.size := hX.arr.lt (x := (mb, o)) (by simp)
  have HX1 := Lib.hid hX1; have HM1 := Lib.hid hM1; have HF := Lib.hid hF; have HC := Lib.hid hC; have HT := Lib.hid hT; have HL := Lib.hid hL
  obtain ⟨pv, Hpv⟩ : ∃ pv : List Value, Hid (pv = [.int .i64 (l : Int), .int .i64 (b : Int)]) := ⟨_, rfl⟩
  have hpl : pv.length = 2 := by rw [Hpv.out]; rfl
  have hpV : Hid (pairV l b = .agg pv.toArray) := by
    have : pairV l b = .agg pv.toArray := by rw [Hpv.out]; rfl
    exact this
  have hpi : Hid ((Tryz.prog.info? 82).map (·.size) = some pv.toArray.size) := by rw [Hpv.out]; exact infoPr
  have hpz : Hid ((#[.int .i64 0, .int .i64 0] : Array Value).size = pv.toArray.size) := by show (#[.int .i64 0, .int .i64 0] : Array Value).size = pv.toArray.size; rw [Hpv.out]; rfl
  have hp1 : Hid (pv.toArray.all (·.oneCell') = true) := by rw [Hpv.out]; exact all_oneCell_toArray (fun u hu => by simp only [List.mem_cons, List.not_mem_nil, or_false] at hu; rcases hu with rfl | rfl <;> rfl)
  have k1 : (0 : Int) ≤ (l : Int) := by omega
  have k2 : (l : Int) < 4 := by omega
  have k3 : (0 : Int) ≤ (b : Int) := by omega
  have k4 : (b : Int) < 256 := by omega
  obtain ⟨K, hKe⟩ : ∃ K, l * 256 + b = K := ⟨_, rfl⟩
  have HKe := Lib.hid hKe
  have hK : K < 1024 := by omega
  clear hX hM hF hC hT hL hX1 hM1 hKe
  go_enter Tryz.func15, Tryz.ntmps15
  go_upto_region 1 with (fail)
  have hX1 := HX1.out; have hM1 := HM1.out
  clear HX1 HM1
  generalize w.alloc (.cells #[.int .i64 (l : Int), .int .i64 (b : Int), .int .i64 xx] 30 (0, 0)) = w1 at hX1 hM1 ⊢
  obtain ⟨x0, hx0⟩ : ∃ x0, w.heap.size = x0 := ⟨_, rfl⟩
  rw [hx0] at hX1 hmw ⊢
  have hg := rGet_any hX1 (x := x) (by simp) HF.out (by omega) (by omega) l b hl hb
  rw [HKe.out] at hg
  have Hg := Lib.hid hg
  obtain ⟨q0, q1, q2⟩ := cells9 (hX1.at_ (x := (x0, .cells #[.int .i64 (l : Int), .int .i64 (b : Int), .int .i64 xx] 30 (0, 0))) (by simp))
  have HX1 := Lib.hid hX1; have HM1 := Lib.hid hM1
  have HK2 := Lib.hid k2; have HK4 := Lib.hid k4
  clear hx0 hg hX1 hM1 q2
  go_wp2_with (first
    | (go_at_call 21; refine Hg.out.mono ?_))
  rintro e w2 ⟨u2, rfl, hE2, hb2⟩
  obtain rfl := ErrV.zero hE2
  have hX2 := HX1.out.below hb2
  have hM2 := HM1.out.of_block ((hX2.at_ (x := (mb, o)) (by simp)).trans (HX1.out.at_ (x := (mb, o)) (by simp)).symm)
  obtain ⟨q0, q1, q2⟩ := cells9 (hX2.at_ (x := (x0, .cells #[.int .i64 (l : Int), .int .i64 (b : Int), .int .i64 xx] 30 (0, 0))) (by simp))
  have hX3 := hX2.add (.cells pv.toArray 82 (0, 0))
  have hM3 := hM2.of_block ((hX3.at_ (x := (mb, o)) (by simp)).trans (hX2.at_ (x := (mb, o)) (by simp)).symm)
  have hmy : mb < w2.heap.size := hX2.arr.lt (x := (mb, o)) (by simp)
  have HX3 := Lib.hid hX3; have HM3 := Lib.hid hM3
  clear hE2 hb2 hX2 hM2 hX3 hM3 Hg HX1 HM1 q2
  go_upto_region 6 with (first
    | (refine wpList_buildPv _ _ rfl (l : Int) (b : Int) rfl rfl pv Hpv (by rfl) ?_)
    | (refine wpList_alloc_arr rfl 82 rfl _ allocPr ?_)
    | (refine wpList_store_new rfl 82 _ _ rfl w2.heap.size rfl pv.toArray rfl rfl 82 _ hpi.out hpz.out hp1.out ?_))
  have hX3 := HX3.out; have hM3 := HM3.out
  clear HX3 HM3 hpi hpz hp1 q0 q1
  generalize w2.alloc (.cells pv.toArray 82 (0, 0)) = w3 at hX3 hM3 ⊢
  obtain ⟨y, hy⟩ : ∃ y, w2.heap.size = y := ⟨_, rfl⟩
  rw [hy] at hX3 hmy ⊢
  obtain ⟨q0, q1, q2⟩ := cells9 (hX3.at_ (x := (x0, .cells #[.int .i64 (l : Int), .int .i64 (b : Int), .int .i64 xx] 30 (0, 0))) (by simp))
  have hld := loadPr hpl (hX3.at_ (x := (y, .cells pv.toArray 82 (0, 0))) (by simp))
  have hlk := hM3.look hl hb
  rw [hpV.out, HKe.out] at hlk
  have Hmr := Lib.hid (hX3.at_ (x := (mb, o)) (by simp))
  have hX3 := hX3.sub (T' := ((mb, o) :: [(y, .cells pv.toArray 82 (0, 0)), (x0, .cells #[.int .i64 (l : Int), .int .i64 (b : Int), .int .i64 xx] 30 (0, 0)), (x, foO g 2 N)])) (by intro z hz; simp at hz ⊢; rcases hz with h | h | h | h <;> simp [h])
  have Hne : Hid (∀ z ∈ [(y, .cells pv.toArray 82 (0, 0)), (x0, .cells #[.int .i64 (l : Int), .int .i64 (b : Int), .int .i64 xx] 30 (0, 0)), (x, foO g 2 N)], z.1 ≠ mb) := by
    have : ∀ z ∈ [(y, .cells pv.toArray 82 (0, 0)), (x0, .cells #[.int .i64 (l : Int), .int .i64 (b : Int), .int .i64 xx] 30 (0, 0)), (x, foO g 2 N)], z.1 ≠ mb := fun z hz => by
      simp only [List.mem_cons, List.not_mem_nil, or_false] at hz
      rcases hz with rfl | rfl | rfl
      · show y ≠ mb; omega
      · show x0 ≠ mb; omega
      · exact hmx
    exact this
  have Hm3 := Lib.hid (hX3.at_ (x := (mb, o)) (by simp))
  have HM3 := Lib.hid hM3
  have Hs := Lib.hid (rSet_arg (set1_range (w := w3) (.pointer (some ⟨x, 0, none⟩)) l b xx (has_yes ⟨x, 0, none⟩ l b k1 k2 k3 k4) (by omega)))
  have HX3 := Lib.hid hX3
  clear hX3 hM3
  go_wp2_with (first
    | (refine wpList_load_pr _ rfl y 0 rfl _ hld (by rfl) ?_)
    | (refine wpList_look_num false _ _ rfl _ _ _ rfl rfl hlk (by rfl) ?_)
    | (go_at_call 19; refine Hs.out.mono ?_))
  rintro e w4 ⟨vs, rfl, hEs, hb4⟩
  have hX4 := HX3.out.below hb4
  obtain ⟨_, _, q2⟩ := cells9 (hX4.at_ (x := (x0, .cells #[.int .i64 (l : Int), .int .i64 (b : Int), .int .i64 xx] 30 (0, 0))) (by simp))
  have hM4 := HM3.out.of_block ((hX4.at_ (x := (mb, o)) (by simp)).trans Hm3.out.symm)
  have hL4 := HL.out.below hpos hX4.bel
  have Hn := Lib.hid (num9 1 vs w4 hL4 hEs)
  have HX4 := Lib.hid hX4; have HM4 := Lib.hid hM4
  clear hEs hb4 hX4 hM4 hL4 HX3 Hs hld hlk q0 q1
  go_wp2_with (first
    | (go_at_call 28; refine Hn.out.mono ?_))
  rintro e w5 ⟨rfl, hb5⟩
  have hX5 := HX4.out.below hb5
  have hM5 := HM4.out.of_block ((hX5.at_ (x := (mb, o)) (by simp)).trans (HX4.out.at_ (x := (mb, o)) (by simp)).symm)
  have Hfin := Lib.hid (show RunP gd g mb x N v cc d w0 (.returned (.bool true)) w5 from ⟨rfl, bk, o, hX5.sub (by intro z hz; simp at hz ⊢; rcases hz with h | h <;> simp [h]), hM5.mono (by omega), HF.out, HC.out.next, HT.out⟩)
  clear hb5 hX5 hM5 HX4 HM4 Hn q2
  go_wp2
  go_ret
  exact Hfin.out
set_option maxRecDepth 100000 in
set_option maxHeartbeats 16000000 in
theorem run_big (hX : OwnX bk gd g [(mb, o), (x, foO g 2 N)] w0 w) (hM : NumAt mb v cc w) (hF : Fo bk 2 N v) (hC : Co bk 300 d) (hT : bk.txn = []) (hN : N ≤ 100) (hcc : cc ≤ 9000) (hd : d ≤ 1300) (hL : Laid w0) (hmx : x ≠ mb) (l b : Nat) (hl : l < 4) (hb : b < 256) (xx : Int) (h : 16777216 ≤ xx) :
    Calls Tryz.prog 15 #[.pointer (some ⟨g, 0, none⟩), .pointer (some ⟨x, 0, none⟩), .map (some mb), .int .i64 N, callV l b xx] w (RunP gd g mb x N v cc d w0) := by
  have hpos := hL.pos
  unfold callV
  have hX1 := hX.add (.cells #[.int .i64 (l : Int), .int .i64 (b : Int), .int .i64 xx] 30 (0, 0))
  have hM1 := hM.of_block ((hX1.at_ (x := (mb, o)) (by simp)).trans (hX.at_ (x := (mb, o)) (by simp)).symm)
  have hmw : mb < w.heap.size := hX.arr.lt (x := (mb, o)) (by simp)
  have HX1 := Lib.hid hX1; have HM1 := Lib.hid hM1; have HF := Lib.hid hF; have HC := Lib.hid hC; have HT := Lib.hid hT; have HL := Lib.hid hL
  obtain ⟨pv, Hpv⟩ : ∃ pv : List Value, Hid (pv = [.int .i64 (l : Int), .int .i64 (b : Int)]) := ⟨_, rfl⟩
  have hpl : pv.length = 2 := by rw [Hpv.out]; rfl
  have hpV : Hid (pairV l b = .agg pv.toArray) := by
    have : pairV l b = .agg pv.toArray := by rw [Hpv.out]; rfl
    exact this
  have hpi : Hid ((Tryz.prog.info? 82).map (·.size) = some pv.toArray.size) := by rw [Hpv.out]; exact infoPr
  have hpz : Hid ((#[.int .i64 0, .int .i64 0] : Array Value).size = pv.toArray.size) := by show (#[.int .i64 0, .int .i64 0] : Array Value).size = pv.toArray.size; rw [Hpv.out]; rfl
  have hp1 : Hid (pv.toArray.all (·.oneCell') = true) := by rw [Hpv.out]; exact all_oneCell_toArray (fun u hu => by simp only [List.mem_cons, List.not_mem_nil, or_false] at hu; rcases hu with rfl | rfl <;> rfl)
  have k1 : (0 : Int) ≤ (l : Int) := by omega
  have k2 : (l : Int) < 4 := by omega
  have k3 : (0 : Int) ≤ (b : Int) := by omega
  have k4 : (b : Int) < 256 := by omega
  obtain ⟨K, hKe⟩ : ∃ K, l * 256 + b = K := ⟨_, rfl⟩
  have HKe := Lib.hid hKe
  have hK : K < 1024 := by omega
  clear hX hM hF hC hT hL hX1 hM1 hKe
  go_enter Tryz.func15, Tryz.ntmps15
  go_upto_region 1 with (fail)
  have hX1 := HX1.out; have hM1 := HM1.out
  clear HX1 HM1
  generalize w.alloc (.cells #[.int .i64 (l : Int), .int .i64 (b : Int), .int .i64 xx] 30 (0, 0)) = w1 at hX1 hM1 ⊢
  obtain ⟨x0, hx0⟩ : ∃ x0, w.heap.size = x0 := ⟨_, rfl⟩
  rw [hx0] at hX1 hmw ⊢
  have hg := rGet_any hX1 (x := x) (by simp) HF.out (by omega) (by omega) l b hl hb
  rw [HKe.out] at hg
  have Hg := Lib.hid hg
  obtain ⟨q0, q1, q2⟩ := cells9 (hX1.at_ (x := (x0, .cells #[.int .i64 (l : Int), .int .i64 (b : Int), .int .i64 xx] 30 (0, 0))) (by simp))
  have HX1 := Lib.hid hX1; have HM1 := Lib.hid hM1
  have HK2 := Lib.hid k2; have HK4 := Lib.hid k4
  clear hx0 hg hX1 hM1 q2
  go_wp2_with (first
    | (go_at_call 21; refine Hg.out.mono ?_))
  rintro e w2 ⟨u2, rfl, hE2, hb2⟩
  obtain rfl := ErrV.zero hE2
  have hX2 := HX1.out.below hb2
  have hM2 := HM1.out.of_block ((hX2.at_ (x := (mb, o)) (by simp)).trans (HX1.out.at_ (x := (mb, o)) (by simp)).symm)
  obtain ⟨q0, q1, q2⟩ := cells9 (hX2.at_ (x := (x0, .cells #[.int .i64 (l : Int), .int .i64 (b : Int), .int .i64 xx] 30 (0, 0))) (by simp))
  have hX3 := hX2.add (.cells pv.toArray 82 (0, 0))
  have hM3 := hM2.of_block ((hX3.at_ (x := (mb, o)) (by simp)).trans (hX2.at_ (x := (mb, o)) (by simp)).symm)
  have hmy : mb < w2.heap.size := hX2.arr.lt (x := (mb, o)) (by simp)
  have HX3 := Lib.hid hX3; have HM3 := Lib.hid hM3
  clear hE2 hb2 hX2 hM2 hX3 hM3 Hg HX1 HM1 q2
  go_upto_region 6 with (first
    | (refine wpList_buildPv _ _ rfl (l : Int) (b : Int) rfl rfl pv Hpv (by rfl) ?_)
    | (refine wpList_alloc_arr rfl 82 rfl _ allocPr ?_)
    | (refine wpList_store_new rfl 82 _ _ rfl w2.heap.size rfl pv.toArray rfl rfl 82 _ hpi.out hpz.out hp1.out ?_))
  have hX3 := HX3.out; have hM3 := HM3.out
  clear HX3 HM3 hpi hpz hp1 q0 q1
  generalize w2.alloc (.cells pv.toArray 82 (0, 0)) = w3 at hX3 hM3 ⊢
  obtain ⟨y, hy⟩ : ∃ y, w2.heap.size = y := ⟨_, rfl⟩
  rw [hy] at hX3 hmy ⊢
  obtain ⟨q0, q1, q2⟩ := cells9 (hX3.at_ (x := (x0, .cells #[.int .i64 (l : Int), .int .i64 (b : Int), .int .i64 xx] 30 (0, 0))) (by simp))
  have hld := loadPr hpl (hX3.at_ (x := (y, .cells pv.toArray 82 (0, 0))) (by simp))
  have hlk := hM3.look hl hb
  rw [hpV.out, HKe.out] at hlk
  have Hmr := Lib.hid (hX3.at_ (x := (mb, o)) (by simp))
  have hX3 := hX3.sub (T' := ((mb, o) :: [(y, .cells pv.toArray 82 (0, 0)), (x0, .cells #[.int .i64 (l : Int), .int .i64 (b : Int), .int .i64 xx] 30 (0, 0)), (x, foO g 2 N)])) (by intro z hz; simp at hz ⊢; rcases hz with h | h | h | h <;> simp [h])
  have Hne : Hid (∀ z ∈ [(y, .cells pv.toArray 82 (0, 0)), (x0, .cells #[.int .i64 (l : Int), .int .i64 (b : Int), .int .i64 xx] 30 (0, 0)), (x, foO g 2 N)], z.1 ≠ mb) := by
    have : ∀ z ∈ [(y, .cells pv.toArray 82 (0, 0)), (x0, .cells #[.int .i64 (l : Int), .int .i64 (b : Int), .int .i64 xx] 30 (0, 0)), (x, foO g 2 N)], z.1 ≠ mb := fun z hz => by
      simp only [List.mem_cons, List.not_mem_nil, or_false] at hz
      rcases hz with rfl | rfl | rfl
      · show y ≠ mb; omega
      · show x0 ≠ mb; omega
      · exact hmx
    exact this
  have Hm3 := Lib.hid (hX3.at_ (x := (mb, o)) (by simp))
  have HM3 := Lib.hid hM3
  have Hs := Lib.hid (rSet_arg (set1_range (w := w3) (.pointer (some ⟨x, 0, none⟩)) l b xx (has_yes ⟨x, 0, none⟩ l b k1 k2 k3 k4) (by omega)))
  have HX3 := Lib.hid hX3
  clear hX3 hM3
  go_wp2_with (first
    | (refine wpList_load_pr _ rfl y 0 rfl _ hld (by rfl) ?_)
    | (refine wpList_look_num false _ _ rfl _ _ _ rfl rfl hlk (by rfl) ?_)
    | (go_at_call 19; refine Hs.out.mono ?_))
  rintro e w4 ⟨vs, rfl, hEs, hb4⟩
  have hX4 := HX3.out.below hb4
  obtain ⟨_, _, q2⟩ := cells9 (hX4.at_ (x := (x0, .cells #[.int .i64 (l : Int), .int .i64 (b : Int), .int .i64 xx] 30 (0, 0))) (by simp))
  have hM4 := HM3.out.of_block ((hX4.at_ (x := (mb, o)) (by simp)).trans Hm3.out.symm)
  have hL4 := HL.out.below hpos hX4.bel
  have Hn := Lib.hid (num9 1 vs w4 hL4 hEs)
  have HX4 := Lib.hid hX4; have HM4 := Lib.hid hM4
  have h0 : ¬ (xx < 0) := by omega
  clear hEs hb4 hX4 hM4 hL4 HX3 Hs hld hlk q0 q1
  go_wp2_with (first
    | (go_at_call 28; refine Hn.out.mono ?_))
  rintro e w5 ⟨rfl, hb5⟩
  have hX5 := HX4.out.below hb5
  have hM5 := HM4.out.of_block ((hX5.at_ (x := (mb, o)) (by simp)).trans (HX4.out.at_ (x := (mb, o)) (by simp)).symm)
  have Hfin := Lib.hid (show RunP gd g mb x N v cc d w0 (.returned (.bool true)) w5 from ⟨rfl, bk, o, hX5.sub (by intro z hz; simp at hz ⊢; rcases hz with h | h <;> simp [h]), hM5.mono (by omega), HF.out, HC.out.next, HT.out⟩)
  clear hb5 hX5 hM5 HX4 HM4 Hn q2
  go_wp2
  go_ret
  exact Hfin.out
set_option maxRecDepth 100000 in
set_option maxHeartbeats 16000000 in
theorem run_put (hX : OwnX bk gd g [(mb, o), (x, foO g 2 N)] w0 w) (hM : NumAt mb v cc w) (hF : Fo bk 2 N v) (hC : Co bk 300 d) (hT : bk.txn = []) (hN : N ≤ 100) (hcc : cc ≤ 9000) (hd : d ≤ 1300) (hL : Laid w0) (hmx : x ≠ mb) (l b : Nat) (hl : l < 4) (hb : b < 256) (X : Nat) (hx0' : X ≠ 0) (hx24 : X < 16777216) (hcap : takenO (setV v (l * 256 + b) X) 4 ≤ N) :
    Calls Tryz.prog 15 #[.pointer (some ⟨g, 0, none⟩), .pointer (some ⟨x, 0, none⟩), .map (some mb), .int .i64 N, callV l b (X : Int)] w (RunP gd g mb x N (setV v (l * 256 + b) X) cc d w0) := by
  have hpos := hL.pos
  unfold callV
  have hX1 := hX.add (.cells #[.int .i64 (l : Int), .int .i64 (b : Int), .int .i64 (X : Int)] 30 (0, 0))
  have hM1 := hM.of_block ((hX1.at_ (x := (mb, o)) (by simp)).trans (hX.at_ (x := (mb, o)) (by simp)).symm)
  have hmw : mb < w.heap.size := hX.arr.lt (x := (mb, o)) (by simp)
  have HX1 := Lib.hid hX1; have HM1 := Lib.hid hM1; have HF := Lib.hid hF; have HC := Lib.hid hC; have HT := Lib.hid hT; have HL := Lib.hid hL
  obtain ⟨pv, Hpv⟩ : ∃ pv : List Value, Hid (pv = [.int .i64 (l : Int), .int .i64 (b : Int)]) := ⟨_, rfl⟩
  have hpl : pv.length = 2 := by rw [Hpv.out]; rfl
  have hpV : Hid (pairV l b = .agg pv.toArray) := by
    have : pairV l b = .agg pv.toArray := by rw [Hpv.out]; rfl
    exact this
  have hpi : Hid ((Tryz.prog.info? 82).map (·.size) = some pv.toArray.size) := by rw [Hpv.out]; exact infoPr
  have hpz : Hid ((#[.int .i64 0, .int .i64 0] : Array Value).size = pv.toArray.size) := by show (#[.int .i64 0, .int .i64 0] : Array Value).size = pv.toArray.size; rw [Hpv.out]; rfl
  have hp1 : Hid (pv.toArray.all (·.oneCell') = true) := by rw [Hpv.out]; exact all_oneCell_toArray (fun u hu => by simp only [List.mem_cons, List.not_mem_nil, or_false] at hu; rcases hu with rfl | rfl <;> rfl)
  have k1 : (0 : Int) ≤ (l : Int) := by omega
  have k2 : (l : Int) < 4 := by omega
  have k3 : (0 : Int) ≤ (b : Int) := by omega
  have k4 : (b : Int) < 256 := by omega
  obtain ⟨K, hKe⟩ : ∃ K, l * 256 + b = K := ⟨_, rfl⟩
  have HKe := Lib.hid hKe
  have hK : K < 1024 := by omega
  clear hX hM hF hC hT hL hX1 hM1 hKe
  go_enter Tryz.func15, Tryz.ntmps15
  go_upto_region 1 with (fail)
  have hX1 := HX1.out; have hM1 := HM1.out
  clear HX1 HM1
  generalize w.alloc (.cells #[.int .i64 (l : Int), .int .i64 (b : Int), .int .i64 (X : Int)] 30 (0, 0)) = w1 at hX1 hM1 ⊢
  obtain ⟨x0, hx0⟩ : ∃ x0, w.heap.size = x0 := ⟨_, rfl⟩
  rw [hx0] at hX1 hmw ⊢
  have hg := rGet_any hX1 (x := x) (by simp) HF.out (by omega) (by omega) l b hl hb
  rw [HKe.out] at hg
  have Hg := Lib.hid hg
  obtain ⟨q0, q1, q2⟩ := cells9 (hX1.at_ (x := (x0, .cells #[.int .i64 (l : Int), .int .i64 (b : Int), .int .i64 (X : Int)] 30 (0, 0))) (by simp))
  have HX1 := Lib.hid hX1; have HM1 := Lib.hid hM1
  have HK2 := Lib.hid k2; have HK4 := Lib.hid k4
  clear hx0 hg hX1 hM1 q2
  go_wp2_with (first
    | (go_at_call 21; refine Hg.out.mono ?_))
  rintro e w2 ⟨u2, rfl, hE2, hb2⟩
  obtain rfl := ErrV.zero hE2
  have hX2 := HX1.out.below hb2
  have hM2 := HM1.out.of_block ((hX2.at_ (x := (mb, o)) (by simp)).trans (HX1.out.at_ (x := (mb, o)) (by simp)).symm)
  obtain ⟨q0, q1, q2⟩ := cells9 (hX2.at_ (x := (x0, .cells #[.int .i64 (l : Int), .int .i64 (b : Int), .int .i64 (X : Int)] 30 (0, 0))) (by simp))
  have hX3 := hX2.add (.cells pv.toArray 82 (0, 0))
  have hM3 := hM2.of_block ((hX3.at_ (x := (mb, o)) (by simp)).trans (hX2.at_ (x := (mb, o)) (by simp)).symm)
  have hmy : mb < w2.heap.size := hX2.arr.lt (x := (mb, o)) (by simp)
  have HX3 := Lib.hid hX3; have HM3 := Lib.hid hM3
  clear hE2 hb2 hX2 hM2 hX3 hM3 Hg HX1 HM1 q2
  go_upto_region 6 with (first
    | (refine wpList_buildPv _ _ rfl (l : Int) (b : Int) rfl rfl pv Hpv (by rfl) ?_)
    | (refine wpList_alloc_arr rfl 82 rfl _ allocPr ?_)
    | (refine wpList_store_new rfl 82 _ _ rfl w2.heap.size rfl pv.toArray rfl rfl 82 _ hpi.out hpz.out hp1.out ?_))
  have hX3 := HX3.out; have hM3 := HM3.out
  clear HX3 HM3 hpi hpz hp1 q0 q1
  generalize w2.alloc (.cells pv.toArray 82 (0, 0)) = w3 at hX3 hM3 ⊢
  obtain ⟨y, hy⟩ : ∃ y, w2.heap.size = y := ⟨_, rfl⟩
  rw [hy] at hX3 hmy ⊢
  obtain ⟨q0, q1, q2⟩ := cells9 (hX3.at_ (x := (x0, .cells #[.int .i64 (l : Int), .int .i64 (b : Int), .int .i64 (X : Int)] 30 (0, 0))) (by simp))
  have hld := loadPr hpl (hX3.at_ (x := (y, .cells pv.toArray 82 (0, 0))) (by simp))
  have hlk := hM3.look hl hb
  rw [hpV.out, HKe.out] at hlk
  have Hmr := Lib.hid (hX3.at_ (x := (mb, o)) (by simp))
  have hX3 := hX3.sub (T' := ((mb, o) :: [(y, .cells pv.toArray 82 (0, 0)), (x0, .cells #[.int .i64 (l : Int), .int .i64 (b : Int), .int .i64 (X : Int)] 30 (0, 0)), (x, foO g 2 N)])) (by intro z hz; simp at hz ⊢; rcases hz with h | h | h | h <;> simp [h])
  have Hne : Hid (∀ z ∈ [(y, .cells pv.toArray 82 (0, 0)), (x0, .cells #[.int .i64 (l : Int), .int .i64 (b : Int), .int .i64 (X : Int)] 30 (0, 0)), (x, foO g 2 N)], z.1 ≠ mb) := by
    have : ∀ z ∈ [(y, .cells pv.toArray 82 (0, 0)), (x0, .cells #[.int .i64 (l : Int), .int .i64 (b : Int), .int .i64 (X : Int)] 30 (0, 0)), (x, foO g 2 N)], z.1 ≠ mb := fun z hz => by
      simp only [List.mem_cons, List.not_mem_nil, or_false] at hz
      rcases hz with rfl | rfl | rfl
      · show y ≠ mb; omega
      · show x0 ≠ mb; omega
      · exact hmx
    exact this
  have Hm3 := Lib.hid (hX3.at_ (x := (mb, o)) (by simp))
  have HM3 := Lib.hid hM3
  have hs := rSet_any hX3 (x := x) (by simp) HF.out (by omega) (by omega) (by rw [HT.out]; simp) l b X hl hb (by omega)
  rw [HKe.out] at hs
  try rw [show ((0 : Nat) : Int) = 0 from rfl] at hs
  have Hs := Lib.hid hs
  clear hX3 hM3 hs
  go_wp2_with (first
    | (refine wpList_load_pr _ rfl y 0 rfl _ hld (by rfl) ?_)
    | (refine wpList_look_num false _ _ rfl _ _ _ rfl rfl hlk (by rfl) ?_)
    | (go_at_call 19; refine Hs.out.mono ?_))
  clear hld hlk q0 q1 q2
  rintro e w4 ⟨u, rfl, hor⟩
  rw [HKe.out] at hcap
  obtain ⟨hE, t, hX4, hF4, hl4⟩ := hor.resolve_right (fun h => by have := h.2.1; omega)
  obtain rfl := ErrV.zero hE
  rw [HT.out] at hl4
  obtain ⟨_, _, q2⟩ := cells9 (hX4.at_ (x := (x0, .cells #[.int .i64 (l : Int), .int .i64 (b : Int), .int .i64 (X : Int)] 30 (0, 0))) (by simp))
  have hld := loadPr hpl (hX4.at_ (x := (y, .cells pv.toArray 82 (0, 0))) (by simp))
  have hM4 := HM3.out.of_block ((hX4.at_ (x := (mb, o)) (by simp)).trans Hm3.out.symm)
  have hlk := hM4.look_ok hl hb
  rw [hpV.out, HKe.out] at hlk
  have HX4 := Lib.hid hX4; have HF4 := Lib.hid hF4; have Hl4 := Lib.hid hl4; have HM4 := Lib.hid hM4
  obtain ⟨TK, hTK⟩ : ∃ TK, takenO (setV v K X) 4 = TK := ⟨_, rfl⟩
  rw [hTK] at hcap
  have HTK := Lib.hid hTK
  have hx0i : ¬ ((X : Int) = 0) := by omega
  clear hor hE hX4 hF4 hl4 hM4 Hs hTK
  go_wp2_with (first
    | (refine wpList_load_pr _ rfl y 0 rfl _ hld (by rfl) ?_)
    | (refine wpList_look_num true _ _ rfl _ _ _ rfl rfl hlk (by rfl) ?_)
    | (refine wpList_put_num rfl _ _ _ rfl HM4.out (by omega) l b X hl hb hx0' hx24 _ hpV rfl rfl rfl ?_
       intro w5 HM5 HG5
       obtain ⟨o2, ho2⟩ := HM5.out.cell.1
       have hX5 := HX4.out.setHead (o' := o2) Hne.out HG5.out ho2
       obtain ⟨_, _, q5⟩ := cells9 (hX5.at_ (x := (x0, .cells #[.int .i64 (l : Int), .int .i64 (b : Int), .int .i64 (X : Int)] 30 (0, 0))) (by simp))
       have hM5 := HM5.out
       rw [HKe.out] at hM5
       have hnd := need_any hM5
       rw [HTK.out] at hnd
       have Hnd := Lib.hid hnd
       have HX5 := Lib.hid hX5; have HM5' := Lib.hid hM5
       clear hX5 hM5 hnd ho2)
    | (go_at_call 17; refine Hnd.out.mono ?_))
  rintro e w6 ⟨rfl, hb6⟩
  have hX6 := HX5.out.below hb6
  have hM6 := HM5'.out.of_block ((hX6.at_ (x := (mb, o2)) (by simp)).trans (HX5.out.at_ (x := (mb, o2)) (by simp)).symm)
  obtain ⟨b2, hF2, hC2, hT2, hcm⟩ := hX6.commFo HF4.out (HC.out.txn t) (by omega) (by have := Hl4.out; show t.length ≤ 4; simp at this; omega)
  have Hcm := Lib.hid hcm; have HF2 := Lib.hid hF2; have HC2 := Lib.hid hC2; have HT2 := Lib.hid hT2; have HM6 := Lib.hid hM6
  have Hm6 := Lib.hid (hX6.at_ (x := (mb, o2)) (by simp))
  have hng : ¬ ((N : Int) < (TK : Int)) := by omega
  clear hb6 hX6 hM6 hcm hF2 hC2 hT2 Hnd HX5 HM5' q5 hx0i hld hlk q2
  go_wp2_with (first
    | (go_at_call 20; refine Hcm.out.mono ?_))
  rintro e w7 ⟨u7, rfl, hE7, hX7⟩
  obtain rfl := ErrV.zero hE7
  have hM7 := HM6.out.of_block ((hX7.at_ (x := (mb, o2)) (by simp)).trans Hm6.out.symm)
  have Hfin := Lib.hid (show RunP gd g mb x N (setV v K X) cc d w0 (.returned (.bool true)) w7 from ⟨rfl, b2, o2, hX7.sub (by intro z hz; simp at hz ⊢; rcases hz with h | h <;> simp [h]), hM7.mono (by omega), HF2.out, HC2.out, HT2.out⟩)
  clear hE7 hX7 hM7 Hcm HM6 Hm6 hng
  go_wp2
  go_ret
  rw [HKe.out]
  exact Hfin.out
set_option maxRecDepth 100000 in
set_option maxHeartbeats 16000000 in
theorem run_zero (hX : OwnX bk gd g [(mb, o), (x, foO g 2 N)] w0 w) (hM : NumAt mb v cc w) (hF : Fo bk 2 N v) (hC : Co bk 300 d) (hT : bk.txn = []) (hN : N ≤ 100) (hcc : cc ≤ 9000) (hd : d ≤ 1300) (hL : Laid w0) (hmx : x ≠ mb) (l b : Nat) (hl : l < 4) (hb : b < 256)  :
    Calls Tryz.prog 15 #[.pointer (some ⟨g, 0, none⟩), .pointer (some ⟨x, 0, none⟩), .map (some mb), .int .i64 N, callV l b 0] w (RunP gd g mb x N (setV v (l * 256 + b) 0) cc d w0) := by
  have hpos := hL.pos
  unfold callV
  have hX1 := hX.add (.cells #[.int .i64 (l : Int), .int .i64 (b : Int), .int .i64 0] 30 (0, 0))
  have hM1 := hM.of_block ((hX1.at_ (x := (mb, o)) (by simp)).trans (hX.at_ (x := (mb, o)) (by simp)).symm)
  have hmw : mb < w.heap.size := hX.arr.lt (x := (mb, o)) (by simp)
  have HX1 := Lib.hid hX1; have HM1 := Lib.hid hM1; have HF := Lib.hid hF; have HC := Lib.hid hC; have HT := Lib.hid hT; have HL := Lib.hid hL
  obtain ⟨pv, Hpv⟩ : ∃ pv : List Value, Hid (pv = [.int .i64 (l : Int), .int .i64 (b : Int)]) := ⟨_, rfl⟩
  have hpl : pv.length = 2 := by rw [Hpv.out]; rfl
  have hpV : Hid (pairV l b = .agg pv.toArray) := by
    have : pairV l b = .agg pv.toArray := by rw [Hpv.out]; rfl
    exact this
  have hpi : Hid ((Tryz.prog.info? 82).map (·.size) = some pv.toArray.size) := by rw [Hpv.out]; exact infoPr
  have hpz : Hid ((#[.int .i64 0, .int .i64 0] : Array Value).size = pv.toArray.size) := by show (#[.int .i64 0, .int .i64 0] : Array Value).size = pv.toArray.size; rw [Hpv.out]; rfl
  have hp1 : Hid (pv.toArray.all (·.oneCell') = true) := by rw [Hpv.out]; exact all_oneCell_toArray (fun u hu => by simp only [List.mem_cons, List.not_mem_nil, or_false] at hu; rcases hu with rfl | rfl <;> rfl)
  have k1 : (0 : Int) ≤ (l : Int) := by omega
  have k2 : (l : Int) < 4 := by omega
  have k3 : (0 : Int) ≤ (b : Int) := by omega
  have k4 : (b : Int) < 256 := by omega
  obtain ⟨K, hKe⟩ : ∃ K, l * 256 + b = K := ⟨_, rfl⟩
  have HKe := Lib.hid hKe
  have hK : K < 1024 := by omega
  clear hX hM hF hC hT hL hX1 hM1 hKe
  go_enter Tryz.func15, Tryz.ntmps15
  go_upto_region 1 with (fail)
  have hX1 := HX1.out; have hM1 := HM1.out
  clear HX1 HM1
  generalize w.alloc (.cells #[.int .i64 (l : Int), .int .i64 (b : Int), .int .i64 0] 30 (0, 0)) = w1 at hX1 hM1 ⊢
  obtain ⟨x0, hx0⟩ : ∃ x0, w.heap.size = x0 := ⟨_, rfl⟩
  rw [hx0] at hX1 hmw ⊢
  have hg := rGet_any hX1 (x := x) (by simp) HF.out (by omega) (by omega) l b hl hb
  rw [HKe.out] at hg
  have Hg := Lib.hid hg
  obtain ⟨q0, q1, q2⟩ := cells9 (hX1.at_ (x := (x0, .cells #[.int .i64 (l : Int), .int .i64 (b : Int), .int .i64 0] 30 (0, 0))) (by simp))
  have HX1 := Lib.hid hX1; have HM1 := Lib.hid hM1
  have HK2 := Lib.hid k2; have HK4 := Lib.hid k4
  clear hx0 hg hX1 hM1 q2
  go_wp2_with (first
    | (go_at_call 21; refine Hg.out.mono ?_))
  rintro e w2 ⟨u2, rfl, hE2, hb2⟩
  obtain rfl := ErrV.zero hE2
  have hX2 := HX1.out.below hb2
  have hM2 := HM1.out.of_block ((hX2.at_ (x := (mb, o)) (by simp)).trans (HX1.out.at_ (x := (mb, o)) (by simp)).symm)
  obtain ⟨q0, q1, q2⟩ := cells9 (hX2.at_ (x := (x0, .cells #[.int .i64 (l : Int), .int .i64 (b : Int), .int .i64 0] 30 (0, 0))) (by simp))
  have hX3 := hX2.add (.cells pv.toArray 82 (0, 0))
  have hM3 := hM2.of_block ((hX3.at_ (x := (mb, o)) (by simp)).trans (hX2.at_ (x := (mb, o)) (by simp)).symm)
  have hmy : mb < w2.heap.size := hX2.arr.lt (x := (mb, o)) (by simp)
  have HX3 := Lib.hid hX3; have HM3 := Lib.hid hM3
  clear hE2 hb2 hX2 hM2 hX3 hM3 Hg HX1 HM1 q2
  go_upto_region 6 with (first
    | (refine wpList_buildPv _ _ rfl (l : Int) (b : Int) rfl rfl pv Hpv (by rfl) ?_)
    | (refine wpList_alloc_arr rfl 82 rfl _ allocPr ?_)
    | (refine wpList_store_new rfl 82 _ _ rfl w2.heap.size rfl pv.toArray rfl rfl 82 _ hpi.out hpz.out hp1.out ?_))
  have hX3 := HX3.out; have hM3 := HM3.out
  clear HX3 HM3 hpi hpz hp1 q0 q1
  generalize w2.alloc (.cells pv.toArray 82 (0, 0)) = w3 at hX3 hM3 ⊢
  obtain ⟨y, hy⟩ : ∃ y, w2.heap.size = y := ⟨_, rfl⟩
  rw [hy] at hX3 hmy ⊢
  obtain ⟨q0, q1, q2⟩ := cells9 (hX3.at_ (x := (x0, .cells #[.int .i64 (l : Int), .int .i64 (b : Int), .int .i64 0] 30 (0, 0))) (by simp))
  have hld := loadPr hpl (hX3.at_ (x := (y, .cells pv.toArray 82 (0, 0))) (by simp))
  have hlk := hM3.look hl hb
  rw [hpV.out, HKe.out] at hlk
  have Hmr := Lib.hid (hX3.at_ (x := (mb, o)) (by simp))
  have hX3 := hX3.sub (T' := ((mb, o) :: [(y, .cells pv.toArray 82 (0, 0)), (x0, .cells #[.int .i64 (l : Int), .int .i64 (b : Int), .int .i64 0] 30 (0, 0)), (x, foO g 2 N)])) (by intro z hz; simp at hz ⊢; rcases hz with h | h | h | h <;> simp [h])
  have Hne : Hid (∀ z ∈ [(y, .cells pv.toArray 82 (0, 0)), (x0, .cells #[.int .i64 (l : Int), .int .i64 (b : Int), .int .i64 0] 30 (0, 0)), (x, foO g 2 N)], z.1 ≠ mb) := by
    have : ∀ z ∈ [(y, .cells pv.toArray 82 (0, 0)), (x0, .cells #[.int .i64 (l : Int), .int .i64 (b : Int), .int .i64 0] 30 (0, 0)), (x, foO g 2 N)], z.1 ≠ mb := fun z hz => by
      simp only [List.mem_cons, List.not_mem_nil, or_false] at hz
      rcases hz with rfl | rfl | rfl
      · show y ≠ mb; omega
      · show x0 ≠ mb; omega
      · exact hmx
    exact this
  have Hm3 := Lib.hid (hX3.at_ (x := (mb, o)) (by simp))
  have HM3 := Lib.hid hM3
  have hs := rSet_any hX3 (x := x) (by simp) HF.out (by omega) (by omega) (by rw [HT.out]; simp) l b 0 hl hb (by omega)
  rw [HKe.out] at hs
  try rw [show ((0 : Nat) : Int) = 0 from rfl] at hs
  have Hs := Lib.hid hs
  clear hX3 hM3 hs
  go_wp2_with (first
    | (refine wpList_load_pr _ rfl y 0 rfl _ hld (by rfl) ?_)
    | (refine wpList_look_num false _ _ rfl _ _ _ rfl rfl hlk (by rfl) ?_)
    | (go_at_call 19; refine Hs.out.mono ?_))
  clear hld hlk q0 q1 q2
  rintro e w4 ⟨u, rfl, hor⟩
  obtain ⟨hE, t, hX4, hF4, hl4⟩ := hor.resolve_right (fun h => (refused_none hK HF.out.rep.cap h.2.1).2 rfl)
  obtain rfl := ErrV.zero hE
  rw [HT.out] at hl4
  have hcap := hF4.rep.cap
  obtain ⟨_, _, q2⟩ := cells9 (hX4.at_ (x := (x0, .cells #[.int .i64 (l : Int), .int .i64 (b : Int), .int .i64 0] 30 (0, 0))) (by simp))
  have hld := loadPr hpl (hX4.at_ (x := (y, .cells pv.toArray 82 (0, 0))) (by simp))
  have hM4 := HM3.out.of_block ((hX4.at_ (x := (mb, o)) (by simp)).trans Hm3.out.symm)
  have hlk := hM4.look_ok hl hb
  rw [hpV.out, HKe.out] at hlk
  have HX4 := Lib.hid hX4; have HF4 := Lib.hid hF4; have Hl4 := Lib.hid hl4; have HM4 := Lib.hid hM4
  obtain ⟨TK, hTK⟩ : ∃ TK, takenO (setV v K 0) 4 = TK := ⟨_, rfl⟩
  rw [hTK] at hcap
  have HTK := Lib.hid hTK
  clear hor hE hX4 hF4 hl4 hM4 Hs hTK
  go_wp2_with (first
    | (refine wpList_load_pr _ rfl y 0 rfl _ hld (by rfl) ?_)
    | (refine wpList_look_num true _ _ rfl _ _ _ rfl rfl hlk (by rfl) ?_)
    | (refine wpList_put_none rfl _ _ _ rfl HM4.out (by omega) l b hl hb _ hpV rfl rfl rfl ?_
       intro w5 HM5 HG5
       obtain ⟨o2, ho2⟩ := HM5.out.cell.1
       have hX5 := HX4.out.setHead (o' := o2) Hne.out HG5.out ho2
       obtain ⟨_, _, q5⟩ := cells9 (hX5.at_ (x := (x0, .cells #[.int .i64 (l : Int), .int .i64 (b : Int), .int .i64 0] 30 (0, 0))) (by simp))
       have hld5 := loadPr hpl (hX5.at_ (x := (y, .cells pv.toArray 82 (0, 0))) (by simp))
       have HX5 := Lib.hid hX5
       clear hX5 ho2)
    | (refine wpList_load_pr _ rfl y 0 rfl _ hld5 (by rfl) ?_)
    | (refine wpList_drop_num rfl _ _ rfl l b HM5.out hl hb _ hpV rfl rfl ?_
       intro w6 HM6 HG6
       obtain ⟨o3, ho3⟩ := HM6.out.cell.1
       have hX6 := HX5.out.setHead (o' := o3) Hne.out HG6.out ho3
       have hM6 := HM6.out
       rw [HKe.out] at hM6
       have hnd := need_any hM6
       rw [HTK.out] at hnd
       have Hnd := Lib.hid hnd
       have HX6 := Lib.hid hX6; have HM6' := Lib.hid hM6
       clear hX6 hM6 hnd ho3)
    | (go_at_call 17; refine Hnd.out.mono ?_))
  rintro e w7 ⟨rfl, hb7⟩
  have hX7 := HX6.out.below hb7
  have hM7 := HM6'.out.of_block ((hX7.at_ (x := (mb, o3)) (by simp)).trans (HX6.out.at_ (x := (mb, o3)) (by simp)).symm)
  obtain ⟨b2, hF2, hC2, hT2, hcm⟩ := hX7.commFo HF4.out (HC.out.txn t) (by omega) (by have := Hl4.out; show t.length ≤ 4; simp at this; omega)
  have Hcm := Lib.hid hcm; have HF2 := Lib.hid hF2; have HC2 := Lib.hid hC2; have HT2 := Lib.hid hT2; have HM7 := Lib.hid hM7
  have Hm7 := Lib.hid (hX7.at_ (x := (mb, o3)) (by simp))
  have hng : ¬ ((N : Int) < (TK : Int)) := by omega
  clear hb7 hX7 hM7 hcm hF2 hC2 hT2 Hnd HX6 HM6' hld hlk q2 q5 hld5
  go_wp2_with (first
    | (go_at_call 20; refine Hcm.out.mono ?_))
  rintro e w8 ⟨u8, rfl, hE8, hX8⟩
  obtain rfl := ErrV.zero hE8
  have hM8 := HM7.out.of_block ((hX8.at_ (x := (mb, o3)) (by simp)).trans Hm7.out.symm)
  have Hfin := Lib.hid (show RunP gd g mb x N (setV v K 0) cc d w0 (.returned (.bool true)) w8 from ⟨rfl, b2, o3, hX8.sub (by intro z hz; simp at hz ⊢; rcases hz with h | h <;> simp [h]), hM8.mono (by omega), HF2.out, HC2.out, HT2.out⟩)
  clear hE8 hX8 hM8 Hcm HM7 Hm7 hng
  go_wp2
  go_ret
  rw [HKe.out]
  exact Hfin.out
set_option maxRecDepth 100000 in
set_option maxHeartbeats 16000000 in
theorem run_full (hX : OwnX bk gd g [(mb, o), (x, foO g 2 N)] w0 w) (hM : NumAt mb v cc w) (hF : Fo bk 2 N v) (hC : Co bk 300 d) (hT : bk.txn = []) (hN : N ≤ 100) (hcc : cc ≤ 9000) (hd : d ≤ 1300) (hL : Laid w0) (hmx : x ≠ mb) (l b : Nat) (hl : l < 4) (hb : b < 256) (X : Nat) (hx0' : X ≠ 0) (hx24 : X < 16777216) (hcap : N < takenO (setV v (l * 256 + b) X) 4) :
    Calls Tryz.prog 15 #[.pointer (some ⟨g, 0, none⟩), .pointer (some ⟨x, 0, none⟩), .map (some mb), .int .i64 N, callV l b (X : Int)] w (RunP gd g mb x N v cc d w0) := by
  have hpos := hL.pos
  unfold callV
  have hX1 := hX.add (.cells #[.int .i64 (l : Int), .int .i64 (b : Int), .int .i64 (X : Int)] 30 (0, 0))
  have hM1 := hM.of_block ((hX1.at_ (x := (mb, o)) (by simp)).trans (hX.at_ (x := (mb, o)) (by simp)).symm)
  have hmw : mb < w.heap.size := hX.arr.lt (x := (mb, o)) (by simp)
  have HX1 := Lib.hid hX1; have HM1 := Lib.hid hM1; have HF := Lib.hid hF; have HC := Lib.hid hC; have HT := Lib.hid hT; have HL := Lib.hid hL
  obtain ⟨pv, Hpv⟩ : ∃ pv : List Value, Hid (pv = [.int .i64 (l : Int), .int .i64 (b : Int)]) := ⟨_, rfl⟩
  have hpl : pv.length = 2 := by rw [Hpv.out]; rfl
  have hpV : Hid (pairV l b = .agg pv.toArray) := by
    have : pairV l b = .agg pv.toArray := by rw [Hpv.out]; rfl
    exact this
  have hpi : Hid ((Tryz.prog.info? 82).map (·.size) = some pv.toArray.size) := by rw [Hpv.out]; exact infoPr
  have hpz : Hid ((#[.int .i64 0, .int .i64 0] : Array Value).size = pv.toArray.size) := by show (#[.int .i64 0, .int .i64 0] : Array Value).size = pv.toArray.size; rw [Hpv.out]; rfl
  have hp1 : Hid (pv.toArray.all (·.oneCell') = true) := by rw [Hpv.out]; exact all_oneCell_toArray (fun u hu => by simp only [List.mem_cons, List.not_mem_nil, or_false] at hu; rcases hu with rfl | rfl <;> rfl)
  have k1 : (0 : Int) ≤ (l : Int) := by omega
  have k2 : (l : Int) < 4 := by omega
  have k3 : (0 : Int) ≤ (b : Int) := by omega
  have k4 : (b : Int) < 256 := by omega
  obtain ⟨K, hKe⟩ : ∃ K, l * 256 + b = K := ⟨_, rfl⟩
  have HKe := Lib.hid hKe
  have hK : K < 1024 := by omega
  clear hX hM hF hC hT hL hX1 hM1 hKe
  go_enter Tryz.func15, Tryz.ntmps15
  go_upto_region 1 with (fail)
  have hX1 := HX1.out; have hM1 := HM1.out
  clear HX1 HM1
  generalize w.alloc (.cells #[.int .i64 (l : Int), .int .i64 (b : Int), .int .i64 (X : Int)] 30 (0, 0)) = w1 at hX1 hM1 ⊢
  obtain ⟨x0, hx0⟩ : ∃ x0, w.heap.size = x0 := ⟨_, rfl⟩
  rw [hx0] at hX1 hmw ⊢
  have hg := rGet_any hX1 (x := x) (by simp) HF.out (by omega) (by omega) l b hl hb
  rw [HKe.out] at hg
  have Hg := Lib.hid hg
  obtain ⟨q0, q1, q2⟩ := cells9 (hX1.at_ (x := (x0, .cells #[.int .i64 (l : Int), .int .i64 (b : Int), .int .i64 (X : Int)] 30 (0, 0))) (by simp))
  have HX1 := Lib.hid hX1; have HM1 := Lib.hid hM1
  have HK2 := Lib.hid k2; have HK4 := Lib.hid k4
  clear hx0 hg hX1 hM1 q2
  go_wp2_with (first
    | (go_at_call 21; refine Hg.out.mono ?_))
  rintro e w2 ⟨u2, rfl, hE2, hb2⟩
  obtain rfl := ErrV.zero hE2
  have hX2 := HX1.out.below hb2
  have hM2 := HM1.out.of_block ((hX2.at_ (x := (mb, o)) (by simp)).trans (HX1.out.at_ (x := (mb, o)) (by simp)).symm)
  obtain ⟨q0, q1, q2⟩ := cells9 (hX2.at_ (x := (x0, .cells #[.int .i64 (l : Int), .int .i64 (b : Int), .int .i64 (X : Int)] 30 (0, 0))) (by simp))
  have hX3 := hX2.add (.cells pv.toArray 82 (0, 0))
  have hM3 := hM2.of_block ((hX3.at_ (x := (mb, o)) (by simp)).trans (hX2.at_ (x := (mb, o)) (by simp)).symm)
  have hmy : mb < w2.heap.size := hX2.arr.lt (x := (mb, o)) (by simp)
  have HX3 := Lib.hid hX3; have HM3 := Lib.hid hM3
  clear hE2 hb2 hX2 hM2 hX3 hM3 Hg HX1 HM1 q2
  go_upto_region 6 with (first
    | (refine wpList_buildPv _ _ rfl (l : Int) (b : Int) rfl rfl pv Hpv (by rfl) ?_)
    | (refine wpList_alloc_arr rfl 82 rfl _ allocPr ?_)
    | (refine wpList_store_new rfl 82 _ _ rfl w2.heap.size rfl pv.toArray rfl rfl 82 _ hpi.out hpz.out hp1.out ?_))
  have hX3 := HX3.out; have hM3 := HM3.out
  clear HX3 HM3 hpi hpz hp1 q0 q1
  generalize w2.alloc (.cells pv.toArray 82 (0, 0)) = w3 at hX3 hM3 ⊢
  obtain ⟨y, hy⟩ : ∃ y, w2.heap.size = y := ⟨_, rfl⟩
  rw [hy] at hX3 hmy ⊢
  obtain ⟨q0, q1, q2⟩ := cells9 (hX3.at_ (x := (x0, .cells #[.int .i64 (l : Int), .int .i64 (b : Int), .int .i64 (X : Int)] 30 (0, 0))) (by simp))
  have hld := loadPr hpl (hX3.at_ (x := (y, .cells pv.toArray 82 (0, 0))) (by simp))
  have hlk := hM3.look hl hb
  rw [hpV.out, HKe.out] at hlk
  have Hmr := Lib.hid (hX3.at_ (x := (mb, o)) (by simp))
  have hX3 := hX3.sub (T' := ((mb, o) :: [(y, .cells pv.toArray 82 (0, 0)), (x0, .cells #[.int .i64 (l : Int), .int .i64 (b : Int), .int .i64 (X : Int)] 30 (0, 0)), (x, foO g 2 N)])) (by intro z hz; simp at hz ⊢; rcases hz with h | h | h | h <;> simp [h])
  have Hne : Hid (∀ z ∈ [(y, .cells pv.toArray 82 (0, 0)), (x0, .cells #[.int .i64 (l : Int), .int .i64 (b : Int), .int .i64 (X : Int)] 30 (0, 0)), (x, foO g 2 N)], z.1 ≠ mb) := by
    have : ∀ z ∈ [(y, .cells pv.toArray 82 (0, 0)), (x0, .cells #[.int .i64 (l : Int), .int .i64 (b : Int), .int .i64 (X : Int)] 30 (0, 0)), (x, foO g 2 N)], z.1 ≠ mb := fun z hz => by
      simp only [List.mem_cons, List.not_mem_nil, or_false] at hz
      rcases hz with rfl | rfl | rfl
      · show y ≠ mb; omega
      · show x0 ≠ mb; omega
      · exact hmx
    exact this
  have Hm3 := Lib.hid (hX3.at_ (x := (mb, o)) (by simp))
  have HM3 := Lib.hid hM3
  have hs := rSet_any hX3 (x := x) (by simp) HF.out (by omega) (by omega) (by rw [HT.out]; simp) l b X hl hb (by omega)
  rw [HKe.out] at hs
  try rw [show ((0 : Nat) : Int) = 0 from rfl] at hs
  have Hs := Lib.hid hs
  clear hX3 hM3 hs
  go_wp2_with (first
    | (refine wpList_load_pr _ rfl y 0 rfl _ hld (by rfl) ?_)
    | (refine wpList_look_num false _ _ rfl _ _ _ rfl rfl hlk (by rfl) ?_)
    | (go_at_call 19; refine Hs.out.mono ?_))
  clear hld hlk q0 q1 q2
  rintro e w4 ⟨u, rfl, hor⟩
  rw [HKe.out] at hcap
  obtain ⟨hE, hov, hX4⟩ := hor.resolve_left (fun h => by obtain ⟨_, t, _, hF4, _⟩ := h; have := hF4.rep.cap; omega)
  obtain ⟨hv0, _⟩ := refused_none hK HF.out.rep.cap hov
  obtain ⟨_, _, q2⟩ := cells9 (hX4.at_ (x := (x0, .cells #[.int .i64 (l : Int), .int .i64 (b : Int), .int .i64 (X : Int)] 30 (0, 0))) (by simp))
  have hld := loadPr hpl (hX4.at_ (x := (y, .cells pv.toArray 82 (0, 0))) (by simp))
  have hM4 := HM3.out.of_block ((hX4.at_ (x := (mb, o)) (by simp)).trans Hm3.out.symm)
  have hlk := hM4.look_ok hl hb
  rw [hpV.out, HKe.out] at hlk
  rw [hv0, show ((0 : Nat) != 0) = false from rfl] at hlk
  have HE := Lib.hid hE
  have HX4 := Lib.hid hX4; have HM4 := Lib.hid hM4
  obtain ⟨TK, hTK⟩ : ∃ TK, takenO (setV v K X) 4 = TK := ⟨_, rfl⟩
  rw [hTK] at hcap
  have HTK := Lib.hid hTK
  have hx0i : ¬ ((X : Int) = 0) := by omega
  clear hor hX4 hM4 Hs hE hov hTK
  go_wp2_with (first
    | (refine wpList_load_pr _ rfl y 0 rfl _ hld (by rfl) ?_)
    | (refine wpList_look_num true _ _ rfl _ _ _ rfl rfl hlk (by rfl) ?_)
    | (refine wpList_put_num rfl _ _ _ rfl HM4.out (by omega) l b X hl hb hx0' hx24 _ hpV rfl rfl rfl ?_
       intro w5 HM5 HG5
       obtain ⟨o2, ho2⟩ := HM5.out.cell.1
       have hX5 := HX4.out.setHead (o' := o2) Hne.out HG5.out ho2
       obtain ⟨_, _, q5⟩ := cells9 (hX5.at_ (x := (x0, .cells #[.int .i64 (l : Int), .int .i64 (b : Int), .int .i64 (X : Int)] 30 (0, 0))) (by simp))
       have hM5 := HM5.out
       rw [HKe.out] at hM5
       have hnd := need_any hM5
       rw [HTK.out] at hnd
       have Hnd := Lib.hid hnd
       have HE5 := Lib.hid (HE.out.other HM4.out.cell.2 HG5.out)
       have HX5 := Lib.hid hX5; have HM5' := Lib.hid hM5
       clear hX5 hM5 hnd ho2)
    | (go_at_call 17; refine Hnd.out.mono ?_))
  rintro e w6 ⟨rfl, hb6⟩
  have hX6 := HX5.out.below hb6
  have hM6 := HM5'.out.of_block ((hX6.at_ (x := (mb, o2)) (by simp)).trans (HX5.out.at_ (x := (mb, o2)) (by simp)).symm)
  have hE6 := HE5.out.below hb6
  have hun := hX6.undoE
  rw [txn_same HT.out] at hun
  have Hun := Lib.hid hun; have HM6 := Lib.hid hM6; have HE6 := Lib.hid hE6
  have Hm6 := Lib.hid (hX6.at_ (x := (mb, o2)) (by simp))
  have hng : (N : Int) < (TK : Int) := by omega
  clear hb6 hX6 hM6 hE6 hun Hnd HX5 HM5' q2 q5 hx0i HE5 hld hlk
  go_wp2_with (first
    | (go_at_call 26; refine Hun.out.mono ?_))
  rintro e w7 ⟨rfl, hX7, hk7⟩
  have hM7 := HM6.out.of_block ((hX7.at_ (x := (mb, o2)) (by simp)).trans Hm6.out.symm)
  have hE7 := hk7 _ _ HE6.out
  have hld := loadPr hpl (hX7.at_ (x := (y, .cells pv.toArray 82 (0, 0))) (by simp))
  have HX7 := Lib.hid hX7; have HM7 := Lib.hid hM7; have HE7 := Lib.hid hE7
  clear hX7 hM7 hE7 hk7 Hun HM6 Hm6 HE6 hng
  go_wp2_with (first
    | (refine wpList_load_pr _ rfl y 0 rfl _ hld (by rfl) ?_)
    | (refine wpList_put_none rfl _ _ _ rfl HM7.out (by omega) l b hl hb _ hpV rfl rfl rfl ?_
       intro w8 HM8 HG8
       obtain ⟨o3, ho3⟩ := HM8.out.cell.1
       have hX8 := HX7.out.setHead (o' := o3) Hne.out HG8.out ho3
       have HE8 := Lib.hid (HE7.out.other HM7.out.cell.2 HG8.out)
       have hld8 := loadPr hpl (hX8.at_ (x := (y, .cells pv.toArray 82 (0, 0))) (by simp))
       have HX8 := Lib.hid hX8
       clear hX8 ho3)
    | (refine wpList_load_pr _ rfl y 0 rfl _ hld8 (by rfl) ?_)
    | (refine wpList_drop_num rfl _ _ rfl l b HM8.out hl hb _ hpV rfl rfl ?_
       intro w9 HM9 HG9
       obtain ⟨o4, ho4⟩ := HM9.out.cell.1
       have hX9 := HX8.out.setHead (o' := o4) Hne.out HG9.out ho4
       have hE9 := HE8.out.other HM8.out.cell.2 HG9.out
       have hM9 := HM9.out
       rw [HKe.out, setV_back hv0] at hM9
       have Hn := Lib.hid (num9 22 u w9 (HL.out.below hpos hX9.bel) hE9)
       have HX9 := Lib.hid hX9; have HM9' := Lib.hid hM9
       clear hX9 hE9 hM9 ho4)
    | (go_at_call 28; refine Hn.out.mono ?_))
  rintro e wa ⟨rfl, hba⟩
  have hXa := HX9.out.below hba
  have hMa := HM9'.out.of_block ((hXa.at_ (x := (mb, o4)) (by simp)).trans (HX9.out.at_ (x := (mb, o4)) (by simp)).symm)
  have Hfin := Lib.hid (show RunP gd g mb x N v cc d w0 (.returned (.bool true)) wa from ⟨rfl, bk, o4, hXa.sub (by intro z hz; simp at hz ⊢; rcases hz with h | h <;> simp [h]), hMa.mono (by omega), HF.out, HC.out.next, HT.out⟩)
  clear hba hXa hMa HX9 HM9' Hn hld hld8
  go_wp2
  go_ret
  exact Hfin.out
end
end Go.Proofs.YtfagnbjjffjcbaaGreatDoor
