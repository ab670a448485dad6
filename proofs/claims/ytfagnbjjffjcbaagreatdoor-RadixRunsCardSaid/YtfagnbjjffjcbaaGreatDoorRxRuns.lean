/-
  'RadixRuns': its walk.
-/
import Derived.Test.YtfagnbjjffjcbaaGreatDoorJRa
import Derived.Test.YtfagnbjjffjcbaaGreatDoorRxOpen
set_option linter.unusedSimpArgs false
set_option linter.unusedVariables false
namespace Go.Proofs.YtfagnbjjffjcbaaGreatDoor
open Go.RowKit Sh Go.Maps Go.Extern.Stop Go.Stop Go.Extern

attribute [local irreducible] bk1 bk0
set_option maxRecDepth 100000 in
set_option maxHeartbeats 16000000 in
theorem radixRuns_ok (N : Nat) (h1 : 1 ≤ N) (h100 : N ≤ 100) (bp : Option Addr) (cs : List (Int × Int × Int)) (cap : Nat) (h300 : cs.length ≤ 300) (w : World) (hL : Laid w) (hC : TriplesAt w.heap.size w bp cs) :
    Calls Tryz.prog 3 #[.int .i64 N, .slice bp cs.length cap] w fun e w' => e = .returned (.bool true) ∧ Below w.heap.size w w' := by
  have hpos := hL.pos
  obtain ⟨L, hLe⟩ : ∃ L, cs.length = L := ⟨_, rfl⟩
  rw [hLe] at h300 ⊢
  have HLe := Lib.hid hLe
  obtain ⟨hf0, hc0, ht0⟩ := fo300 N (by omega)
  have Hf0 := Lib.hid hf0; have Hc0 := Lib.hid hc0; have Ht0 := Lib.hid ht0
  have Hfr := Lib.hid (fun (w1 : World) (hb1 : Below w.heap.size w w1) => fresh9_any N (by omega) (by omega) w w1 hb1)
  have HC := Lib.hid hC; have HL0 := Lib.hid hL
  have g1 : ¬ ((N : Int) < 1) := by omega
  have g2 : ¬ (100 < (N : Int)) := by omega
  have g3 : ¬ (300 < (L : Int)) := by omega
  have hmm := @run_makeMap Tryz.prog
  clear hf0 hc0 ht0 hLe hC hL
  go_enter Tryz.func3, Tryz.ntmps3
  go_wp2_with (first
    | (go_at_call 13; refine (stands9_any _).mono ?_; rintro e w1 ⟨rfl, hb1⟩)
    | (go_at_call 14; refine (Hfr.out w1 hb1).mono ?_))
  rintro e w2 ⟨gd, g, x, rfl, hX0⟩
  have hxl : x < w2.heap.size := hX0.arr.lt (x := (x, foO g 2 N)) (by simp)
  have hX1 := hX0.add (.map #[] 0)
  have hM1 := NumAt.made w2
  have HX1 := Lib.hid hX1; have HM1 := Lib.hid hM1
  have Hxm := Lib.hid (show x ≠ w2.heap.size by omega)
  clear hb1 hX0 Hfr hX1 hM1 hxl g1 g2 g3
  go_wp2
  have hX1 := HX1.out; have hM1 := HM1.out; have hxm := Hxm.out
  clear HX1 HM1 Hxm
  generalize w2.alloc (.map #[] 0) = w3 at hX1 hM1 ⊢
  obtain ⟨mb, hmb⟩ : ∃ mb, w2.heap.size = mb := ⟨_, rfl⟩
  rw [hmb] at hX1 hM1 hxm ⊢
  have HX1 := Lib.hid hX1; have HM1 := Lib.hid hM1; have Hxm := Lib.hid hxm
  clear hmb hX1 hM1 hxm hmm
  go_loopg [33] L (fun m q wr => ∃ (k : Nat) (b : Bk) (o : Obj) (v : Nat → Nat), m = L - k ∧ k ≤ L ∧ q = .int .i64 k ∧ OwnX b gd g [(mb, o), (x, foO g 2 N)] w wr ∧ NumAt mb v (2 * k) wr ∧ Fo b 2 N v ∧ Co b 300 k ∧ b.txn = [])
  case atStart => exact ⟨0, _, _, _, rfl, by omega, rfl, HX1.out, HM1.out, Hf0.out, Hc0.out, Ht0.out⟩
  case round =>
    clear HX1 HM1 Hf0 Hc0 Ht0
    obtain ⟨k, b, o, v, rfl, hkL, rfl, hX, hM, hF, hC, hT⟩ := hrel
    by_cases hlt : k < L
    case neg =>
      have hlt' : ¬ ((k : Int) < (L : Int)) := by omega
      have Hr := Lib.hid (right_any hX hM hF h100 Hxm.out)
      clear hX hM hF hC hT hlt
      go_wp2_with (first
        | (go_at_call 18; refine Hr.out.mono ?_))
      rintro e w4 ⟨rfl, hb4⟩
      have Hfin := Lib.hid (show Below w.heap.size w w4 from hb4)
      clear hb4 Hr
      go_wp2
      go_ret
      exact ⟨rfl, Hfin.out⟩
    have hlt' : (k : Int) < (L : Int) := by omega
    have hka : k < cs.length := by rw [HLe.out]; exact hlt
    obtain ⟨bq, oq, hbe, hbq, hcs⟩ := (HC.out.below hX.bel).resolve_left (by intro h0; rw [h0] at hka; simp at hka)
    subst hbe
    obtain ⟨⟨l, bl, xx⟩, hq⟩ : ∃ q, cs[k] = q := ⟨_, rfl⟩
    obtain ⟨e0, e1, e2⟩ := hcs k (l, bl, xx) (by rw [List.getElem?_eq_getElem hka, hq])
    obtain ⟨pv, Hpv⟩ : ∃ pv : List Value, Hid (pv = [.int .i64 l, .int .i64 bl, .int .i64 xx]) := ⟨_, rfl⟩
    have Hrg : Hid (wr.rangeAt bq (oq + k * 3) pv) := Lib.hid (range9 Hpv.out e0 e1 e2)
    have hpl : Hid (pv.length = 3) := by rw [Hpv.out]; rfl
    have hpi : Hid ((Tryz.prog.info? 30).map (·.size) = some pv.length) := by rw [hpl.out]; exact infoC9
    have hpi2 : Hid ((Tryz.prog.info? 30).map (·.size) = some pv.toArray.size) := by rw [List.size_toArray, hpl.out]; exact infoC9
    have hpz : Hid ((#[.int .i64 0, .int .i64 0, .int .i64 0] : Array Value).size = pv.toArray.size) := Lib.hid (by show 3 = pv.toArray.size; rw [List.size_toArray, hpl.out])
    have hp1 : Hid (pv.toArray.all (·.oneCell') = true) := by rw [Hpv.out]; exact all_oneCell_toArray (fun u hu => by simp only [List.mem_cons, List.not_mem_nil, or_false] at hu; rcases hu with rfl | rfl | rfl <;> rfl)
    have hX1 := hX.add (.cells pv.toArray 30 (0, 0))
    have hM1 := hM.of_block ((hX1.at_ (x := (mb, o)) (by simp)).trans (hX.at_ (x := (mb, o)) (by simp)).symm)
    have HX1 := Lib.hid hX1; have HM1 := Lib.hid hM1; have HF := Lib.hid hF; have HC' := Lib.hid hC; have HT := Lib.hid hT
    clear hX hM hF hC hT hX1 hM1 hcs hq e0 e1 e2 hlt hka
    go_upto_region 10 with (first
      | (refine wpList_load_mid rfl 30 _ rfl bq (oq + k * 3) rfl pv _ Hrg.out Tryz.underlying30 rfl hpi.out ?_; clear hpi)
      | (refine wpList_alloc_arr rfl 30 rfl _ allocC9 ?_)
      | (refine wpList_store_new rfl 30 _ _ rfl wr.heap.size rfl pv.toArray rfl rfl 30 _ hpi2.out hpz.out hp1.out ?_))
    have hX1 := HX1.out; have hM1 := HM1.out
    clear HX1 HM1 hpi2 hpz hp1 Hrg
    generalize wr.alloc (.cells pv.toArray 30) = w4 at hX1 hM1 ⊢
    obtain ⟨y, hy⟩ : ∃ y, wr.heap.size = y := ⟨_, rfl⟩
    rw [hy] at hX1 ⊢
    have hld := loadC9 hpl.out (hX1.at_ (x := (y, .cells pv.toArray 30 (0, 0))) (by simp))
    have hcv : Hid (callV l bl xx = .agg pv.toArray) := by
      have : callV l bl xx = .agg pv.toArray := by rw [Hpv.out]; rfl
      exact this
    have hr := run_any (hX1.sub (T' := [(mb, o), (x, foO g 2 N)]) (by intro z hz; simp at hz ⊢; rcases hz with h | h <;> simp [h])) hM1 HF.out HC'.out HT.out h100 (by omega) (by omega) HL0.out Hxm.out l bl xx
    rw [hcv.out] at hr
    obtain ⟨v2, hv2⟩ : ∃ v2, runQ N v (l, bl, xx) = v2 := ⟨_, rfl⟩
    rw [hv2] at hr
    have Hr := Lib.hid hr; have HV2 := Lib.hid hv2
    clear hy hX1 hM1 hr hv2 HF HC' HT Hpv hpl hcv
    go_wp2_with (first
      | (refine wpList_load_c9 _ rfl y 0 rfl _ hld (by rfl) ?_)
      | (go_at_call 15; refine Hr.out.mono ?_))
    rintro e w5 ⟨rfl, b2, o2, hX5, hM5, hF5, hC5, hT5⟩
    obtain ⟨TK, hTK⟩ : ∃ TK, takenO v2 4 = TK := ⟨_, rfl⟩
    have hn := rNodes_any hX5 (x := x) (by simp) hF5 (by omega) (by omega)
    rw [hTK] at hn
    have Hn := Lib.hid hn; have HX5 := Lib.hid hX5; have HM5 := Lib.hid hM5; have HF5 := Lib.hid hF5; have HC5 := Lib.hid hC5; have HT5 := Lib.hid hT5; have HTK := Lib.hid hTK
    clear hX5 hM5 hF5 hC5 hT5 hn hTK Hr hld
    go_wp2_with (first
      | (go_at_call 16; refine Hn.out.mono ?_))
    rintro e w6 ⟨u, rfl, hE, hb6⟩
    obtain rfl := ErrV.zero hE
    have hX6 := HX5.out.below hb6
    have hM6 := HM5.out.of_block ((hX6.at_ (x := (mb, o2)) (by simp)).trans (HX5.out.at_ (x := (mb, o2)) (by simp)).symm)
    have hnd := need_any hM6
    rw [HTK.out] at hnd
    have Hnd := Lib.hid hnd; have HX6 := Lib.hid hX6; have HM6 := Lib.hid hM6
    clear hE hb6 hX6 hM6 hnd Hn HX5 HM5
    go_wp2_with (first
      | (go_at_call 17; refine Hnd.out.mono ?_))
    rintro e w7 ⟨rfl, hb7⟩
    have hX7 := HX6.out.below hb7
    have hM7 := HM6.out.of_block ((hX7.at_ (x := (mb, o2)) (by simp)).trans (HX6.out.at_ (x := (mb, o2)) (by simp)).symm)
    have HX7 := Lib.hid hX7; have HM7 := Lib.hid (hM7.mono (c' := 2 * (k + 1)) (by omega))
    clear hb7 hX7 hM7 HX6 HM6 Hnd
    go_wp2
    go_roundg (L - (k + 1))
    case measure => omega
    case rel => exact ⟨k + 1, _, _, _, rfl, by omega, by go_num, HX7.out, HM7.out, HF5.out, HC5.out, HT5.out⟩
set_option maxRecDepth 100000 in
theorem radixRuns_b1 (n : Int) (h : n < 1) (bp : Option Addr) (L cap : Nat)  (w : World) :
    Calls Tryz.prog 3 #[.int .i64 n, .slice bp L cap] w fun e w' => e = .returned (.bool true) ∧ Below w.heap.size w w' := by
  go_enter Tryz.func3, Tryz.ntmps3
  go_wp2_with (first
    | (go_at_call 13; refine (stands9_any _).mono ?_))
  rintro e w1 ⟨rfl, hb1⟩
  have Hb1 := Lib.hid hb1
  clear hb1
  go_wp2
  go_ret
  exact ⟨rfl, Hb1.out⟩
set_option maxRecDepth 100000 in
theorem radixRuns_b2 (n : Int) (h : 100 < n) (bp : Option Addr) (L cap : Nat)  (w : World) :
    Calls Tryz.prog 3 #[.int .i64 n, .slice bp L cap] w fun e w' => e = .returned (.bool true) ∧ Below w.heap.size w w' := by
  have g1 : decide (n < 1) = false := by simp; omega
  go_enter Tryz.func3, Tryz.ntmps3
  go_wp2_with (first
    | (go_at_call 13; refine (stands9_any _).mono ?_))
  rintro e w1 ⟨rfl, hb1⟩
  have Hb1 := Lib.hid hb1
  clear hb1
  go_wp2
  go_ret
  exact ⟨rfl, Hb1.out⟩
set_option maxRecDepth 100000 in
theorem radixRuns_b3 (n : Int) (h1 : 1 ≤ n) (h2 : n ≤ 100) (bp : Option Addr) (L cap : Nat) (h : 300 < L) (w : World) :
    Calls Tryz.prog 3 #[.int .i64 n, .slice bp L cap] w fun e w' => e = .returned (.bool true) ∧ Below w.heap.size w w' := by
  have g1 : decide (n < 1) = false := by simp; omega
  have g2 : decide (100 < n) = false := by simp; omega
  have g3 : (300 : Int) < (L : Int) := by omega
  clear h1 h2 h
  go_enter Tryz.func3, Tryz.ntmps3
  go_wp2_with (first
    | (go_at_call 13; refine (stands9_any _).mono ?_))
  rintro e w1 ⟨rfl, hb1⟩
  have Hb1 := Lib.hid hb1
  clear hb1
  go_wp2
  go_ret
  exact ⟨rfl, Hb1.out⟩
theorem radixRuns_any (n : Int) (bp : Option Addr) (cs : List (Int × Int × Int)) (cap : Nat) (w : World) (hC : TriplesAt w.heap.size w bp cs) (hL : Laid w) :
    Calls Tryz.prog 3 #[.int .i64 n, .slice bp cs.length cap] w fun e w' => e = .returned (.bool true) ∧ Below w.heap.size w w' := by
  by_cases h1 : n < 1
  · exact radixRuns_b1 n h1 bp _ cap w
  by_cases h2 : 100 < n
  · exact radixRuns_b2 n h2 bp _ cap w
  by_cases h3 : 300 < cs.length
  · exact radixRuns_b3 n (by omega) (by omega) bp _ cap h3 w
  obtain ⟨N, rfl⟩ : ∃ N : Nat, n = (N : Int) := ⟨n.toNat, by omega⟩
  exact radixRuns_ok N (by omega) (by omega) bp cs cap (by omega) w hL hC
end Go.Proofs.YtfagnbjjffjcbaaGreatDoor
