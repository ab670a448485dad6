/-
  'DepotRuns': its walk.
-/
import Derived.Test.YtjkkbceddbkejaaGreatDoorJDrc
set_option linter.unusedSimpArgs false
set_option linter.unusedVariables false
namespace Go.Proofs.YtjkkbceddbkejaaGreatDoor
open Go.RowKit Sh Go.Maps Go.Extern.Stop Go.Stop Go.Extern

attribute [local irreducible] bk1 bk0
set_option maxRecDepth 100000 in
theorem depotRuns_no (n : Int) (bp : Option Addr) (N cap : Nat) (h : n < 1 ∨ 64 < n ∨ 300 < N) (w : World) :
    Calls Tryz.prog 7 #[.int .i64 n, .slice bp N cap] w (RetP (.bool true) w) := by
  by_cases g1 : n < 1
  · clear h
    go_enter Tryz.func7, Tryz.ntmps7
    go_wp2_with (first
      | (go_at_call 8; refine (stands7_any _).mono ?_))
    rintro e w1 ⟨rfl, hb1⟩
    have Hb1 := Lib.hid hb1
    clear hb1
    go_wp2
    go_ret
    exact ⟨rfl, Hb1.out⟩
  by_cases g2 : 64 < n
  · clear h
    go_enter Tryz.func7, Tryz.ntmps7
    go_wp2_with (first
      | (go_at_call 8; refine (stands7_any _).mono ?_))
    rintro e w1 ⟨rfl, hb1⟩
    have Hb1 := Lib.hid hb1
    clear hb1
    go_wp2
    go_ret
    exact ⟨rfl, Hb1.out⟩
  · have g3 : (300 : Int) < (N : Int) := by omega
    clear h
    go_enter Tryz.func7, Tryz.ntmps7
    go_wp2_with (first
      | (go_at_call 8; refine (stands7_any _).mono ?_))
    rintro e w1 ⟨rfl, hb1⟩
    have Hb1 := Lib.hid hb1
    clear hb1
    go_wp2
    go_ret
    exact ⟨rfl, Hb1.out⟩
set_option maxRecDepth 100000 in
set_option maxHeartbeats 64000000 in
theorem depotRuns_ok (n : Nat) (h1 : 1 ≤ n) (h64 : n ≤ 64) (bp : Option Addr) (cs : List (Int × Int × UInt8)) (cap : Nat) (hle : cs.length ≤ 300) (w : World) (hL : Laid w) (hC : TriplesAt w.heap.size w bp cs) :
    Calls Tryz.prog 7 #[.int .i64 (n : Nat), .slice bp cs.length cap] w (RetP (.bool true) w) := by
  obtain ⟨N, hNe⟩ : ∃ N, cs.length = N := ⟨_, rfl⟩
  have HNe := Lib.hid hNe
  rw [hNe] at hle ⊢
  obtain ⟨hD0, hC0, ht0⟩ := de600 n h64
  have HD0 := Lib.hid hD0; have HC0 := Lib.hid hC0; have Ht0 := Lib.hid ht0
  have Hfr0 : Hid (∀ (w1 : World) (_ : Below w.heap.size w w1), Calls Tryz.prog 9 #[.int .i64 n] w1 (DFreshP n w)) := Lib.hid (fun (w1 : World) (hb1 : Below w.heap.size w w1) => fresh7_any n h1 h64 w w1 hb1)
  have Hnew0 : Hid (∀ w1 : World, Calls Tryz.prog 28 #[.int .i64 n] w1 (RfNewP (4 * n) w1)) := Lib.hid (fun w1 => rnew7_any n h64 w1)
  have HC := Lib.hid hC; have HL := Lib.hid hL
  have g1 : ¬ ((n : Int) < 1) := by omega
  have g2 : ¬ (64 < (n : Int)) := by omega
  have g3 : ¬ (300 < (N : Int)) := by omega
  clear hD0 hC0 ht0 hNe hC hL
  go_enter Tryz.func7, Tryz.ntmps7
  go_wp2_with (first
    | (go_at_call 8; refine (stands7_any _).mono ?_))
  rintro e w1 ⟨rfl, hb1⟩
  have Hfr := Lib.hid (Hfr0.out w1 hb1)
  clear hb1 Hfr0
  go_wp2_with (first
    | (go_at_call 9; refine Hfr.out.mono ?_))
  rintro e w2 ⟨gd, g, x, rfl, hX0⟩
  have Hnew := Lib.hid (Hnew0.out w2)
  have HX0 := Lib.hid hX0
  clear Hfr hX0 g1 g2 g3 Hnew0
  go_wp2_with (first
    | (go_at_call 28; refine Hnew.out.mono ?_))
  rintro e w3 ⟨m, sb, bb, rfl, hR3, hb3, k1, k2, k3⟩
  rw [stN_new n] at hR3
  obtain ⟨T0, hX3, hRT⟩ := RfT.made HX0.out hR3 hb3 k1 k2 k3
  have HX3 := Lib.hid hX3; have HRT := Lib.hid hRT
  clear hR3 hb3 k1 k2 k3 hX3 hRT HX0 Hnew
  go_wp2
  go_loopg [33] N (fun mm v wr => ∃ (i : Nat) (b : Bk) (hs : List (List UInt8)) (bl : Nat → List UInt8) (T : List (Nat × Obj)), mm = N - i ∧ i ≤ N ∧ v = .int .i64 i ∧ OwnX b gd g T w wr ∧ De b 3 n hs bl ∧ RfT (x, depO g 3 n) m sb bb (4 * n) T (stN hs) bl ∧ Co b 600 i ∧ b.txn = [])
  case atStart => exact ⟨0, _, _, _, T0, rfl, by omega, rfl, HX3.out, HD0.out, HRT.out, HC0.out, Ht0.out⟩
  case round =>
    clear HX3 HD0 HC0 Ht0 HRT
    obtain ⟨i, b, hs, bl, T, rfl, hiN, rfl, hX, hD, hR, hCo, ht⟩ := hrel
    by_cases hlt : i < N
    case neg =>
      have hlt' : ¬ ((i : Int) < (N : Int)) := by omega
      obtain ⟨M, hM⟩ : ∃ M, 4 * n = M := ⟨_, rfl⟩
      have hM2 : M ≤ 256 := by omega
      have c0 := (hR.get hX).c0
      rw [hM] at c0
      have HX := Lib.hid hX; have HD := Lib.hid hD; have HR := Lib.hid hR; have HM := Lib.hid hM
      clear hX hD hR hCo ht hlt hM
      go_wp2
      clear c0
      go_loopg [60] M (fun mm v wq => ∃ k : Nat, mm = M - k ∧ k ≤ M ∧ v = .int .i64 k ∧ OwnX b gd g T w wq)
      case atStart => exact ⟨0, rfl, by omega, rfl, HX.out⟩
      case round =>
        clear HX
        obtain ⟨k, rfl, hkM, rfl, hX⟩ := hrel
        by_cases hlk : k < M
        · have hlk' : (k : Int) < (M : Int) := by omega
          have hbo := both3_any hX HL.out HD.out (by omega) h64 HR.out (k : Int) 0
          obtain ⟨pv, Hpv⟩ : ∃ pv : Array Value, Hid (pv = #[.int .i64 3, .int .i64 (k : Int), cu8 0]) := ⟨_, rfl⟩
          have hcv : callV 3 (k : Int) 0 = .agg pv := by rw [Hpv.out]; rfl
          rw [hcv] at hbo
          have HB : Hid (Tryz.prog.built 69 [(0, .int .i64 3), (1, .int .i64 (k : Int))] = some pv) := by rw [Hpv.out]; exact built_call _
          have Hbo := Lib.hid hbo
          clear hbo hcv hX
          go_wp2_with (first
            | (refine wpList_buildC (.const (.int .i64 3)) (.tmp 66) rfl _ _ rfl rfl _ HB.out (by rfl) ?_)
            | (go_at_call 29; refine Hbo.out.mono ?_))
          rintro e w5 ⟨rfl, hX5⟩
          have HX5 := Lib.hid hX5
          clear hX5 Hbo HB
          go_wp2
          go_roundg (M - (k + 1))
          case measure => omega
          case rel => exact ⟨k + 1, rfl, by omega, by go_num, HX5.out⟩
        · obtain rfl : k = M := by omega
          have hge2 : ¬ ((k : Int) < (k : Int)) := by omega
          have Hb := Lib.hid hX.bel
          clear hX hlk
          go_wp2
          go_ret
          exact ⟨rfl, Hb.out⟩
    have hlt' : (i : Int) < (N : Int) := by omega
    have hka : i < cs.length := by rw [HNe.out]; exact hlt
    obtain ⟨bq, oq, hbe, hbq, hcs⟩ := (HC.out.below hX.bel).resolve_left (by intro h0; rw [h0] at hka; simp at hka)
    subst hbe
    obtain ⟨⟨kd, sl, wh⟩, hq⟩ : ∃ q, cs[i] = q := ⟨_, rfl⟩
    obtain ⟨e0, e1, e2⟩ := hcs i (kd, sl, wh) (by rw [List.getElem?_eq_getElem hka, hq])
    obtain ⟨pv, Hpv⟩ : ∃ pv : List Value, Hid (pv = [.int .i64 kd, .int .i64 sl, cu8 wh]) := ⟨_, rfl⟩
    have Hrg : Hid (wr.rangeAt bq (oq + i * 3) pv) := Lib.hid (range7 Hpv.out e0 e1 e2)
    obtain ⟨hpl, hpi, hpi2, hpz, hp1⟩ := call_facts Hpv.out
    have hba : Below wr.heap.size wr (wr.alloc (.cells pv.toArray 69)) := (Below.refl _ _).alloc (Nat.le_refl _) _
    have hx1 : (wr.alloc (.cells pv.toArray 69)).heap[wr.heap.size]? = some (.cells pv.toArray 69 (0, 0)) := heap_alloc_new wr _
    have hX1 := hX.below hba
    have hbo := both_any hX1 HL.out hD (by omega) h64 hR (by have := hCo.ats; omega) ht kd sl wh
    have hcv : callV kd sl wh = .agg pv.toArray := by rw [Hpv.out]; rfl
    rw [hcv] at hbo
    have HCo := Lib.hid hCo
    clear hX hX1 hD hR hCo ht hcs hq e0 e1 e2 hlt hka hba hcv
    go_upto_region 10 with (first
      | (refine wpList_load_mid rfl 69 _ rfl bq (oq + i * 3) rfl pv _ Hrg.out Tryz.underlying69 rfl hpi.out ?_)
      | (refine wpList_alloc_arr rfl 69 rfl _ allocC7 ?_)
      | (refine wpList_store_new rfl 69 _ _ rfl wr.heap.size rfl pv.toArray rfl rfl 69 _ hpi2.out hpz.out hp1.out ?_))
    clear hpi2 hpz hp1 Hrg
    generalize wr.alloc (.cells pv.toArray 69) = w4 at hx1 hbo ⊢
    obtain ⟨y, hy⟩ : ∃ y, wr.heap.size = y := ⟨_, rfl⟩
    rw [hy] at hx1 ⊢
    have HRg : Hid (w4.rangeAt y 0 pv) := Lib.hid (fun j v hj => by rw [Nat.zero_add, cell_of_row w4 y j _ _ _ hx1]; simpa using hj)
    have Hbo := Lib.hid hbo
    clear hy hx1 Hpv hpl hbo
    go_wp2_with (first
      | (refine wpList_load_mid rfl 69 _ rfl y 0 rfl pv _ HRg.out Tryz.underlying69 rfl hpi.out ?_)
      | (go_at_call 29; refine Hbo.out.mono ?_))
    rintro e w5 ⟨rfl, t5, hs5, bl5, T5, hX5, hD5, hR5, ht5, _, _⟩
    have hCo5 := HCo.out.txn t5
    have hal := alike_any hX5 hD5 (by omega) h64 hR5
    have Hal := Lib.hid hal; have HX5 := Lib.hid hX5; have HD5 := Lib.hid hD5; have HR5 := Lib.hid hR5; have HCo5 := Lib.hid hCo5; have Ht5 := Lib.hid ht5
    clear hal hX5 hD5 hR5 hCo5 ht5 Hbo HRg hpi
    go_wp2_with (first
      | (go_at_call 31; refine Hal.out.mono ?_))
    rintro e w6 ⟨rfl, hb6⟩
    have hX6 := HX5.out.below hb6
    obtain ⟨b7, hD7, hC7, ht7, hcm⟩ := hX6.commDe HD5.out HCo5.out (by omega) Ht5.out
    have Hcm := Lib.hid hcm; have HD7 := Lib.hid hD7; have HC7 := Lib.hid hC7; have Ht7 := Lib.hid ht7
    clear hcm hD7 hC7 ht7 hX6 hb6 Hal HX5 HD5 HCo5 Ht5
    go_wp2_with (first
      | (go_at_call 20; refine Hcm.out.mono ?_))
    rintro e w7 ⟨v7, rfl, hE7, hX7⟩
    obtain rfl := ErrV.zero hE7
    have HX7 := Lib.hid hX7
    clear hX7 hE7 Hcm
    go_wp2
    go_roundg (N - (i + 1))
    case measure => omega
    case rel => exact ⟨i + 1, b7, _, _, T5, rfl, by omega, by go_num, HX7.out, HD7.out, HR5.out, HC7.out, Ht7.out⟩
theorem depotRuns_any (n : Int) (bp : Option Addr) (cs : List (Int × Int × UInt8)) (cap : Nat) (w : World) (hC : TriplesAt w.heap.size w bp cs) (hL : Laid w) :
    Calls Tryz.prog 7 #[.int .i64 n, .slice bp cs.length cap] w (RetP (.bool true) w) := by
  by_cases h : n < 1 ∨ 64 < n ∨ 300 < cs.length
  · exact depotRuns_no n bp _ cap h w
  · obtain ⟨k, rfl⟩ : ∃ k : Nat, n = (k : Int) := ⟨n.toNat, by omega⟩
    exact depotRuns_ok k (by omega) (by omega) bp cs cap (by omega) w hL hC
end Go.Proofs.YtjkkbceddbkejaaGreatDoor
