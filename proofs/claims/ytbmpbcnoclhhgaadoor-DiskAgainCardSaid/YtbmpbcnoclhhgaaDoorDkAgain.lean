/-
  'DiskAgain': its walk.
-/
import Derived.Test.YtbmpbcnoclhhgaaDoorDkCalls
namespace Go.Proofs.YtbmpbcnoclhhgaaDoor
open Go.RowKit Sh Go.Extern.Stop Go.Stop Go.Extern

theorem crash_twice (S : St) (p o : List Int) : crashOf (crashOf S p) o = crashOf S p := by simp [crashOf, crashS]

set_option maxRecDepth 100000 in
set_option maxHeartbeats 4000000 in
theorem diskAgain_any (bp : Option Addr) (cs : List CallD) (cap : Nat) {w : World} (hC : CallsAt w.heap.size w bp cs) (hl : cs.length ≤ 9223372036854775807)
    (a1 : Option Addr) (z1 : List Int) (c1 : Nat) (hN1 : Nums w.heap.size w a1 z1) (hl1 : z1.length ≤ 9223372036854775807)
    (a2 : Option Addr) (z2 : List Int) (c2 : Nat) (hN2 : Nums w.heap.size w a2 z2) (hl2 : z2.length ≤ 9223372036854775807) :
    Calls Tryd.prog 8 #[.slice bp cs.length cap, .slice a1 z1.length c1, .slice a2 z2.length c2] w fun e w' => e = .returned (.bool true) ∧ Below w.heap.size w w' := by
  obtain ⟨L, hL⟩ : ∃ L, Hid (cs.length = L) := ⟨_, rfl⟩
  have hLn : L ≤ 9223372036854775807 := by rw [← hL.out]; exact hl
  obtain ⟨L1, hL1⟩ : ∃ L, Hid (z1.length = L) := ⟨_, rfl⟩
  obtain ⟨L2, hL2⟩ : ∃ L, Hid (z2.length = L) := ⟨_, rfl⟩
  rw [hL.out, hL1.out, hL2.out]
  go_enter Tryd.func8, Tryd.ntmps8
  go_wp2_with (first
    | (go_at_call 9; refine (stands_any _).mono ?_; rintro e w1 ⟨rfl, hb1⟩)
    | (go_at_call 10; refine (pd_new 12 (by omega) (by omega) _).mono ?_))
  rintro e w2 ⟨v, rfl, hN⟩
  obtain ⟨g, F, rfl, hP2, hF2, hb2⟩ := hN.next hb1.size hb1
  have s1 := hb1.size
  have hF2' : ∀ k, F k → w.heap.size ≤ k := fun k hk => by have := hF2 k hk; omega
  have hI0 := on_new 12 (by omega) (by omega)
  clear hN hb1 hF2 s1
  go_wp2
  go_loopg [26] L (fun m v wr => ∃ (k : Nat) (S : St) (F : Nat → Prop), m = L - k ∧ k ≤ L ∧ k ≤ 200 ∧ v = .int .i64 k ∧ On S 12 k ∧ PD S F g wr ∧ (∀ k, F k → w.heap.size ≤ k) ∧ Below w.heap.size w wr)
  case atStart => exact ⟨0, _, F, rfl, by omega, by omega, rfl, hI0, hP2, hF2', hb2⟩
  case round =>
    clear hP2 hb2 hF2' hI0
    obtain ⟨k, S, F, rfl, hk, hk2, rfl, hI, hP, hF, hb⟩ := hrel
    by_cases hlt : k < L
    · have hlt' : (k : Int) < (L : Int) := by omega
      have hwk : IntKind.i64.wrap ((k : Int) + 1) = ((k + 1 : Nat) : Int) := by rw [IntWalk.i64_in _ (by omega)]; omega
      have hka : k < cs.length := by rw [hL.out]; exact hlt
      obtain ⟨bq, oq, rfl, hbq, hcs⟩ := (hC.below hb).resolve_left (by intro h0; rw [h0] at hka; simp at hka)
      obtain ⟨hrange, hok⟩ := hcs k cs[k] (List.getElem?_eq_getElem hka)
      obtain ⟨c, hc⟩ : ∃ c, cs[k] = c := ⟨_, rfl⟩
      have HCG : Hid (cs[k]? = some c) := (by rw [List.getElem?_eq_getElem hka, hc] : cs[k]? = some c)
      rw [hc] at hrange hok
      have HRg := Lib.hid hrange
      have hci : Hid ((Tryd.prog.info? 35).map (·.size) = some (callCells c).length) := (infoCall : (Tryd.prog.info? 35).map (·.size) = some 4)
      have hci2 : Hid ((Tryd.prog.info? 35).map (·.size) = some (callCells c).toArray.size) := (infoCall : (Tryd.prog.info? 35).map (·.size) = some 4)
      have hcone : Hid ((callCells c).toArray.all (·.oneCell') = true) := call_one c
      have hcold : Hid (zeroCall.size = (callCells c).toArray.size) := (rfl : zeroCall.size = 4)
      have hba : Below wr.heap.size wr (wr.alloc (.cells (callCells c).toArray 35)) := (Below.refl _ wr).alloc (Nat.le_refl _) _
      have hck : (wr.alloc (.cells (callCells c).toArray 35)).heap[wr.heap.size]? = some (.cells (callCells c).toArray 35 (0, 0)) := heap_alloc_new wr _
      obtain ⟨wa, hwa⟩ : ∃ w', Hid (wr.alloc (.cells (callCells c).toArray 35) = w') := ⟨_, rfl⟩
      obtain ⟨bc, hbc⟩ : ∃ b', Hid (wr.heap.size = b') := ⟨_, rfl⟩
      rw [hwa.out] at hba hck
      rw [hbc.out] at hck
      replace hP := hP.below hba
      replace hb := hb.trans (hba.mono hb.size)
      have ck0 : wa.cell? ⟨bc, 0, none⟩ = some (.int .i64 c.kind) := by rw [cell_of_row wa bc 0 _ _ _ hck]; rfl
      have ck1 : wa.cell? ⟨bc, 1, none⟩ = some (.int .i64 c.i) := by rw [cell_of_row wa bc 1 _ _ _ hck]; rfl
      have ck2 : wa.cell? ⟨bc, 2, none⟩ = some (cu8 c.what) := by rw [cell_of_row wa bc 2 _ _ _ hck]; rfl
      have ck3 : wa.cell? ⟨bc, 3, none⟩ = some (.slice c.ap c.pick.length c.cp) := by rw [cell_of_row wa bc 3 _ _ _ hck]; rfl
      have tokL : True := trivial
      have tokC : True := trivial
      have tokD : True := trivial
      clear hcs hrange hba hc
      by_cases h200 : k = 200
      · have h200b : ((k : Int) == 200) = true := by rw [h200]; rfl
        clear h200
        have hfew : S.ats.length ≤ 1048576 := by have := hI.few; omega
        have hcr := pd_crash hP hI.good hfew a1 c1 z1 ((hN1.below hb).mono hb.size) hl1
        rw [hL1.out] at hcr
        have hIx := hI.crash z1
        have sb := hb.size
        go_wp2_with (first
          | (have _t := tokL; refine wpList_load_mid rfl 35 _ rfl bq (oq + k * 4) rfl (callCells c) _ HRg.out Tryd.underlying35 rfl hci.out ?_; clear tokL)
          | (have _t := tokC; refine wpList_alloc_arr rfl 35 rfl _ allocCall ?_; clear tokC)
          | (have _t := tokD; refine wpList_store_new rfl 35 _ _ rfl wr.heap.size rfl (callCells c).toArray rfl rfl 35 _ hci2.out hcold.out hcone.out ?_; rw [hwa.out, hbc.out]; clear tokD)
          | (go_at_call 21; refine hcr.mono ?_))
        rintro e wx ⟨v, rfl, hNx⟩
        obtain ⟨gx, Fx, rfl, hPx, hFx, hbx⟩ := hNx.next sb hb
        have hcr2 := pd_crash hPx hIx.good (by simp [crashOf]) a2 c2 z2 ((hN2.below hbx).mono hbx.size) hl2
        rw [hL2.out, crash_twice] at hcr2
        have sx := hbx.size
        clear hcr hNx hP hF hb sb hI hfew
        go_wp2_with (go_at_call 21; refine hcr2.mono ?_)
        rintro e wy ⟨v, rfl, hNy⟩
        have hPx2 : PD (crashOf S z1) Fx gx wy := by obtain ⟨_, _, _, _, hbb, _⟩ := hNy; exact hPx.below hbb
        obtain ⟨gy, Fy, rfl, hPy, hFy, hby⟩ := hNy.next sx hbx
        clear hcr2 hNy hPx hbx sx hFx hFy
        generalize crashOf S z1 = X at hIx hPx2 hPy
        go_wp2
        go_loopg [58] 12 (fun m v wr => ∃ j : Nat, m = 12 - j ∧ j ≤ 12 ∧ v = .int .i64 j ∧ PD X Fx gx wr ∧ PD X Fy gy wr ∧ Below w.heap.size w wr)
        case atStart => exact ⟨0, rfl, by omega, rfl, hPx2, hPy, hby⟩
        case round =>
          clear hPx2 hPy hby
          rename World => wr2
          obtain ⟨j, rfl, hj, rfl, hPx, hPy, hb⟩ := hrel
          by_cases hj12 : j < 12
          · have hlt2 : (j : Int) < 12 := by omega
            have hwj : IntKind.i64.wrap ((j : Int) + 1) = ((j + 1 : Nat) : Int) := by rw [IntWalk.i64_in _ (by omega)]; omega
            have hnum := hIx.read j hj12
            have hbp := byt_read hIx.byt j
            have hrx := pd_read hPx j
            obtain ⟨pg, hpg⟩ : ∃ pg, (readOf X j).1 = pg := ⟨_, rfl⟩
            rw [hpg, hnum] at hrx
            rw [hpg] at hbp
            have hz1_pg := page_size hbp.page
            have hz2_pg := page_all hbp.page
            have hz3_pg := zeros_eq hbp.page
            go_wp2_with (go_at_call 17; refine hrx.mono ?_)
            rintro e w3a ⟨v3, rfl, hE3, hr3⟩
            obtain rfl := ErrV.zero hE3
            have hA3 := hr3.alloc hr3.size (.cells pg.toArray 42)
            have hk3 : (w3a.alloc (.cells pg.toArray 42)).heap[w3a.heap.size]? = some (.cells pg.toArray 42 (0, 0)) := heap_alloc_new w3a _
            replace hPx := hPx.below hA3
            replace hPy := hPy.below hA3
            replace hb := hb.trans (hA3.mono hb.size)
            obtain ⟨w3, hw3⟩ : ∃ w', Hid (w3a.alloc (.cells pg.toArray 42) = w') := ⟨_, rfl⟩
            obtain ⟨b3, hb3⟩ : ∃ b', Hid (w3a.heap.size = b') := ⟨_, rfl⟩
            rw [hw3.out] at hk3 hPx hPy hb
            rw [hb3.out] at hk3
            clear hE3 hr3 hA3
            have tokA3 : True := trivial
            have tokS3 : True := trivial
            have hry := pd_read hPy j
            rw [hpg, hnum] at hry
            clear hrx
            go_wp2_with (first
              | (have _t := tokA3; refine wpList_alloc_arr rfl 42 rfl _ alloc64 ?_; clear tokA3)
              | (have _t := tokS3; refine wpList_store_new rfl 42 _ _ rfl w3a.heap.size rfl pg.toArray rfl rfl 42 _ hz1_pg.out hz3_pg.out hz2_pg.out ?_; rw [hw3.out, hb3.out]; clear tokS3)
              | (go_at_call 17; refine hry.mono ?_))
            rintro e w4a ⟨v4, rfl, hE4, hr4⟩
            obtain rfl := ErrV.zero hE4
            have hA4 := hr4.alloc hr4.size (.cells pg.toArray 42)
            have hk4 : (w4a.alloc (.cells pg.toArray 42)).heap[w4a.heap.size]? = some (.cells pg.toArray 42 (0, 0)) := heap_alloc_new w4a _
            replace hPx := hPx.below hA4
            replace hPy := hPy.below hA4
            replace hk3 := (hA4.block b3 (Array.getElem?_eq_some_iff.1 hk3).1).trans hk3
            replace hb := hb.trans (hA4.mono hb.size)
            obtain ⟨w4, hw4⟩ : ∃ w', Hid (w4a.alloc (.cells pg.toArray 42) = w') := ⟨_, rfl⟩
            obtain ⟨b4, hb4⟩ : ∃ b', Hid (w4a.heap.size = b') := ⟨_, rfl⟩
            rw [hw4.out] at hk4 hPx hPy hk3 hb
            rw [hb4.out] at hk4
            clear hE4 hr4 hA4
            have tokA4 : True := trivial
            have tokS4 : True := trivial
            have hld3 := Lib.hid (run_loadAt_mid (P := Tryd.prog) w4 b3 0 42 pg _ (fun j v hj => by rw [Nat.zero_add, cell_of_row w4 b3 j _ _ _ hk3]; simpa using hj) Tryd.underlying42 rfl (by rw [hbp.page.1]; exact info64))
            have hld4 := Lib.hid (run_loadAt_mid (P := Tryd.prog) w4 b4 0 42 pg _ (fun j v hj => by rw [Nat.zero_add, cell_of_row w4 b4 j _ _ _ hk4]; simpa using hj) Tryd.underlying42 rfl (by rw [hbp.page.1]; exact info64))
            have hne := hbp.neq
            have hsm := hbp.same
            clear hry hk3 hk4 hpg hnum
            go_wp2_with (first
              | (have _t := tokA4; refine wpList_alloc_arr rfl 42 rfl _ alloc64 ?_; clear tokA4)
              | (have _t := tokS4; refine wpList_store_new rfl 42 _ _ rfl w4a.heap.size rfl pg.toArray rfl rfl 42 _ hz1_pg.out hz3_pg.out hz2_pg.out ?_; rw [hw4.out, hb4.out]; clear tokS4)
              | (have _t := hld3; refine wpList_load_page _ rfl b3 0 rfl _ hld3.out (by rfl) ?_; clear hld3)
              | (have _t := hld4; refine wpList_load_page _ rfl b4 0 rfl _ hld4.out (by rfl) ?_; clear hld4))
            go_roundg (12 - (j + 1))
            case measure => omega
            case rel => exact ⟨j + 1, rfl, by omega, by first | rfl | simp, hPx, hPy, hb⟩
          · have hge : ¬ ((j : Int) < 12) := by omega
            have hpx := pd_pending hPx
            have hpy := pd_pending hPy
            have hz0 : X.ats.length = 0 := by have := hIx.few; omega
            rw [hz0] at hpx hpy
            go_wp2_with (first
              | (have _t := hpx; go_at_call 15; refine hpx.mono ?_; rintro e w' ⟨rfl, rfl⟩; clear hpx)
              | (go_at_call 15; refine hpy.mono ?_; rintro e w' ⟨rfl, rfl⟩))
            go_ret
            exact ⟨rfl, hb⟩
      · have h200' : ¬ ((k : Int) = 200) := by omega
        have h200b : ((k : Int) == 200) = false := by simpa using h200'
        have ti := tmod_in c.i 12 (by omega)
        obtain ⟨q, hq, hq1⟩ := posmod c.i 12 (by omega)
        have t2 : IntKind.i64.wrap (c.i.tmod 12) = c.i.tmod 12 := IntWalk.i64_in _ (by omega)
        have t3 : IntKind.i64.wrap (c.i.tmod 12 + 12) = c.i.tmod 12 + 12 := IntWalk.i64_in _ (by omega)
        have t4 : IntKind.i64.wrap (q : Int) = (q : Int) := IntWalk.i64_in _ (by omega)
        have hfew : S.ats.length ≤ 1048576 := by have := hI.few; omega
        have sb := hb.size
        obtain ⟨cv, hcv⟩ : ∃ cv, cu8 c.what = cv := ⟨_, rfl⟩
        have HB := Lib.hid (built_one c.what)
        rw [hcv] at ck2 HB
        obtain ⟨p1, hp1⟩ : ∃ p, page1 c.what = p := ⟨_, rfl⟩
        have bp1 : BP p1 := hp1 ▸ page1_bytes c.what
        rw [hp1] at HB
        clear hcv hp1 ti
        by_cases hk1 : c.kind = 1
        · obtain ⟨e1, hI'⟩ := hI.write q (by omega) bp1
          have hdo := pd_write hP hI.good hfew q p1 bp1.page
          rw [e1] at hdo hI'
          clear e1
          go_wp2_with (first
            | (have _t := tokL; refine wpList_load_mid rfl 35 _ rfl bq (oq + k * 4) rfl (callCells c) _ HRg.out Tryd.underlying35 rfl hci.out ?_; clear tokL)
            | (have _t := tokC; refine wpList_alloc_arr rfl 35 rfl _ allocCall ?_; clear tokC)
            | (have _t := tokD; refine wpList_store_new rfl 35 _ _ rfl wr.heap.size rfl (callCells c).toArray rfl rfl 35 _ hci2.out hcold.out hcone.out ?_; rw [hwa.out, hbc.out]; clear tokD)
            | (refine wpList_build1 _ rfl cv rfl _ HB.out (by rfl) ?_)
            | (go_at_call 19; refine hdo.mono ?_))
          rintro e w4 ⟨v2, rfl, hT⟩
          obtain ⟨F4, hE2, hP4, hF4, hb4⟩ := hT.next sb hF hb
          obtain rfl := ErrV.zero hE2
          clear hT hE2 hdo
          go_wp2
          go_roundg (L - (k + 1))
          case measure => omega
          case rel => exact ⟨k + 1, _, F4, rfl, by omega, by omega, by first | rfl | simp, hI', hP4, hF4, hb4⟩
        · by_cases hkk2 : c.kind = 2
          · have hk1' : (c.kind == 1) = false := by simpa using hk1
            obtain ⟨e1, hI'⟩ := hI.flush
            have hdo := pd_flush hP hI.good hfew
            rw [e1] at hdo hI'
            clear e1
            go_wp2_with (first
              | (have _t := tokL; refine wpList_load_mid rfl 35 _ rfl bq (oq + k * 4) rfl (callCells c) _ HRg.out Tryd.underlying35 rfl hci.out ?_; clear tokL)
              | (have _t := tokC; refine wpList_alloc_arr rfl 35 rfl _ allocCall ?_; clear tokC)
              | (have _t := tokD; refine wpList_store_new rfl 35 _ _ rfl wr.heap.size rfl (callCells c).toArray rfl rfl 35 _ hci2.out hcold.out hcone.out ?_; rw [hwa.out, hbc.out]; clear tokD)
              | (go_at_call 20; refine hdo.mono ?_))
            rintro e w4 ⟨v2, rfl, hT⟩
            obtain ⟨F4, hE2, hP4, hF4, hb4⟩ := hT.next sb hF hb
            obtain rfl := ErrV.zero hE2
            clear hT hE2 hdo
            go_wp2
            go_roundg (L - (k + 1))
            case measure => omega
            case rel => exact ⟨k + 1, _, F4, rfl, by omega, by omega, by first | rfl | simp, hI', hP4, hF4, hb4⟩
          · have hk1' : (c.kind == 1) = false := by simpa using hk1
            have hk2' : (c.kind == 2) = false := by simpa using hkk2
            go_wp2_with (first
              | (have _t := tokL; refine wpList_load_mid rfl 35 _ rfl bq (oq + k * 4) rfl (callCells c) _ HRg.out Tryd.underlying35 rfl hci.out ?_; clear tokL)
              | (have _t := tokC; refine wpList_alloc_arr rfl 35 rfl _ allocCall ?_; clear tokC)
              | (have _t := tokD; refine wpList_store_new rfl 35 _ _ rfl wr.heap.size rfl (callCells c).toArray rfl rfl 35 _ hci2.out hcold.out hcone.out ?_; rw [hwa.out, hbc.out]; clear tokD))
            go_roundg (L - (k + 1))
            case measure => omega
            case rel => exact ⟨k + 1, S, F, rfl, by omega, by omega, by first | rfl | simp, hI.more (by omega), hP, hF, hb⟩
    · obtain rfl : k = L := by omega
      have hge : ¬ ((k : Int) < (k : Int)) := by omega
      have hfew : S.ats.length ≤ 1048576 := by have := hI.few; omega
      have hcr := pd_crash hP hI.good hfew a1 c1 z1 ((hN1.below hb).mono hb.size) hl1
      rw [hL1.out] at hcr
      have hIx := hI.crash z1
      have sb := hb.size
      go_wp2_with (go_at_call 21; refine hcr.mono ?_)
      rintro e wx ⟨v, rfl, hNx⟩
      obtain ⟨gx, Fx, rfl, hPx, hFx, hbx⟩ := hNx.next sb hb
      have hcr2 := pd_crash hPx hIx.good (by simp [crashOf]) a2 c2 z2 ((hN2.below hbx).mono hbx.size) hl2
      rw [hL2.out, crash_twice] at hcr2
      have sx := hbx.size
      clear hcr hNx hP hF hb sb hI hfew
      go_wp2_with (go_at_call 21; refine hcr2.mono ?_)
      rintro e wy ⟨v, rfl, hNy⟩
      have hPx2 : PD (crashOf S z1) Fx gx wy := by obtain ⟨_, _, _, _, hbb, _⟩ := hNy; exact hPx.below hbb
      obtain ⟨gy, Fy, rfl, hPy, hFy, hby⟩ := hNy.next sx hbx
      clear hcr2 hNy hPx hbx sx hFx hFy
      generalize crashOf S z1 = X at hIx hPx2 hPy
      go_wp2
      go_loopg [58] 12 (fun m v wr => ∃ j : Nat, m = 12 - j ∧ j ≤ 12 ∧ v = .int .i64 j ∧ PD X Fx gx wr ∧ PD X Fy gy wr ∧ Below w.heap.size w wr)
      case atStart => exact ⟨0, rfl, by omega, rfl, hPx2, hPy, hby⟩
      case round =>
        clear hPx2 hPy hby
        rename World => wr2
        obtain ⟨j, rfl, hj, rfl, hPx, hPy, hb⟩ := hrel
        by_cases hj12 : j < 12
        · have hlt2 : (j : Int) < 12 := by omega
          have hwj : IntKind.i64.wrap ((j : Int) + 1) = ((j + 1 : Nat) : Int) := by rw [IntWalk.i64_in _ (by omega)]; omega
          have hnum := hIx.read j hj12
          have hbp := byt_read hIx.byt j
          have hrx := pd_read hPx j
          obtain ⟨pg, hpg⟩ : ∃ pg, (readOf X j).1 = pg := ⟨_, rfl⟩
          rw [hpg, hnum] at hrx
          rw [hpg] at hbp
          have hz1_pg := page_size hbp.page
          have hz2_pg := page_all hbp.page
          have hz3_pg := zeros_eq hbp.page
          go_wp2_with (go_at_call 17; refine hrx.mono ?_)
          rintro e w3a ⟨v3, rfl, hE3, hr3⟩
          obtain rfl := ErrV.zero hE3
          have hA3 := hr3.alloc hr3.size (.cells pg.toArray 42)
          have hk3 : (w3a.alloc (.cells pg.toArray 42)).heap[w3a.heap.size]? = some (.cells pg.toArray 42 (0, 0)) := heap_alloc_new w3a _
          replace hPx := hPx.below hA3
          replace hPy := hPy.below hA3
          replace hb := hb.trans (hA3.mono hb.size)
          obtain ⟨w3, hw3⟩ : ∃ w', Hid (w3a.alloc (.cells pg.toArray 42) = w') := ⟨_, rfl⟩
          obtain ⟨b3, hb3⟩ : ∃ b', Hid (w3a.heap.size = b') := ⟨_, rfl⟩
          rw [hw3.out] at hk3 hPx hPy hb
          rw [hb3.out] at hk3
          clear hE3 hr3 hA3
          have tokA3 : True := trivial
          have tokS3 : True := trivial
          have hry := pd_read hPy j
          rw [hpg, hnum] at hry
          clear hrx
          go_wp2_with (first
            | (have _t := tokA3; refine wpList_alloc_arr rfl 42 rfl _ alloc64 ?_; clear tokA3)
            | (have _t := tokS3; refine wpList_store_new rfl 42 _ _ rfl w3a.heap.size rfl pg.toArray rfl rfl 42 _ hz1_pg.out hz3_pg.out hz2_pg.out ?_; rw [hw3.out, hb3.out]; clear tokS3)
            | (go_at_call 17; refine hry.mono ?_))
          rintro e w4a ⟨v4, rfl, hE4, hr4⟩
          obtain rfl := ErrV.zero hE4
          have hA4 := hr4.alloc hr4.size (.cells pg.toArray 42)
          have hk4 : (w4a.alloc (.cells pg.toArray 42)).heap[w4a.heap.size]? = some (.cells pg.toArray 42 (0, 0)) := heap_alloc_new w4a _
          replace hPx := hPx.below hA4
          replace hPy := hPy.below hA4
          replace hk3 := (hA4.block b3 (Array.getElem?_eq_some_iff.1 hk3).1).trans hk3
          replace hb := hb.trans (hA4.mono hb.size)
          obtain ⟨w4, hw4⟩ : ∃ w', Hid (w4a.alloc (.cells pg.toArray 42) = w') := ⟨_, rfl⟩
          obtain ⟨b4, hb4⟩ : ∃ b', Hid (w4a.heap.size = b') := ⟨_, rfl⟩
          rw [hw4.out] at hk4 hPx hPy hk3 hb
          rw [hb4.out] at hk4
          clear hE4 hr4 hA4
          have tokA4 : True := trivial
          have tokS4 : True := trivial
          have hld3 := Lib.hid (run_loadAt_mid (P := Tryd.prog) w4 b3 0 42 pg _ (fun j v hj => by rw [Nat.zero_add, cell_of_row w4 b3 j _ _ _ hk3]; simpa using hj) Tryd.underlying42 rfl (by rw [hbp.page.1]; exact info64))
          have hld4 := Lib.hid (run_loadAt_mid (P := Tryd.prog) w4 b4 0 42 pg _ (fun j v hj => by rw [Nat.zero_add, cell_of_row w4 b4 j _ _ _ hk4]; simpa using hj) Tryd.underlying42 rfl (by rw [hbp.page.1]; exact info64))
          have hne := hbp.neq
          have hsm := hbp.same
          clear hry hk3 hk4 hpg hnum
          go_wp2_with (first
            | (have _t := tokA4; refine wpList_alloc_arr rfl 42 rfl _ alloc64 ?_; clear tokA4)
            | (have _t := tokS4; refine wpList_store_new rfl 42 _ _ rfl w4a.heap.size rfl pg.toArray rfl rfl 42 _ hz1_pg.out hz3_pg.out hz2_pg.out ?_; rw [hw4.out, hb4.out]; clear tokS4)
            | (have _t := hld3; refine wpList_load_page _ rfl b3 0 rfl _ hld3.out (by rfl) ?_; clear hld3)
            | (have _t := hld4; refine wpList_load_page _ rfl b4 0 rfl _ hld4.out (by rfl) ?_; clear hld4))
          go_roundg (12 - (j + 1))
          case measure => omega
          case rel => exact ⟨j + 1, rfl, by omega, by first | rfl | simp, hPx, hPy, hb⟩
        · have hge : ¬ ((j : Int) < 12) := by omega
          have hpx := pd_pending hPx
          have hpy := pd_pending hPy
          have hz0 : X.ats.length = 0 := by have := hIx.few; omega
          rw [hz0] at hpx hpy
          go_wp2_with (first
            | (have _t := hpx; go_at_call 15; refine hpx.mono ?_; rintro e w' ⟨rfl, rfl⟩; clear hpx)
            | (go_at_call 15; refine hpy.mono ?_; rintro e w' ⟨rfl, rfl⟩))
          go_ret
          exact ⟨rfl, hb⟩
end Go.Proofs.YtbmpbcnoclhhgaaDoor
