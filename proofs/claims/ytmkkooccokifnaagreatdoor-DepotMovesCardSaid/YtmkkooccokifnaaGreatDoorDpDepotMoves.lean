/-
  'DepotMoves': its walk.
-/
import Derived.Test.YtmkkooccokifnaaGreatDoorDpMapB
import Derived.Test.YtmkkooccokifnaaGreatDoorRxOpenN
set_option linter.unusedSimpArgs false
set_option linter.unusedVariables false
namespace Go.Proofs.YtmkkooccokifnaaGreatDoor
open Go.RowKit Sh Go.Maps Go.Extern.Stop Go.Stop Go.Extern

theorem mv_byte {i : Nat} (h : i < 200) : IntKind.i64.wrap ((i : Int) + 1) = (i : Int) + 1 ∧ IntKind.u8.wrap ((i : Int) + 1) = (i : Int) + 1 ∧ (UInt8.ofNat (i + 1)).toNat = i + 1 := by
  refine ⟨IntWalk.i64_in _ (by omega), ?_, ?_⟩
  · rw [IntKind.wrap_u8]; omega
  · rw [UInt8.toNat_ofNat']; omega
theorem mv_page (i : Nat) (h : i < 200) : Tryz.prog.built 33 [(0, .int .u8 ((i : Int) + 1))] = some (page1 (UInt8.ofNat (i + 1))).toArray := by
  have := built_one (UInt8.ofNat (i + 1))
  rw [cu8_nat, (mv_byte h).2.2] at this
  exact this
theorem getOf_gone {hs : List (List UInt8)} {bl : Nat → List UInt8} {n s : Nat} (hs4 : s < 4 * n) (hl : stS hs s ≠ 1) : getOf hs bl n (s : Int) = (z64l, 23) := by
  unfold getOf
  rw [if_neg (by omega), Int.toNat_natCast, if_neg hl]
theorem RgB.keep {b b' : Bk} {gd g mb r nn cnt : Nat} {D : DataW Unit} {left : Go.Lit → Bool} {T : List (Nat × Obj)} {w0 w w' : World} {o o' : Obj} (h : RgB w mb r nn D left cnt) (hX : OwnX b gd g T w0 w) (hX' : OwnX b' gd g T w0 w') (hm : (mb, o) ∈ T) (hr : (r, o') ∈ T) : RgB w' mb r nn D left cnt :=
  h.block ((hX'.at_ hm).trans (hX.at_ hm).symm) ((hX'.at_ hr).trans (hX.at_ hr).symm)
theorem quo4 (r : Nat) : ((r : Int)).tdiv 4 = ((r / 4 : Nat) : Int) := by rw [Int.tdiv_eq_ediv_of_nonneg (by omega)]; omega
attribute [local irreducible] bk1 bk0
set_option maxRecDepth 100000 in
set_option maxHeartbeats 64000000 in
theorem depotMoves_any (nI : Int) (hnI : -9223372036854775808 ≤ nI ∧ nI ≤ 9223372036854775807) (bp : Option Addr) (zs : List Int) (cap : Nat) (w : World) (hN : Nums w.heap.size w bp zs) (hn : zs.length ≤ 9223372036854775807) (hL : Laid w) :
    Calls Tryz.prog 3 #[.int .i64 nI, .slice bp zs.length cap] w (RetP (.bool true) w) := by
  have hpos := hL.pos
  obtain ⟨s1, km, r1, a1, a2, a3, a4⟩ := dp_mod nI 12 (by omega) (by omega)
  have n12 : ((12 : Nat) : Int) = 12 := rfl
  rw [n12] at a1 a2 a3
  obtain ⟨N, hNe⟩ : ∃ N, km + 1 = N := ⟨_, rfl⟩
  have hN1 : 1 ≤ N := by omega
  have hN12 : N ≤ 12 := by omega
  have HNI := Lib.hid (show (km : Int) + 1 = (N : Int) by omega)
  obtain ⟨hD0, _, ht0⟩ := de600 6 (by omega)
  have HD0 := Lib.hid hD0; have Ht0 := Lib.hid ht0
  have Hfr := Lib.hid (fun (w1 : World) (hb1 : Below w.heap.size w w1) => fresh7_any 6 (by omega) (by omega) w w1 hb1)
  obtain ⟨L, hLe⟩ : ∃ L, zs.length = L := ⟨_, rfl⟩
  rw [hLe] at hn ⊢
  have HLe := Lib.hid hLe
  have HN := Lib.hid hN; have HL := Lib.hid hL; have Hpos := Lib.hid hpos
  clear n12 hD0 ht0 hNe hL hN hLe hpos
  go_enter Tryz.func3, Tryz.ntmps3
  go_wp2_with (first
    | (go_at_call 8; refine (stands7_any _).mono ?_))
  rintro e w1 ⟨rfl, hb1⟩
  by_cases h60 : 60 < L
  · have h60' : (60 : Int) < (L : Int) := by omega
    have Hb1 := Lib.hid hb1
    clear Hfr hb1
    go_wp2
    go_ret
    exact ⟨rfl, Hb1.out⟩
  have h60' : ¬ ((60 : Int) < (L : Int)) := by omega
  go_upto_region 6 with (fail)
  rw [HNI.out]
  have Hfr1 := Lib.hid (Hfr.out w1 hb1)
  clear a1 a2 a3 Hfr hb1 HNI
  go_wp2_with (first
    | (go_at_call 9; refine Hfr1.out.mono ?_))
  rintro e w2 ⟨gd, g, x, rfl, hX0⟩
  have hmm := @run_makeMap Tryz.prog
  go_upto_region 8 with (fail)
  obtain ⟨hXm, hMm⟩ := MB.made hX0
  generalize w2.alloc (.map #[] 0) = wm at hXm ⊢
  generalize w2.heap.size = mb at hXm hMm ⊢
  have HXm := Lib.hid hXm; have HMm := Lib.hid hMm
  clear hmm Hfr1 hX0 hXm hMm
  go_wp2
  go_loopg [42] N (fun m v wr => ∃ (i : Nat) (b : Bk) (hs : List (List UInt8)) (bl : Nat → List UInt8) (f : Nat → Nat) (D : DataW Unit) (T : List (Nat × Obj)), m = N - i ∧ i ≤ N ∧ v = .int .i64 i ∧ OwnX b gd g T w wr ∧ MB (x, depO g 3 6) mb T i D ∧ HasB D f i ∧ De b 3 6 hs bl ∧ Mv hs bl 6 i f ∧ cntA 2 hs = 0 ∧ InR b 3 (3 + 5 * 6))
  case atStart => exact ⟨0, _, _, _, (fun _ => 0), _, _, rfl, by omega, rfl, HXm.out, HMm.out, HasB.zero _, HD0.out, (Mv.zero 6 _ _).1, (Mv.zero 6 (fun _ => []) (fun _ => 0)).2, fun c hc => by rw [Ht0.out] at hc; cases hc⟩
  case round =>
    clear HXm HMm HD0 Ht0
    obtain ⟨i, b, hs, bl, f, D, T, rfl, hiN, rfl, hX, hM, hH, hD, hF, h2, hI⟩ := hrel
    by_cases hlt : i < N
    · have hlt' : (i : Int) < (N : Int) := by omega
      obtain ⟨hi64, hu8, hun⟩ := mv_byte (show i < 200 by omega)
      obtain ⟨pv, Hpv⟩ : ∃ pv : List Value, Hid (pv = page1 (UInt8.ofNat (i + 1))) := ⟨_, rfl⟩
      have hpV : pageV (pg1 (UInt8.ofNat (i + 1))) = .agg pv.toArray := by rw [pg1_v, Hpv.out]
      have HB : Hid (Tryz.prog.built 33 [(0, .int .u8 ((i : Int) + 1))] = some pv.toArray) := by rw [Hpv.out]; exact mv_page i (by omega)
      obtain ⟨s, hr⟩ := hF.room h2 (by omega)
      have hsp := hD.span hI
      obtain ⟨t, hP, hpt⟩ := hX.dPut hM.mem hD (by omega) (by omega) (pg1_len (UInt8.ofNat (i + 1))) hr (by omega)
      rw [hpV] at hpt
      obtain ⟨hF1, h21⟩ := hF.put h2 hr
      have hs24 : s < 24 := by have := hF1.low i (by omega); simpa [updG] using this
      have Hpt := Lib.hid hpt
      have HM := Lib.hid hM; have HH := Lib.hid hH; have HD := Lib.hid hP.de; have HI := Lib.hid (hI.tx hP.tx); have HF := Lib.hid hF1; have H2 := Lib.hid h21
      clear hpt hpV hX hM hH hD hF h2 hI hP hr hF1 h21 hsp
      go_wp2_with (first
        | (refine wpList_build1 (.tmp 49) rfl _ rfl _ HB.out (by rfl) ?_)
        | (go_at_call 10; refine Hpt.out.mono ?_))
      rintro e w3 ⟨v3, rfl, hE3, hX3⟩
      obtain rfl := ErrV.zero hE3
      have hDm := HM.out.isMap hX3
      obtain ⟨wc, T', hput, hXc, hMc⟩ := HM.out.put hX3 (by unfold maxLen; omega) (k := i) (v := s) (by omega) (by omega)
      have e1 : ((i + 1 : Nat) : Int) = (i : Int) + 1 := by omega
      rw [e1] at hput
      have HXc := Lib.hid hXc; have HMc := Lib.hid hMc
      have HHc := Lib.hid (HH.out.put (p := s) hDm (by omega))
      clear hE3 hX3 Hpt HB HM HH hDm hXc hMc e1
      go_wp2
      go_roundg (N - (i + 1))
      case measure => omega
      case rel => exact ⟨i + 1, _, _, _, _, _, _, rfl, by omega, by go_num, HXc.out, HMc.out, HHc.out, HD.out, HF.out, H2.out, HI.out⟩
    · obtain rfl : N = i := by omega
      have hge : ¬ ((N : Int) < (N : Int)) := by omega
      have HX := Lib.hid hX; have HM := Lib.hid hM; have HH := Lib.hid hH; have HD := Lib.hid hD; have HF := Lib.hid hF; have HI := Lib.hid hI
      clear hX hM hH hD hF h2 hI hlt hiN
      have hNz : ¬ ((N : Int) = 0) := by omega
      go_wp2
      go_loopg [64] L (fun m v wr => ∃ (k : Nat) (b : Bk) (hs : List (List UInt8)) (bl : Nat → List UInt8) (f : Nat → Nat) (D : DataW Unit) (T : List (Nat × Obj)) (nn : Nat), m = L - k ∧ k ≤ L ∧ nn ≤ 12 + k ∧ v = .int .i64 k ∧ OwnX b gd g T w wr ∧ MB (x, depO g 3 6) mb T nn D ∧ HasB D f N ∧ De b 3 6 hs bl ∧ Mv hs bl 6 N f ∧ InR b 3 (3 + 5 * 6))
      case atStart => exact ⟨0, b, hs, bl, f, D, T, N, rfl, by omega, by omega, rfl, HX.out, HM.out, HH.out, HD.out, HF.out, HI.out⟩
      case round =>
        rename World => wp
        clear HX HM HH HD HF HI
        obtain ⟨k, b, hs, bl, f, D, T, nn, rfl, hkL, hnn, rfl, hX, hM, hH, hD, hF, hI⟩ := hrel
        by_cases hlt : k < L
        · have hlt' : (k : Int) < (L : Int) := by omega
          have hka : k < zs.length := by rw [HLe.out]; exact hlt
          obtain ⟨bq, oq, hbe, -, hcs⟩ := (HN.out.below hX.bel).resolve_left (by intro h0; rw [h0] at hka; simp at hka)
          subst hbe
          have hcell := hcs k zs[k] (List.getElem?_eq_getElem hka)
          obtain ⟨q, hq⟩ : ∃ q, zs[k] = q := ⟨_, rfl⟩
          rw [hq] at hcell
          obtain ⟨s3, j, r3, c1, c2, c3, hjN⟩ := dp_mod q N (by omega) (by omega)
          obtain ⟨hi64, hu8, hun⟩ := mv_byte (show j < 200 by omega)
          have e1 : ((j + 1 : Nat) : Int) = (j : Int) + 1 := by omega
          have hlk := hM.look hX hH (j := j) hjN (by omega)
          rw [e1] at hlk
          have hfl := hF.low j hjN
          have hfv := hF.live j hjN
          obtain ⟨fj, hfj⟩ : ∃ fj, f j = fj := ⟨_, rfl⟩
          rw [hfj] at hlk hfl hfv
          have hsp := hD.span hI
          clear hcs hq hka
          cases hr : roomL ((fj / 4 : Nat) : Int) hs with
          | none =>
            have Hmv := Lib.hid (hX.dMove_full hM.mem hD (by omega) (by omega) hfl hfv hr)
            clear hX hM hH hD hF hI hr hfl hfv hfj e1
            go_wp2_with (first
              | (go_at_call 11; refine Hmv.out.mono ?_))
            rintro e w3 ⟨v3, rfl, hE3, hX3⟩
            have Hnum := Lib.hid (num_any 20 _ w3 (HL.out.below Hpos.out hX3.bel) hE3)
            have Hb3 := Lib.hid hX3.bel
            clear hE3 hX3 Hmv
            go_wp2_with (first
              | (go_at_call 12; refine Hnum.out.mono ?_))
            rintro e w4 ⟨rfl, hb4⟩
            have Hfin := Lib.hid (Hb3.out.trans (hb4.mono Hb3.out.size))
            clear hb4 Hb3 Hnum
            go_wp2
            go_ret
            exact ⟨rfl, Hfin.out⟩
          | some r =>
            have hr' := hr
            rw [← hfj] at hr'
            obtain ⟨hF1, hnq, hst, hr24⟩ := hF.move hjN hr'
            rw [hfj] at hF1 hnq hst
            obtain ⟨t, hP, hmv⟩ := hX.dMove hM.mem hD (by omega) (by omega) hfl hfv hr (by omega)
            have hnq' : ¬ (((r / 4 : Nat) : Int) = ((fj / 4 : Nat) : Int)) := by omega
            have q1 := quo4 r
            have q2 := quo4 fj
            obtain ⟨A, hA⟩ : ∃ A, r / 4 = A := ⟨_, rfl⟩
            obtain ⟨C, hC⟩ : ∃ C, fj / 4 = C := ⟨_, rfl⟩
            rw [hA] at q1 hnq'
            rw [hC] at q2 hnq'
            have hbq : (wrap64 (A : Int) == wrap64 (C : Int)) = false := by
              rw [IntWalk.wrap64_in _ (by omega), IntWalk.wrap64_in _ (by omega)]
              simpa using hnq'
            have Hmv := Lib.hid hmv
            have HM := Lib.hid hM; have HH := Lib.hid hH; have HD := Lib.hid hP.de; have HI := Lib.hid (hI.tx hP.tx); have HF := Lib.hid hF1; have Hst := Lib.hid hst
            clear hmv hX hM hH hD hF hI hP hF1 hst hr hr' hA hC hnq hfv hsp
            go_wp2_with (first
              | (go_at_call 11; refine Hmv.out.mono ?_))
            rintro e w3 ⟨v3, rfl, hE3, hX3⟩
            obtain rfl := ErrV.zero hE3
            have Hnum := Lib.hid (num_any 0 _ w3 (HL.out.below Hpos.out hX3.bel) hE3)
            have HX3 := Lib.hid hX3
            clear hE3 hX3 Hmv hlk
            go_wp2_with (first
              | (go_at_call 12; refine Hnum.out.mono ?_))
            rintro e w4 ⟨rfl, hb4⟩
            have hX4 := HX3.out.below hb4
            have hlk := HM.out.look hX4 HH.out (j := j) hjN (by omega)
            rw [e1, hfj] at hlk
            have hgt := hX4.dGet HM.out.mem HD.out (by omega) (by omega) (fj : Nat)
            rw [getOf_gone hfl Hst.out] at hgt
            obtain ⟨pz, Hpz⟩ : ∃ pz : List Value, Hid (pz = z64l.map cu8) := ⟨_, rfl⟩
            have hpV : pageV z64l = .agg pz.toArray := by rw [Hpz.out]; rfl
            have hBP : BP pz := ⟨z64l, by decide, by rw [Hpz.out]⟩
            have hz1 : Hid ((Tryz.prog.info? 33).map (·.size) = some pz.toArray.size) := page_size hBP.page
            have hz2 : Hid (pz.toArray.all (·.oneCell') = true) := page_all hBP.page
            have hz3 : Hid (zeros64.size = pz.toArray.size) := by
              have : pz.toArray.size = 64 := by rw [List.size_toArray]; exact hBP.page.1
              rw [this]; exact (rfl : zeros64.size = 64)
            have hgt' : Calls Tryz.prog 13 #[.pointer (some ⟨x, 0, none⟩), .int .i64 (fj : Nat)] w4 (TQ2 (.agg pz.toArray) 23 (fun w' => Below w4.heap.size w4 w')) := hgt.mono fun e w' ⟨v, h1, h2, h3⟩ => ⟨v, by rw [h1, ← hpV], h2, h3⟩
            have Hgt := Lib.hid hgt'
            have HX4 := Lib.hid hX4
            clear hgt hgt' hpV hX4 hb4 HX3 Hnum Hst hcell hBP
            go_wp2_with (first
              | (go_at_call 13; refine Hgt.out.mono ?_))
            rintro e w5 ⟨v5, rfl, hE5, hb5⟩
            have hX5 := HX4.out.below hb5
            obtain ⟨t5, z5, rfl⟩ := hE5.held (by decide)
            clear hb5 Hgt HX4 hlk
            go_upto_region 26 with (first
              | (refine wpList_alloc_arr rfl 33 rfl _ alloc64 ?_)
              | (refine wpList_store_new rfl 33 _ _ rfl w5.heap.size rfl pz.toArray rfl rfl 33 _ hz1.out hz3.out hz2.out ?_))
            have hba : Below w5.heap.size w5 (w5.alloc (.cells pz.toArray 33)) := (Below.refl _ _).alloc (Nat.le_refl _) _
            have hE6 := hE5.below hba
            have hX6 := hX5.below hba
            generalize w5.alloc (.cells pz.toArray 33) = w6 at hba hE6 hX6 ⊢
            obtain ⟨y5, hy5⟩ : ∃ y5, w5.heap.size = y5 := ⟨_, rfl⟩
            try rw [hy5]
            have Hnum2 := Lib.hid (num_any 23 _ w6 (HL.out.below Hpos.out hX6.bel) hE6)
            have HX6 := Lib.hid hX6
            clear hba hE5 hE6 hX5 hX6 hy5 hz1 hz2 hz3
            go_wp2_with (first
              | (go_at_call 12; refine Hnum2.out.mono ?_))
            rintro e w7 ⟨rfl, hb7⟩
            have hX7 := HX6.out.below hb7
            have hDm := HM.out.isMap hX7
            obtain ⟨w8, T', hput, hX8, hM8⟩ := HM.out.put hX7 (by unfold maxLen; omega) (k := j) (v := r) (by omega) (by omega)
            rw [e1] at hput
            have hH8 := HH.out.set (p := r) hDm hjN (by omega)
            obtain ⟨D2, hD2⟩ : ∃ D2, D.put (bkl j) (.lit (.int .i64 (r : Nat))) = D2 := ⟨_, rfl⟩
            rw [hD2] at hM8 hH8
            obtain ⟨f2, hf2⟩ : ∃ f2, updG f j r = f2 := ⟨_, rfl⟩
            rw [hf2] at hH8
            have hF8 := HF.out
            rw [hf2] at hF8
            have hD8 := HD.out
            have hI8 := HI.out
            obtain ⟨b8, hb8⟩ : ∃ b8, ({ b with txn := t } : Bk) = b8 := ⟨_, rfl⟩
            rw [hb8] at hD8 hI8 hX8
            obtain ⟨hs8, hhs8⟩ : ∃ hs8, markL (markL hs r 1) fj 2 = hs8 := ⟨_, rfl⟩
            rw [hhs8] at hD8 hF8
            obtain ⟨bl8, hbl8⟩ : ∃ bl8, updP bl r (bl fj) = bl8 := ⟨_, rfl⟩
            rw [hbl8] at hD8 hF8
            have HX8 := Lib.hid hX8; have HM8 := Lib.hid hM8; have HH8 := Lib.hid hH8; have HF8 := Lib.hid hF8; have HD8 := Lib.hid hD8; have HI8 := Lib.hid hI8; have Hmap := Lib.hid (hM8.map hX8)
            clear hX8 hM8 hH8 hF8 hD8 hI8 hD2 hf2 hb8 hhs8 hbl8 HM HH HD HF HI HX6 hX7 hb7 hDm Hnum2
            go_wp2_with (first
              | (at_range; refine wpList_range_own _ rfl _ 28 rfl 5 3 keyB Tryz.underlying28 (plainElem Tryz.prog 3) mb (nn + 1) D2 rfl Hmap.out ?_; intro w9 hrg hg9 hs9))
            try go_frame
            have hrg' : RgB w9 mb w8.heap.size (nn + 1) D2 (Maps.has D2) (Maps.size D2) := hrg
            obtain ⟨oi, hoi⟩ := hrg'.iter
            have hX9 := HX8.out.holds ((Below.refl _ _).grown hg9 (Nat.le_refl _) (fun k e => by cases e)) (Nat.le_refl _) hoi
            have hTR : ∀ y ∈ T', y.1 ≠ w8.heap.size := fun y hy => by have := HX8.out.arr.lt hy; omega
            obtain ⟨om, hom⟩ : ∃ o, (mb, o) ∈ T' := by obtain ⟨o, e, _⟩ := HM8.out; exact ⟨o, by rw [e]; simp⟩
            clear hrg hoi hg9 hs9
            generalize w8.heap.size = R at hrg' hX9 hTR ⊢
            have Hrg := Lib.hid hrg'; have HX9 := Lib.hid hX9; have HTR := Lib.hid hTR; have Hom := Lib.hid hom
            clear hrg' hX9 hTR hom hput HX8 Hmap
            go_loopg [] (Maps.size D2) (fun gg wr => ∃ (left : Go.Lit → Bool) (o : Obj), RgB wr mb R (nn + 1) D2 left gg ∧ OwnX b8 gd g ((R, o) :: T') w wr)
            case atStart => exact ⟨_, _, Hrg.out, HX9.out⟩
            case round =>
              rename World => wq
              clear Hrg HX9
              obtain ⟨left, o, hrg, hX⟩ := hrel
              have HX := Lib.hid hX; have Hrg := Lib.hid hrg
              clear hX hrg
              go_wp2_with (first
                | (at_next; refine wpList_next_b rfl _ rfl mb R (nn + 1) D2 HH8.out left gk rfl Hrg.out ?_ ?_))
              · unfold Later
                have HXo := Lib.hid (HX.out.sub (fun y hy => List.mem_cons_of_mem _ hy))
                clear Hrg HX
                go_wp2
                go_roundg (L - (k + 1))
                case measure => omega
                case rel => exact ⟨k + 1, b8, hs8, bl8, f2, D2, T', nn + 1, rfl, by omega, by omega, by go_num, HXo.out, HM8.out, HH8.out, HD8.out, HF8.out, HI8.out⟩
              · unfold Later
                intro jn left' wn cnt' hjn hrgn hltn hgrn hen
                obtain ⟨on, hon⟩ := hrgn.iter
                have hXn := HX.out.turnK hgrn hon HTR.out
                have en1 : ((jn + 1 : Nat) : Int) = (jn : Int) + 1 := by omega
                try rw [en1] at hen
                try rw [en1]
                obtain ⟨hi64n, hu8n, hunn⟩ := mv_byte (show jn < 200 by omega)
                have hs4 := HF8.out.low jn hjn
                have hlive := HF8.out.live jn hjn
                have hbl := HF8.out.blk jn hjn
                have hTm : (x, depO g 3 6) ∈ (R, on) :: T' := List.mem_cons_of_mem _ HM8.out.mem
                have hgt := hXn.dGet hTm HD8.out (by omega) (by omega) (f2 jn : Nat)
                rw [getOf_live hs4 hlive, hbl] at hgt
                obtain ⟨fn, hfn⟩ : ∃ fn, f2 jn = fn := ⟨_, rfl⟩
                rw [hfn] at hgt hen
                try rw [hfn]
                obtain ⟨pv, Hpv⟩ : ∃ pv : List Value, Hid (pv = page1 (UInt8.ofNat (jn + 1))) := ⟨_, rfl⟩
                have hpV : pageV (pg1 (UInt8.ofNat (jn + 1))) = .agg pv.toArray := by rw [pg1_v, Hpv.out]
                have hBP : BP pv := by rw [Hpv.out]; exact page1_bytes _
                have HB : Hid (Tryz.prog.built 33 [(0, .int .u8 ((jn : Int) + 1))] = some pv.toArray) := by rw [Hpv.out]; exact mv_page jn (by omega)
                have hgt' : Calls Tryz.prog 13 #[.pointer (some ⟨x, 0, none⟩), .int .i64 (fn : Nat)] wn (TQ2 (.agg pv.toArray) 0 (fun w' => Below wn.heap.size wn w')) := hgt.mono fun e w' ⟨v, h1, h2, h3⟩ => ⟨v, by rw [h1, ← hpV], h2, h3⟩
                have Hgt := Lib.hid hgt'
                have HXn := Lib.hid hXn; have Hrgn := Lib.hid hrgn; have Hltn := Lib.hid hltn
                have hz1 : Hid ((Tryz.prog.info? 33).map (·.size) = some pv.toArray.size) := page_size hBP.page
                have hz2 : Hid (pv.toArray.all (·.oneCell') = true) := page_all hBP.page
                have hz3 : Hid (zeros64.size = pv.toArray.size) := by
                  have : pv.toArray.size = 64 := by rw [List.size_toArray]; exact hBP.page.1
                  rw [this]; exact (rfl : zeros64.size = 64)
                have hneq := fun W => hBP.neq W
                have h64 : pv.length = 64 := hBP.page.1
                clear hgt hgt' hpV hXn hrgn hs4 hlive hbl hfn hgrn hon Hrg HX hTm hltn
                go_wp2_with (first
                  | (go_at_call 13; refine Hgt.out.mono ?_))
                rintro e wg ⟨vg, rfl, hEg, hbg⟩
                obtain rfl := ErrV.zero hEg
                have hXg := HXn.out.below hbg
                clear hEg hbg Hgt hen
                go_upto_region 33 with (first
                  | (refine wpList_alloc_arr rfl 33 rfl _ alloc64 ?_)
                  | (refine wpList_store_new rfl 33 _ _ rfl wg.heap.size rfl pv.toArray rfl rfl 33 _ hz1.out hz3.out hz2.out ?_))
                have hba : Below wg.heap.size wg (wg.alloc (.cells pv.toArray 33)) := (Below.refl _ _).alloc (Nat.le_refl _) _
                have hx1 : (wg.alloc (.cells pv.toArray 33)).heap[wg.heap.size]? = some (.cells pv.toArray 33 (0, 0)) := heap_alloc_new wg _
                have hX4 := hXg.below hba
                generalize wg.alloc (.cells pv.toArray 33) = w4 at hba hx1 hX4 ⊢
                obtain ⟨y, hy⟩ : ∃ y, wg.heap.size = y := ⟨_, rfl⟩
                rw [hy] at hx1 ⊢
                have hl1 := Lib.hid (run_loadAt_mid (P := Tryz.prog) w4 y 0 33 pv _ (fun j v hj => by rw [Nat.zero_add, cell_of_row w4 y j _ _ _ hx1]; simpa using hj) Tryz.underlying33 rfl (by rw [h64]; exact info64))
                have HX4 := Lib.hid hX4
                have Hrg4 := Lib.hid (Hrgn.out.keep HXn.out hX4 (List.mem_cons_of_mem _ Hom.out) List.mem_cons_self)
                clear hy hba hXg hx1 hX4 HXn Hrgn
                go_wp2_with (first
                  | (have _t := hl1; refine wpList_load_page _ rfl y 0 rfl _ hl1.out (by rfl) ?_; clear hl1)
                  | (have _t := HB; refine wpList_build1 (.tmp 130) rfl _ rfl _ HB.out (by rfl) ?_; clear HB))
                go_roundg cnt'
                case measure => exact Hltn.out
                case rel => exact ⟨left', on, Hrg4.out, HX4.out⟩
        · obtain rfl : L = k := by omega
          have hge2 : ¬ ((L : Int) < (L : Int)) := by omega
          have hct := hX.dCount hM.mem hD (by omega) (by omega)
          rw [hF.cnt] at hct
          obtain ⟨dd, hdd⟩ : ∃ dd, cntA 2 hs = dd := ⟨_, rfl⟩
          obtain ⟨ff, hff⟩ : ∃ ff, cntA 0 hs = ff := ⟨_, rfl⟩
          rw [hdd, hff] at hct
          have Hct := Lib.hid hct
          have Hbel := Lib.hid hX.bel
          clear hct hX hM hH hD hF hI hdd hff
          go_wp2_with (first
            | (go_at_call 14; refine Hct.out.mono ?_))
          rintro e w3 ⟨rfl, hb3⟩
          have Hfin := Lib.hid (Hbel.out.trans (hb3.mono Hbel.out.size))
          clear hb3 Hct
          go_wp2
          go_ret
          exact ⟨rfl, Hfin.out⟩
end Go.Proofs.YtmkkooccokifnaaGreatDoor
