/-
  'RadixApart': its walk.
-/
import Derived.Test.YtfagnbjjffjcbaaGreatDoorRxLaw
set_option linter.unusedSimpArgs false
set_option linter.unusedVariables false
namespace Go.Proofs.YtfagnbjjffjcbaaGreatDoor
open Go.RowKit Sh Go.Maps Go.Extern.Stop Go.Stop Go.Extern

def apV (lun step xx : Nat) : Nat → Nat → Nat
  | 0 => fun _ => 0
  | c + 1 => setV (apV lun step xx c) (lun * 256 + c * step) (xx + c * step)
theorem apV_at {lun step xx : Nat} (hs : 0 < step) : ∀ c i, apV lun step xx c (lun * 256 + i) = if i % step = 0 ∧ i / step < c then xx + i else 0
  | 0, i => by rw [if_neg (fun h => absurd h.2 (Nat.not_lt_zero _))]; rfl
  | c + 1, i => by
    show (if lun * 256 + i = lun * 256 + c * step then xx + c * step else apV lun step xx c (lun * 256 + i)) = _
    by_cases e : i = c * step
    · rw [if_pos (by omega), if_pos ⟨by rw [e]; exact Nat.mul_mod_left _ _, by rw [e, Nat.mul_div_cancel _ hs]; omega⟩]
      omega
    · rw [if_neg (by omega), apV_at hs c i]
      by_cases h : i % step = 0 ∧ i / step < c
      · rw [if_pos h, if_pos ⟨h.1, by omega⟩]
      · rw [if_neg h, if_neg (fun h2 => h ⟨h2.1, by
          have := Nat.div_add_mod i step
          rw [h2.1, Nat.add_zero] at this
          have : i / step ≠ c := fun ec => e (by rw [← this, ec, Nat.mul_comm])
          have := h2.2
          omega⟩)]
theorem apV_out {lun step xx : Nat} : ∀ c, (∀ d, d < c → d * step < 256) → ∀ z, z / 256 ≠ lun → apV lun step xx c z = 0
  | 0, _, _, _ => rfl
  | c + 1, hc, z, hz => by
    show (if z = lun * 256 + c * step then xx + c * step else apV lun step xx c z) = 0
    have := hc c (by omega)
    rw [if_neg (by omega)]
    exact apV_out c (fun d hd => hc d (by omega)) z hz
attribute [local irreducible] bk1 bk0
set_option maxRecDepth 100000 in
set_option maxHeartbeats 16000000 in
theorem radixApart_any (lunI stepI xI : Int) (w : World) :
    Calls Tryz.prog 5 #[.int .i64 lunI, .int .i64 stepI, .int .i64 xI] w fun e w' => e = .returned (.bool true) ∧ Below w.heap.size w w' := by
  obtain ⟨s1, lun, r1, a1, a2, a3, a4⟩ := rx_mod lunI 4 (by omega) (by omega)
  obtain ⟨s2, st, r2, b1, b2, b3, b4⟩ := rx_mod stepI 40 (by omega) (by omega)
  obtain ⟨s3, x0, r3, c1, c2, c3, c4⟩ := rx_mod xI 1000 (by omega) (by omega)
  obtain ⟨step, hst⟩ : ∃ s, st + 1 = s := ⟨_, rfl⟩
  obtain ⟨xx, hxx⟩ : ∃ s, x0 + 1 = s := ⟨_, rfl⟩
  have Hst := Lib.hid (show (st : Int) + 1 = (step : Int) by omega)
  have Hxx := Lib.hid (show (x0 : Int) + 1 = (xx : Int) by omega)
  have n4 : ((4 : Nat) : Int) = 4 := rfl
  have n40 : ((40 : Nat) : Int) = 40 := rfl
  have n1000 : ((1000 : Nat) : Int) = 1000 := rfl
  rw [n4] at a1 a2 a3
  rw [n40] at b1 b2 b3
  rw [n1000] at c1 c2 c3
  have A2 := Lib.hid a2; have B2 := Lib.hid b2; have C2 := Lib.hid c2
  have A1 := Lib.hid a1; have B1 := Lib.hid b1; have C1 := Lib.hid c1; have A3 := Lib.hid a3; have B3 := Lib.hid b3; have C3 := Lib.hid c3
  clear a1 a2 a3 b1 b2 b3 c1 c2 c3
  have hs1 : 1 ≤ step := by omega
  have hs40 : step ≤ 40 := by omega
  have hx1 : 1 ≤ xx := by omega
  have hx1000 : xx ≤ 1000 := by omega
  obtain ⟨hf0, hc0, ht0⟩ := fo300 90 (by omega)
  have Hf0 := Lib.hid hf0; have Hc0 := Lib.hid hc0; have Ht0 := Lib.hid ht0
  have Hfr := Lib.hid (fun (w1 : World) (hb1 : Below w.heap.size w w1) => fresh9_any 90 (by omega) (by omega) w w1 hb1)
  have a1 := A1.out; have a2 := A2.out; have a3 := A3.out; have b1 := B1.out; have b2 := B2.out; have b3 := B3.out; have c1 := C1.out; have c2 := C2.out; have c3 := C3.out
  clear n4 n40 n1000 hf0 hc0 ht0 hst hxx A1 A2 A3 B1 B2 B3 C1 C2 C3
  go_enter Tryz.func5, Tryz.ntmps5
  go_wp2_with (first
    | (go_at_call 13; refine (stands9_any _).mono ?_; rintro e w1 ⟨rfl, hb1⟩)
    | (go_at_call 14; refine (Hfr.out w1 hb1).mono ?_))
  rintro e w2 ⟨gd, g, x, rfl, hX0⟩
  have HX0 := Lib.hid hX0
  clear hb1 hX0 Hfr a1 a2 a3 b1 b2 b3 c1 c2 c3
  go_wp2
  rw [Hst.out, Hxx.out]
  clear Hst Hxx
  go_loopg [9] 300 (fun m v wr => ∃ (c j : Nat) (b : Bk), j = c * step ∧ m = 300 - j ∧ j < 296 ∧ v = .int .i64 j ∧ OwnX b gd g [(x, foO g 2 90)] w wr ∧ Fo b 2 90 (apV lun step xx c) ∧ Co b 300 c ∧ b.txn = [] ∧ c ≤ 296 ∧ ∀ d, d < c → d * step < 256)
  case atStart => exact ⟨0, 0, _, by omega, rfl, by omega, rfl, HX0.out, Hf0.out, Hc0.out, Ht0.out, by omega, fun d hd => by omega⟩
  case round =>
    clear HX0 Hf0 Hc0 Ht0
    obtain ⟨c, j, b, hj, rfl, hj296, rfl, hX, hF, hC, hT, hc296, hd⟩ := hrel
    have Hd := Lib.hid hd; have Hj := Lib.hid hj
    clear hd hj
    by_cases hlt : j < 256
    · have hlt' : (j : Int) < 256 := by omega
      have hcj : c ≤ 255 := by
        have : c * 1 ≤ c * step := Nat.mul_le_mul_left c hs1
        have := Hj.out
        omega
      have hs := rSet_any hX (x := x) (by simp) hF (by omega) (by omega) (by rw [hT]; simp) lun j (xx + j) a4 hlt (by omega)
      rw [Int.natCast_add] at hs
      have hj2 : j + step < 296 := by omega
      have hm2 : 300 - (j + step) < 300 - j := by omega
      have Hs := Lib.hid hs
      have HC := Lib.hid hC; have HT := Lib.hid hT
      have Hj2 := Lib.hid hj2; have Hm2 := Lib.hid hm2; have Hcj := Lib.hid hcj; have Hc296 := Lib.hid hc296
      clear hs hX hF hC hT hj2 hm2 hcj hc296
      go_wp2_with (first
        | (go_at_call 19; refine Hs.out.mono ?_))
      rintro e w3 ⟨u, rfl, hor⟩
      obtain ⟨hE, t, hX3, hF3, hl3⟩ := hor.resolve_right (fun h => by have h1 := h.2.1; have h2 := takenO_le (setV (apV lun step xx c) (lun * 256 + j) (xx + j)) 4; omega)
      obtain rfl := ErrV.zero hE
      rw [HT.out] at hl3
      obtain ⟨b', hF', hC', hT', hcm⟩ := hX3.commFo hF3 (HC.out.txn t) (by have := Hc296.out; omega) (by show t.length ≤ 4; simp at hl3; omega)
      have Hcm := Lib.hid hcm
      have HF' := Lib.hid hF'; have HC' := Lib.hid hC'; have HT' := Lib.hid hT'
      clear hor hE hX3 hF3 hl3 hcm hF' hC' hT' Hs
      go_wp2_with (first
        | (go_at_call 20; refine Hcm.out.mono ?_))
      rintro e w4 ⟨u2, rfl, hE2, hX4⟩
      obtain rfl := ErrV.zero hE2
      have HX4 := Lib.hid hX4
      clear hE2 hX4 Hcm
      go_wp2
      go_roundg (300 - (j + step))
      case measure => exact Hm2.out
      case rel =>
        have hcj := Hcj.out
        refine ⟨c + 1, j + step, b', by rw [Hj.out, Nat.succ_mul], rfl, Hj2.out, by go_num, HX4.out, ?_, HC'.out, HT'.out, by omega, fun d hd => ?_⟩
        · have := HF'.out
          rw [Hj.out] at this
          exact this
        · by_cases e : d = c
          · rw [e, ← Hj.out]; exact hlt
          · exact Hd.out d (by omega)
    · have hlt' : ¬ ((j : Int) < 256) := by omega
      have Hv := Lib.hid (show ∀ i, i < 256 → apV lun step xx c (lun * 256 + i) = if i % step = 0 then xx + i else 0 from fun i hi => by
        rw [apV_at (by omega)]
        have : i / step < c := by rw [Nat.div_lt_iff_lt_mul (by omega), ← Hj.out]; omega
        simp [this])
      have Ho := Lib.hid (fun z hz => apV_out (lun := lun) (step := step) (xx := xx) c Hd.out z hz)
      obtain ⟨V, hV⟩ : ∃ V, apV lun step xx c = V := ⟨_, rfl⟩
      rw [hV] at hF Hv Ho
      have HX := Lib.hid hX; have HF := Lib.hid hF
      have hl2 : ∃ l2 : Nat, (wrap64 ((lun : Int) + 1)).tmod 4 = (l2 : Int) ∧ l2 < 4 ∧ l2 ≠ lun := by
        refine ⟨(lun + 1) % 4, ?_, by omega, by omega⟩
        rw [IntWalk.wrap64_in _ (by omega), Int.tmod_eq_emod_of_nonneg (by omega)]
        omega
      obtain ⟨l2, hl2a, hl2b, hl2c⟩ := hl2
      rw [IntWalk.wrap64_in _ (by omega)] at hl2a
      have HL2 := Lib.hid hl2a
      clear hl2a
      clear hX hF hV Hd Hj hC hT
      go_wp2
      go_loopg [53] 256 (fun m v wr => ∃ i : Nat, m = 256 - i ∧ i ≤ 256 ∧ v = .int .i64 i ∧ OwnX b gd g [(x, foO g 2 90)] w wr)
      case atStart => exact ⟨0, rfl, by omega, rfl, HX.out⟩
      case round =>
        clear HX
        rename World => wq
        obtain ⟨i, rfl, hi, rfl, hX⟩ := hrel
        by_cases hil : i < 256
        · have hil' : (i : Int) < 256 := by omega
          have hg1 := rGet_any hX (x := x) (by simp) HF.out (by omega) (by omega) lun i a4 hil
          rw [Hv.out i hil] at hg1
          have Hg1 := Lib.hid hg1; have HX1 := Lib.hid hX
          have hg2a := Ho.out (l2 * 256 + i) (by omega)
          have hmd : ((i : Int)).tmod (step : Int) = ((i % step : Nat) : Int) := by rw [Int.tmod_eq_emod_of_nonneg (by omega), Int.natCast_emod]
          have hs0 : ¬ ((step : Int) = 0) := by omega
          clear hg1 hX
          by_cases hm0 : i % step = 0
          · rw [if_pos hm0] at Hg1
            rw [hm0] at hmd
            rw [Int.natCast_add] at Hg1
            clear hm0
            go_wp2_with (first
              | (go_at_call 21; refine Hg1.out.mono ?_))
            rintro e w3 ⟨u, rfl, hE, hb3⟩
            obtain rfl := ErrV.zero hE
            have hX3 := HX1.out.below hb3
            have hg2 := rGet_any hX3 (x := x) (by simp) HF.out (by omega) (by omega) l2 i hl2b hil
            rw [hg2a] at hg2
            have Hg2 := Lib.hid hg2; have HX3 := Lib.hid hX3
            have hl2a := HL2.out
            clear hE hb3 hX3 hg2 Hg1 HX1
            go_wp2_with (first
              | (go_at_call 21; refine Hg2.out.mono ?_))
            rintro e w4 ⟨u4, rfl, hE4, hb4⟩
            obtain rfl := ErrV.zero hE4
            have HX4 := Lib.hid (HX3.out.below hb4)
            clear hE4 hb4 Hg2 HX3 hl2a
            go_wp2
            go_roundg (256 - (i + 1))
            case measure => omega
            case rel => exact ⟨i + 1, rfl, by omega, by go_num, HX4.out⟩
          · rw [if_neg hm0] at Hg1
            obtain ⟨M, hM⟩ : ∃ M, i % step = M := ⟨_, rfl⟩
            rw [hM] at hmd hm0
            have hM0 : ¬ ((M : Int) = 0) := by omega
            clear hM hm0
            go_wp2_with (first
              | (go_at_call 21; refine Hg1.out.mono ?_))
            rintro e w3 ⟨u, rfl, hE, hb3⟩
            obtain rfl := ErrV.zero hE
            have hX3 := HX1.out.below hb3
            have hg2 := rGet_any hX3 (x := x) (by simp) HF.out (by omega) (by omega) l2 i hl2b hil
            rw [hg2a] at hg2
            have Hg2 := Lib.hid hg2; have HX3 := Lib.hid hX3
            have hl2a := HL2.out
            clear hE hb3 hX3 hg2 Hg1 HX1
            go_wp2_with (first
              | (go_at_call 21; refine Hg2.out.mono ?_))
            rintro e w4 ⟨u4, rfl, hE4, hb4⟩
            obtain rfl := ErrV.zero hE4
            have HX4 := Lib.hid (HX3.out.below hb4)
            clear hE4 hb4 Hg2 HX3 hl2a
            go_wp2
            go_roundg (256 - (i + 1))
            case measure => omega
            case rel => exact ⟨i + 1, rfl, by omega, by go_num, HX4.out⟩
        · obtain rfl : i = 256 := by omega
          have Hb := Lib.hid hX.bel
          clear hX
          go_wp2
          go_ret
          exact ⟨rfl, Hb.out⟩
end Go.Proofs.YtfagnbjjffjcbaaGreatDoor
