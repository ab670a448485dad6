/-
  'RadixFull': its walk.
-/
import Derived.Test.YtfagnbjjffjcbaaGreatDoorRxFullM
import Derived.Test.YtfagnbjjffjcbaaGreatDoorRxSetAt
import Derived.Test.YtfagnbjjffjcbaaGreatDoorRxNone
set_option linter.unusedSimpArgs false
set_option linter.unusedVariables false
namespace Go.Proofs.YtfagnbjjffjcbaaGreatDoor
open Go.RowKit Sh Go.Maps Go.Extern.Stop Go.Stop Go.Extern

theorem FullSet {b : Bk} {gd g N x lun : Nat} {T : List (Nat × Obj)} {w0 w : World} {v : Nat → Nat} (hX : OwnX b gd g T w0 w) (hm : (x, foO g 2 N) ∈ T) (hF : Fo b 2 N v) (hN : N ≤ 20) (hT : b.txn = []) (hl : lun < 4) (G R k : Nat) (hG : G < 16) (hR : R < 16) (hk : k ≤ 60) :
    Calls Tryz.prog 19 #[.pointer (some ⟨x, 0, none⟩), .int .i64 lun, .int .i64 (16 * (G : Int) + (R : Int)), .int .i64 ((k : Int) + 1)] w (SetP b gd g T w0 2 N v (lun * 256 + (16 * G + R)) (k + 1)) := by
  have h := rSet_any hX hm hF (by omega) (by omega) (by rw [hT]; simp) lun (16 * G + R) (k + 1) hl (by omega) (by omega)
  have e1 : ((16 * G + R : Nat) : Int) = 16 * (G : Int) + (R : Int) := by omega
  have e2 : ((k + 1 : Nat) : Int) = (k : Int) + 1 := by omega
  rw [e1, e2] at h
  exact h
attribute [local irreducible] bk1 bk0
set_option maxRecDepth 100000 in
set_option maxHeartbeats 16000000 in
theorem radixFull_any (nI lunI : Int) (bp : Option Addr) (zs : List Int) (cap : Nat) (w : World) (hL : Laid w) (hN : Nums w.heap.size w bp zs) (hn : zs.length ≤ 9223372036854775807) :
    Calls Tryz.prog 8 #[.int .i64 nI, .int .i64 lunI, .slice bp zs.length cap] w fun e w' => e = .returned (.bool true) ∧ Below w.heap.size w w' := by
  have hpos := hL.pos
  obtain ⟨s1, nm, r1, a1, a2, a3, a4⟩ := rx_mod nI 16 (by omega) (by omega)
  obtain ⟨s2, lun, r2, b1, b2, b3, b4⟩ := rx_mod lunI 4 (by omega) (by omega)
  have n4 : ((4 : Nat) : Int) = 4 := rfl
  have n16 : ((16 : Nat) : Int) = 16 := rfl
  rw [n16] at a1 a2 a3
  rw [n4] at b1 b2 b3
  have A1 := Lib.hid a1; have A2 := Lib.hid a2; have A3 := Lib.hid a3; have B1 := Lib.hid b1; have B2 := Lib.hid b2; have B3 := Lib.hid b3
  clear a1 a2 a3 b1 b2 b3
  obtain ⟨N, hNe⟩ : ∃ N, nm + 2 = N := ⟨_, rfl⟩
  have HNe := Lib.hid (show (nm : Int) + 2 = (N : Int) by omega)
  have hN2 : 2 ≤ N := by omega
  have hN17 : N ≤ 17 := by omega
  obtain ⟨L, hLe⟩ : ∃ L, zs.length = L := ⟨_, rfl⟩
  rw [hLe] at hn ⊢
  have HLe := Lib.hid hLe
  obtain ⟨hf0, hc0, ht0⟩ := fo300 N (by omega)
  have Hf0 := Lib.hid hf0; have Hc0 := Lib.hid hc0; have Ht0 := Lib.hid ht0
  have hfr0 := fun (w1 : World) (hb1 : Below w.heap.size w w1) => fresh9_any N (by omega) (by omega) w w1 hb1
  have eN : (N : Int) = (nm : Int) + 2 := by omega
  rw [eN] at hfr0
  have Hfr := Lib.hid hfr0
  have HN := Lib.hid hN; have HL0 := Lib.hid hL
  have a1 := A1.out; have a2 := A2.out; have a3 := A3.out; have b1 := B1.out; have b2 := B2.out; have b3 := B3.out
  have hmm := @run_makeMap Tryz.prog
  clear n4 n16 hf0 hc0 ht0 hNe hLe A1 A2 A3 B1 B2 B3 hfr0 eN hN hL
  go_enter Tryz.func8, Tryz.ntmps8
  go_wp2_with (first
    | (go_at_call 13; refine (stands9_any _).mono ?_; rintro e w1 ⟨rfl, hb1⟩)
    | (go_at_call 14; refine (Hfr.out w1 hb1).mono ?_))
  rintro e w2 ⟨gd, g, x, rfl, hX0⟩
  have hxl : x < w2.heap.size := hX0.arr.lt (x := (x, foO g 2 N)) (by simp)
  have hX1 := hX0.add (.map #[] 0)
  have hS1 := SetAt.made w2
  have HX1 := Lib.hid hX1; have HS1 := Lib.hid hS1
  have Hxm := Lib.hid (show x ≠ w2.heap.size by omega)
  clear hb1 hX0 Hfr a1 a2 a3 b1 b2 b3 hX1 hS1 hxl
  go_wp2
  rw [HNe.out]
  have hX1 := HX1.out; have hS1 := HS1.out; have hxm := Hxm.out
  clear HX1 HS1 Hxm
  generalize w2.alloc (.map #[] 0) = w3 at hX1 hS1 ⊢
  obtain ⟨mb, hmb⟩ : ∃ mb, w2.heap.size = mb := ⟨_, rfl⟩
  rw [hmb] at hX1 hS1 hxm ⊢
  have HX1 := Lib.hid hX1; have HS1 := Lib.hid hS1; have Hxm := Lib.hid hxm
  clear hmb hX1 hS1 hxm hmm
  go_loopg [36] L (fun m q wr => ∃ (k d : Nat) (b : Bk) (o : Obj) (S : Nat → Bool) (v : Nat → Nat), m = L - k ∧ k ≤ L ∧ k ≤ 60 ∧ d ≤ k ∧ q = .int .i64 k ∧ OwnX b gd g [(mb, o), (x, foO g 2 N)] w wr ∧ Fo b 2 N v ∧ Co b 300 d ∧ b.txn = [] ∧ SetAt mb S (cntS S 16) wr ∧ Grp S lun v)
  case atStart => exact ⟨0, 0, _, _, _, _, rfl, by omega, by omega, by omega, rfl, HX1.out, Hf0.out, Hc0.out, Ht0.out, HS1.out, Grp.none⟩
  case round =>
    clear HX1 Hf0 Hc0 Ht0 HS1
    obtain ⟨k, d, b, o, S, v, rfl, hkL, hk60, hdk, rfl, hX, hF, hC, hT, hS, hG⟩ := hrel
    by_cases hlt : k < L
    case neg =>
      have hlt' : ¬ ((k : Int) < (L : Int)) := by omega
      have Hb := Lib.hid hX.bel
      clear hX hF hC hT hS hG
      go_wp2
      go_ret
      exact ⟨rfl, Hb.out⟩
    have hlt' : (k : Int) < (L : Int) := by omega
    have hka : k < zs.length := by rw [HLe.out]; exact hlt
    have hNr := HN.out.below hX.bel
    obtain ⟨bq, oq, hbe, hbq, hcs⟩ := hNr.resolve_left (by intro h0; rw [h0] at hka; simp at hka)
    subst hbe
    have hcell := hcs k zs[k] (List.getElem?_eq_getElem hka)
    obtain ⟨q, hq⟩ : ∃ q, zs[k] = q := ⟨_, rfl⟩
    rw [hq] at hcell
    have Hb := Lib.hid hX.bel
    clear hcs hq hNr hka
    by_cases h60 : k = 60
    · subst h60
      clear hX hF hC hT hS hG
      go_wp2
      go_ret
      exact ⟨rfl, Hb.out⟩
    have h60' : ¬ ((k : Int) = 60) := by omega
    obtain ⟨s3, G, r3, c1, c2, c3, hG16⟩ := rx_mod q 16 (by omega) (by omega)
    have n16 : ((16 : Nat) : Int) = 16 := rfl
    rw [n16] at c1 c2 c3
    have C1 := Lib.hid c1; have C2 := Lib.hid c2; have C3 := Lib.hid c3
    clear c1 c2 c3 n16
    obtain ⟨R, hR⟩ : ∃ R, k % 16 = R := ⟨_, rfl⟩
    have hR16 : R < 16 := by omega
    have HkR := Lib.hid (show (k : Int).tmod 16 = (R : Int) by rw [Int.tmod_eq_emod_of_nonneg (by omega)]; omega)
    have Hs := Lib.hid (FullSet (x := x) hX (by simp) hF (by omega) hT b4 G R k hG16 hR16 hk60)
    have hG' := hG.set b4 hG16 hR16 (show k + 1 ≠ 0 by omega)
    have HG := Lib.hid hG; have HG' := Lib.hid hG'
    have hmr := hX.at_ (x := (mb, o)) (by simp)
    have HX := Lib.hid hX; have HF := Lib.hid hF; have HC := Lib.hid hC; have HT := Lib.hid hT; have HS := Lib.hid hS; have Hmr := Lib.hid hmr
    obtain ⟨X, hXe⟩ : ∃ X, lun * 256 + (16 * G + R) = X := ⟨_, rfl⟩
    rw [hXe] at Hs HG'
    have hcl := cntS_le S 16
    have c1 := C1.out; have c2 := C2.out; have c3 := C3.out; have hkR := HkR.out
    have Hlt := Lib.hid hlt
    clear hR hG hG' hX hF hC hT hS hmr hXe hlt C1 C2 C3 HkR
    go_wp2_with (first
      | (go_at_call 19; refine Hs.out.mono ?_))
    clear c1 c2 c3 hkR h60' hcell
    rintro e wa ⟨u, rfl, hor⟩
    rcases hor with ⟨hE, t, hXa, hFa, hla⟩ | ⟨hE, hov, hXa⟩
    · have hcap := hFa.rep.cap
      obtain rfl := ErrV.zero hE
      have hSa := HS.out.of_block ((hXa.at_ (x := (mb, o)) (by simp)).trans Hmr.out.symm)
      rw [HT.out] at hla
      have HXa := Lib.hid hXa; have HFa := Lib.hid hFa; have Hla := Lib.hid hla; have HSa := Lib.hid hSa; have Hcap := Lib.hid hcap
      clear hE hXa hFa hla hSa hcap Hs
      cases hSG : S G with
      | true =>
        have hlk := HSa.out.look G (by omega)
        rw [hSG] at hlk
        have hln := fun ty => HSa.out.len ty
        have hpos1 : 1 ≤ cntS S 16 := by exact cntS_pos hSG 16 hG16
        have hcS : cntS (insS G S) 16 = cntS S 16 := cntS_ins_in hSG
        have htk := HG'.out.taken b4 (by rw [hcS]; exact hpos1)
        rw [hcS] at htk
        have HcS := Lib.hid hcS; have Htk := Lib.hid htk
        obtain ⟨c, hc⟩ : ∃ c, cntS S 16 = c := ⟨_, rfl⟩
        rw [hc] at HSa HcS Htk hln hpos1 hcl
        have hc16 : c ≤ 100 := by omega
        clear hc hcS htk
        go_wp2_with (first
          | (refine wpList_store_set rfl _ _ _ rfl HSa.out hc16 G (by omega) rfl rfl rfl ?_; intro wb HSb HGb))
        have HSb := HSb.out; have HGb := HGb.out
        clear hlk hln
        obtain ⟨o2, ho2⟩ : ∃ o2, wb.heap[mb]? = some o2 := by obtain ⟨_, _, ⟨es, cl, h, _⟩, _⟩ := HSb; exact ⟨_, h⟩
        have hXb := HXa.out.setHead (o' := o2) (fun y hy => by rw [List.mem_singleton.1 hy]; exact Hxm.out) HGb ho2
        obtain ⟨b2, hF2, hC2, hT2, hcm⟩ := hXb.commFo HFa.out (HC.out.txn t) (by omega) (by have := Hla.out; show t.length ≤ 4; simp at this; omega)
        rw [hSG] at HSb
        have HSb2 : Hid (SetAt mb (insS G S) (c) wb) := Lib.hid (by have h := HSb; simp at h; exact h)
        have Hcm := Lib.hid hcm; have HF2 := Lib.hid hF2; have HC2 := Lib.hid hC2; have HT2 := Lib.hid hT2; have Ho2 := Lib.hid ho2
        clear HSb HGb hXb hcm hF2 hC2 hT2 ho2 HXa HFa HSa
        go_wp2_with (first
          | (go_at_call 20; refine Hcm.out.mono ?_))
        rintro e wc ⟨u2, rfl, hE2, hXc⟩
        obtain rfl := ErrV.zero hE2
        have hSc := HSb2.out.of_block ((hXc.at_ (x := (mb, o2)) (by simp)).trans Ho2.out.symm)
        have hnd := rNodes_any hXc (x := x) (by simp) HF2.out (by omega) (by omega)
        rw [Htk.out, Int.natCast_add] at hnd
        have Hnd := Lib.hid hnd; have HXc := Lib.hid hXc; have HSc := Lib.hid hSc; have Hmc := Lib.hid (hXc.at_ (x := (mb, o2)) (by simp))
        clear hE2 hXc hSc hnd Hcm HSb2 Ho2
        go_wp2_with (first
          | (go_at_call 16; refine Hnd.out.mono ?_))
        rintro e wd ⟨u3, rfl, hE3, hbd⟩
        obtain rfl := ErrV.zero hE3
        have hXd := HXc.out.below hbd
        have hSd := HSc.out.of_block ((hXd.at_ (x := (mb, o2)) (by simp)).trans Hmc.out.symm)
        have hln := fun ty => hSd.len ty
        have HXd := Lib.hid hXd; have HSd := Lib.hid hSd
        have hk1 := Hlt.out
        clear hE3 hbd hXd hSd Hnd HXc HSc
        go_wp2
        go_roundg (L - (k + 1))
        case measure => omega
        case rel => exact ⟨k + 1, d + 1, b2, o2, insS G S, _, rfl, by omega, by omega, by omega, by go_num, HXd.out, HF2.out, HC2.out, HT2.out, by rw [HcS.out]; exact HSd.out, HG'.out⟩
      | false =>
        have hlk := HSa.out.look G (by omega)
        rw [hSG] at hlk
        have hln := fun ty => HSa.out.len ty
        have hpos1 : 1 ≤ cntS S 16 + 1 := by omega
        have hcS : cntS (insS G S) 16 = cntS S 16 + 1 := cntS_ins_out hG16 hSG
        have htk := HG'.out.taken b4 (by rw [hcS]; exact hpos1)
        rw [hcS] at htk
        have hroom : ((cntS S 16 : Nat) : Int) + 1 < (N : Int) := by have := Hcap.out; rw [htk] at this; omega
        have HcS := Lib.hid hcS; have Htk := Lib.hid htk
        obtain ⟨c, hc⟩ : ∃ c, cntS S 16 = c := ⟨_, rfl⟩
        rw [hc] at HSa HcS Htk hln hpos1 hcl hroom
        have hc16 : c ≤ 100 := by omega
        clear hc hcS htk
        go_wp2_with (first
          | (refine wpList_store_set rfl _ _ _ rfl HSa.out hc16 G (by omega) rfl rfl rfl ?_; intro wb HSb HGb))
        have HSb := HSb.out; have HGb := HGb.out
        clear hlk hln hroom
        obtain ⟨o2, ho2⟩ : ∃ o2, wb.heap[mb]? = some o2 := by obtain ⟨_, _, ⟨es, cl, h, _⟩, _⟩ := HSb; exact ⟨_, h⟩
        have hXb := HXa.out.setHead (o' := o2) (fun y hy => by rw [List.mem_singleton.1 hy]; exact Hxm.out) HGb ho2
        obtain ⟨b2, hF2, hC2, hT2, hcm⟩ := hXb.commFo HFa.out (HC.out.txn t) (by omega) (by have := Hla.out; show t.length ≤ 4; simp at this; omega)
        rw [hSG] at HSb
        have HSb2 : Hid (SetAt mb (insS G S) (c + 1) wb) := Lib.hid (by have h := HSb; simp at h; exact h)
        have Hcm := Lib.hid hcm; have HF2 := Lib.hid hF2; have HC2 := Lib.hid hC2; have HT2 := Lib.hid hT2; have Ho2 := Lib.hid ho2
        clear HSb HGb hXb hcm hF2 hC2 hT2 ho2 HXa HFa HSa
        go_wp2_with (first
          | (go_at_call 20; refine Hcm.out.mono ?_))
        rintro e wc ⟨u2, rfl, hE2, hXc⟩
        obtain rfl := ErrV.zero hE2
        have hSc := HSb2.out.of_block ((hXc.at_ (x := (mb, o2)) (by simp)).trans Ho2.out.symm)
        have hnd := rNodes_any hXc (x := x) (by simp) HF2.out (by omega) (by omega)
        rw [Htk.out, Int.natCast_add] at hnd
        have Hnd := Lib.hid hnd; have HXc := Lib.hid hXc; have HSc := Lib.hid hSc; have Hmc := Lib.hid (hXc.at_ (x := (mb, o2)) (by simp))
        clear hE2 hXc hSc hnd Hcm HSb2 Ho2
        go_wp2_with (first
          | (go_at_call 16; refine Hnd.out.mono ?_))
        rintro e wd ⟨u3, rfl, hE3, hbd⟩
        obtain rfl := ErrV.zero hE3
        have hXd := HXc.out.below hbd
        have hSd := HSc.out.of_block ((hXd.at_ (x := (mb, o2)) (by simp)).trans Hmc.out.symm)
        have hln := fun ty => hSd.len ty
        have HXd := Lib.hid hXd; have HSd := Lib.hid hSd
        have hk1 := Hlt.out
        clear hE3 hbd hXd hSd Hnd HXc HSc
        go_wp2
        go_roundg (L - (k + 1))
        case measure => omega
        case rel => exact ⟨k + 1, d + 1, b2, o2, insS G S, _, rfl, by omega, by omega, by omega, by go_num, HXd.out, HF2.out, HC2.out, HT2.out, by rw [HcS.out]; exact HSd.out, HG'.out⟩
    · have hSG : S G = false := by
        cases h : S G with
        | false => rfl
        | true =>
          exfalso
          have h1 := HG.out.taken b4 (cntS_pos h 16 hG16)
          have h2 := HF.out.rep.cap
          have h3 := HG'.out.taken b4 (by rw [cntS_ins_in h]; exact cntS_pos h 16 hG16)
          rw [cntS_ins_in h] at h3
          omega
      have htk := HG'.out.taken b4 (by rw [cntS_ins_out hG16 hSG]; omega)
      rw [cntS_ins_out hG16 hSG] at htk
      have hno : ¬ (((cntS S 16 : Nat) : Int) + 1 < (N : Int)) := by omega
      have hSa := HS.out.of_block ((hXa.at_ (x := (mb, o)) (by simp)).trans Hmr.out.symm)
      have hlk := hSa.look G (by omega)
      rw [hSG] at hlk
      have hln := fun ty => hSa.len ty
      obtain ⟨c, hc⟩ : ∃ c, cntS S 16 = c := ⟨_, rfl⟩
      rw [hc] at hno hln hcl
      have hnd : decide (((c : Nat) : Int) + 1 < (N : Int)) = false := decide_eq_false hno
      have hnl : (N : Int) ≤ ((c : Nat) : Int) + 1 := by omega
      have hLa := HL0.out.below hpos hXa.bel
      have Hnum := Lib.hid (num9 22 u wa hLa hE)
      have heq := hE.eqNil
      have hnq := hE.neqNil
      have e22 : decide ((22 : Int) = 0) = false := by decide
      rw [e22] at heq hnq
      obtain ⟨tt, zz, rfl⟩ := hE.held (by decide)
      have HXa := Lib.hid hXa; have HSa := Lib.hid hSa; have Hc := Lib.hid hc
      clear hov htk hXa hSa hLa hE e22 hc Hs hno
      go_wp2_with (first
        | (go_at_call 28; refine Hnum.out.mono ?_))
      rintro e wb ⟨rfl, hbb⟩
      have hXb := HXa.out.below hbb
      have hSb := HSa.out.of_block ((hXb.at_ (x := (mb, o)) (by simp)).trans (HXa.out.at_ (x := (mb, o)) (by simp)).symm)
      have hun := hXb.undo
      rw [txn_same HT.out] at hun
      have Hun := Lib.hid hun; have HSb := Lib.hid hSb; have Hmb := Lib.hid (hXb.at_ (x := (mb, o)) (by simp))
      clear hbb hXb hSb hun HXa HSa Hnum hlk hln hnd hnl heq
      go_wp2_with (first
        | (go_at_call 26; refine Hun.out.mono ?_))
      rintro e wc ⟨rfl, hXc⟩
      have hSc := HSb.out.of_block ((hXc.at_ (x := (mb, o)) (by simp)).trans Hmb.out.symm)
      have HXc := Lib.hid hXc; have HSc := Lib.hid hSc
      have hk1 := Hlt.out
      clear hXc hSc Hun HSb Hmb hnq
      go_wp2
      go_roundg (L - (k + 1))
      case measure => omega
      case rel => exact ⟨k + 1, d, b, o, S, v, rfl, by omega, by omega, by omega, by go_num, HXc.out, HF.out, HC.out, HT.out, HSc.out, HG.out⟩
end Go.Proofs.YtfagnbjjffjcbaaGreatDoor
