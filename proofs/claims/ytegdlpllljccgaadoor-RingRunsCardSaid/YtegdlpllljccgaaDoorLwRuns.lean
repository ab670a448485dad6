/-
  'RingRuns': its walk.
-/
import Derived.Test.YtegdlpllljccgaaDoorLwRuW
set_option linter.unusedSimpArgs false
set_option linter.unusedVariables false
namespace Go.Proofs.YtegdlpllljccgaaDoor
open Go.RowKit Sh Go.Extern.Stop Go.Stop Go.Extern

theorem neq_held {w : World} {n : Int} {v : Value} (h : ErrV w n v) (hn : n ≠ 0) : ∃ t x, v = .iface t x ∧ (∀ W : World, (binOp .neq 32 v .nilIface).run Tryd.prog W = .ok (.bool true) W) := by
  rcases h with ⟨h0, _⟩ | ⟨_, ss, hC⟩
  · exact absurd h0 hn
  · obtain ⟨t, x, rfl⟩ := hC.iface
    exact ⟨t, x, rfl, fun W => run_neq_held_nil W 32 t x Tryd.methodsError⟩
def RunR (B gd gk g q n : Nat) (wa : World) (c : Nat) (wr : World) : Prop :=
  ∃ (F G : Nat → Prop) (S : St) (m : Mk) (used : Nat), RuW B gd gk g q n F G S S m used m used wr ∧ OpS 300 S c ∧ RingOk 3 n m used ∧ m.last.length = 32 ∧ Below B wa wr
set_option maxRecDepth 100000 in
set_option maxHeartbeats 16000000 in
theorem ringRuns_any (pl : Int) (num : Nat) (last : List UInt8) (hlast : last.length = 32) (hnum : num < 18446744073709551616) (hpl : -9223372036854775808 ≤ pl ∧ pl ≤ 9223372036854775807) (bp : Option Addr) (l : List (Int × Int)) (cap : Nat) (w : World) (h63 : l.length ≤ 9223372036854775807) (hC : PairsAt w.heap.size w bp l) (h0 : bp = none → l.length = 0 ∧ cap = 0) (hI : ∀ q ∈ l, InInt q)
    (a b : Int) (ha : -9223372036854775808 ≤ a ∧ a ≤ 9223372036854775807) (hb : -9223372036854775808 ≤ b ∧ b ≤ 9223372036854775807) (hL : Laid w) :
    Calls Tryd.prog 3 #[.agg (markI pl num last).toArray, .slice bp l.length cap, .agg #[.int .i64 a, .int .i64 b]] w fun e w' => e = .returned (.bool true) ∧ Below w.heap.size w w' := by
  obtain ⟨L, hLn⟩ : ∃ L, l.length = L := ⟨_, rfl⟩
  rw [hLn] at h0 h63 ⊢
  obtain ⟨mvp, Hmv⟩ : ∃ mv : List Value, Hid (mv = markI pl num last) := ⟨_, rfl⟩
  rw [← Hmv.out]
  have hmvl : mvp.length = 34 := by rw [Hmv.out]; simp [markI, hlast]
  have hmi : Hid ((Tryd.prog.info? 25).map (·.size) = some mvp.toArray.size) := by rw [List.size_toArray, hmvl]; exact infoPMark
  have hbA : Below w.heap.size w ((w.alloc (.cells mvp.toArray 25)).alloc (.cells #[.int .i64 a, .int .i64 b] 27)) := ((Below.refl _ _).alloc (Nat.le_refl _) _).alloc (by simp) _
  have hxA : ((w.alloc (.cells mvp.toArray 25)).alloc (.cells #[.int .i64 a, .int .i64 b] 27)).heap[w.heap.size]? = some (.cells mvp.toArray 25 (0, 0)) := by
    rw [Below.heap_alloc _ _ _ (by simp)]; exact heap_alloc_new w _
  have hyA : ((w.alloc (.cells mvp.toArray 25)).alloc (.cells #[.int .i64 a, .int .i64 b] 27)).heap[w.heap.size + 1]? = some (.cells #[.int .i64 a, .int .i64 b] 27 (0, 0)) := by
    have := heap_alloc_new (w.alloc (.cells mvp.toArray 25)) (.cells #[.int .i64 a, .int .i64 b] 27)
    simpa using this
  have hszA : ((w.alloc (.cells mvp.toArray 25)).alloc (.cells #[.int .i64 a, .int .i64 b] 27)).heap.size = w.heap.size + 2 := by simp
  have hpos := hL.pos
  have hLd := hL.below hpos hbA
  clear hmvl
  go_enter Tryd.func3, Tryd.ntmps3
  go_upto_region 1 with (fail)
  try simp only [World.size_alloc]
  generalize (w.alloc (.cells mvp.toArray 25)).alloc (.cells #[.int .i64 a, .int .i64 b] 27) = wa at hbA hxA hyA hszA hLd ⊢
  obtain ⟨mb, hmb⟩ : ∃ x, w.heap.size = x := ⟨_, rfl⟩
  rw [hmb] at hbA hxA hyA hszA hC ⊢
  obtain ⟨B, hB⟩ : ∃ B, mb + 2 = B := ⟨_, rfl⟩
  obtain ⟨hb1, hhb⟩ : ∃ x, mb + 1 = x := ⟨_, rfl⟩
  rw [hhb] at hyA ⊢
  have hwa : wa.heap.size = B := by rw [hszA, hB]
  have hCw : ∀ W, Below B wa W → PairsAt mb W bp l := fun W hW => hC.below (hbA.trans (hW.mono (by omega)))
  have hMw : ∀ W, Below B wa W → W.heap[mb]? = some (.cells mvp.toArray 25 (0, 0)) := fun W hW => (hW.block mb (by omega)).trans hxA
  have hFin : ∀ W, Below B wa W → Below w.heap.size w W := fun W hW => by rw [hmb]; exact hbA.trans (hW.mono (by omega))
  have hLw : ∀ W, Below B wa W → Laid W := fun W hW => hLd.below (by omega) hW
  have HCw := Lib.hid hCw; have HMw := Lib.hid hMw; have HFin := Lib.hid hFin; have HLw := Lib.hid hLw; have HI := Lib.hid hI; have HLn := Lib.hid hLn
  have c0 : wa.cell? ⟨hb1, 0, none⟩ = some (.int .i64 a) := by rw [cell_of_row wa hb1 0 _ _ _ hyA]; rfl
  have c1 : wa.cell? ⟨hb1, 1, none⟩ = some (.int .i64 b) := by rw [cell_of_row wa hb1 1 _ _ _ hyA]; rfl
  clear hCw hMw hFin hLw hC hxA hyA hbA hL hLd hI hLn hmb hszA
  have hMark : ∀ W, Calls Tryd.prog 16 #[.agg mvp.toArray] W (AggPost (fun r => r = mvp.toArray) W) := fun W => by rw [Hmv.out]; exact lmark_any pl num last hlast W
  have HMark := Lib.hid hMark
  clear hMark
  go_quiet (fail)
  have hbq : Below B wa (wa.drewN nq) := below_drewN wa nq _
  generalize wa.drewN nq = wb at hbq ⊢
  clear c0 c1
  go_wp2_with (go_at_call 10; refine (stands_any _).mono ?_)
  rintro e w1 ⟨rfl, hbs⟩
  have hb1' : Below B wa w1 := hbq.trans (hbs.mono (by have := hbq.size; omega))
  have hfew := few_any bp L cap
  obtain ⟨bf, hbf⟩ : ∃ bf, decide (L ≤ 40) = bf := ⟨_, rfl⟩
  clear hbq hbs
  cases bf with
  | false =>
    have hL40 : ¬ L ≤ 40 := of_decide_eq_false hbf
    go_wp2_with (go_at_call 11; refine (hfew (by omega) w1).mono ?_)
    rintro e w2 ⟨rfl, rfl⟩
    rw [hbf]
    go_wp2
    go_ret
    exact ⟨rfl, HFin.out _ hb1'⟩
  | true =>
    have hL40 : L ≤ 40 := of_decide_eq_true hbf
    go_wp2_with (go_at_call 11; refine (hfew (by omega) w1).mono ?_)
    rintro e w2 ⟨rfl, rfl⟩
    rw [hbf]
    clear hbf hfew
    go_wp2_with (go_at_call 12; refine (pd_new 300 (by omega) (by omega) _).mono ?_)
    rintro e w2 ⟨v, rfl, gd, F1, rfl, hP1, hb2, hF1⟩
    have s1 := hb1'.size
    rw [hwa] at s1
    have hb02 := hb1'.trans (hb2.mono s1)
    have s2 := hb02.size
    rw [hwa] at s2
    go_wp2_with (go_at_call 13; refine (rd_new 300 (by omega) (by omega) _).mono ?_)
    rintro e w3 ⟨v, rfl, gk, G1, rfl, hR1, hb3, hG1⟩
    have hb03 := hb02.trans (hb3.mono s2)
    have s3 := hb03.size
    rw [hwa] at s3
    have hP3 := hP1.below hb3
    have hsep : ∀ j, F1 j → ¬ G1 j := fun j hf hg => by have := hP1.lt hf; have := hG1 j hg; omega
    have hS0 : OpS 300 (newS 300) 0 := OpS.new (by omega) (by omega)
    have hlF : ∀ j, F1 j → B ≤ j := fun j hj => by have := hF1 j hj; omega
    have hlG : ∀ j, G1 j → B ≤ j := fun j hj => by have := hG1 j hj; omega
    have HM3 := Lib.hid (HMw.out w3 hb03)
    clear hb1' hb2 hb02 hP1 hb3 hF1 hG1
    by_cases hbad : a < 96 ∨ 4096 < a ∨ (300 : Int) - a < 3 ∨ pl < 0 ∨ a ≤ pl
    · have hop : Calls Tryd.prog 14 #[.pointer (some ⟨gd, 0, none⟩), .int .i64 3, .int .i64 a, .agg mvp.toArray] w3 (BadP 1 w3) := by
        rw [Hmv.out]
        exact open_bad (.pointer (some ⟨gd, 0, none⟩)) 300 (by omega) (fun W' hW' => ((pd_size (hP3.below hW')).mono fun e w' h => ⟨by rw [h.1, newS_len], h.2.symm⟩)) 3 a pl num last (by omega) (by omega)
      have hrop : ∀ W, Below w3.heap.size w3 W → Calls Tryd.prog 15 #[.pointer (some ⟨gk, 0, none⟩), .int .i64 3, .int .i64 a, .agg mvp.toArray] W (RBadP W) := fun W hW => by
        rw [Hmv.out]
        exact ropen_bad (hR1.below hW) (good_new 300 (by omega) (by omega)) 3 a pl num last (by omega) (by rw [newS_len]; omega)
      have Hop := Lib.hid hop; have Hrop := Lib.hid hrop
      clear hop hrop hbad hP3 hR1 hsep hS0 hlF hlG
      go_wp2_with (first
        | (refine wpList_load_row rfl 25 _ rfl mb rfl 25 mvp.toArray (0, 0) _ HM3.out Tryd.underlying25 rfl hmi.out ?_)
        | (go_at_call 14; refine Hop.out.mono ?_))
      rintro e w4 ⟨v4, rfl, hE4, hb4⟩
      have hb04 := hb03.trans (hb4.mono s3)
      have HM4 := Lib.hid (HMw.out w4 hb04)
      go_wp2_with (first
        | (refine wpList_load_row rfl 25 _ rfl mb rfl 25 mvp.toArray (0, 0) _ HM4.out Tryd.underlying25 rfl hmi.out ?_)
        | (go_at_call 16; refine (HMark.out _).mono ?_))
      rintro e w5 ⟨rm, hrm, rfl, hb5⟩
      obtain rfl := hrm.out
      have hb35 := hb4.trans (hb5.mono hb4.size)
      go_wp2_with (go_at_call 15; refine (Hrop.out w5 hb35).mono ?_)
      rintro e w6 ⟨rfl, hb6⟩
      have hb36 := hb35.trans (hb6.mono hb35.size)
      have hb06 := hb03.trans (hb36.mono s3)
      have hE6 := (hE4.below hb5).below hb6
      obtain ⟨t6, x6, rfl, hneq⟩ := neq_held hE6 (by decide)
      have Hnum := Lib.hid (num_any 1 (.iface t6 x6) w6 (HLw.out _ hb06) hE6)
      have s6 := hb06.size
      rw [hwa] at s6
      clear Hop Hrop hE4 hE6 hb4 hb5 hb6 hb35 hb36 hb04 HM3 HM4 hrm
      go_wp2_with (go_at_call 17; refine Hnum.out.mono ?_)
      rintro e w7 ⟨rfl, hb7⟩
      have hb07 := hb06.trans (hb7.mono s6)
      go_wp2
      go_ret
      exact ⟨rfl, HFin.out _ hb07⟩
    · obtain ⟨n, rfl⟩ : ∃ n : Nat, a = (n : Int) := ⟨a.toNat, by omega⟩
      obtain ⟨p, rfl⟩ : ∃ p : Nat, pl = (p : Int) := ⟨pl.toNat, by omega⟩
      obtain ⟨m0, hm0⟩ : ∃ m : Mk, m = ⟨p, num, last⟩ := ⟨_, rfl⟩
      have hmc : mvp = markCells m0 := by rw [Hmv.out, hm0]; rfl
      have hin : 3 + n ≤ 300 := by omega
      have hn96 : 96 ≤ n := by omega
      obtain ⟨al, m1, used1, hal, hO1, hla1, hop, hrop⟩ := open_rings hS0 (by omega) 3 n m0 hin hn96 (by omega) (by rw [hm0]; show p < n; omega) (by rw [hm0]; exact hnum) (by rw [hm0]; exact hlast)
      rw [← hmc] at hop hrop
      have k3 : ((3 : Nat) : Int) = 3 := rfl
      rw [k3] at hop hrop
      have Hop := Lib.hid (hop w3 F1 gd hP3)
      have Hrop := Lib.hid hrop
      clear hop hrop k3 hbad hm0 hmc
      obtain ⟨AL, hAL⟩ : ∃ AL, al.length = AL := ⟨_, rfl⟩
      rw [hAL] at Hop
      go_wp2_with (first
        | (refine wpList_load_row rfl 25 _ rfl mb rfl 25 mvp.toArray (0, 0) _ HM3.out Tryd.underlying25 rfl hmi.out ?_)
        | (go_at_call 14; refine Hop.out.mono ?_))
      rintro e w4 ⟨g, ap4, cp4, rfl, hg4, hring4, hrv4, hb4⟩
      have hb04 := hb03.trans (hb4.mono s3)
      have HM4 := Lib.hid (HMw.out w4 hb04)
      go_wp2_with (first
        | (refine wpList_load_row rfl 25 _ rfl mb rfl 25 mvp.toArray (0, 0) _ HM4.out Tryd.underlying25 rfl hmi.out ?_)
        | (go_at_call 16; refine (HMark.out _).mono ?_))
      rintro e w5 ⟨rm, hrm, rfl, hb5⟩
      obtain rfl := hrm.out
      have hb35 := hb4.trans (hb5.mono hb4.size)
      have Hrop5 := Lib.hid (Hrop.out w5 G1 gk (hR1.below hb35))
      rw [hAL] at Hrop5
      go_wp2_with (go_at_call 15; refine Hrop5.out.mono ?_)
      rintro e w6 ⟨q, ap6, cp6, rfl, hq6, href6, hrv6, hb6⟩
      have hb36 := hb35.trans (hb6.mono hb35.size)
      have hb06 := hb03.trans (hb36.mono s3)
      have hrv46 := ((hrv4.below hb5).mono hb5.size |>.below hb6).mono hb6.size
      have hW6 : RuW B gd gk g q n F1 G1 (newS 300) (newS 300) m1 used1 m1 used1 w6 := {
        pd := hP3.below hb36
        rd := hR1.below hb36
        ring := (hring4.below hb5).below hb6
        ref := href6
        sep := hsep
        ng := ⟨fun h => by have := hP3.lt h; omega, fun h => by have := hR1.lt h; omega, by have := hring4.lt; have := hb5.size; omega⟩
        nq := ⟨fun h => by have := hP3.lt h; have := hb35.size; omega, fun h => by have := hR1.lt h; have := hb35.size; omega⟩
        lowF := hlF
        lowG := hlG
        low := ⟨by omega, by have := hb35.size; omega⟩ }
      have HW6 := Lib.hid hW6
      clear Hop Hrop Hrop5 hrv4 hb4 hb5 hb6 hb35 hb36 hb04 HM3 HM4 hrm hring4 href6 hg4 hq6 hlF hlG hsep hP3 hR1 hW6
      by_cases hA0 : AL = 0
      case neg =>
        have hA1 : ¬ (AL : Int) = 0 := by omega
        have hsm := same_any al al ap4 ap6 cp4 cp6 w6 hrv46 hrv6 ⟨by omega, by omega⟩
        rw [decide_eq_true rfl, hAL] at hsm
        have Hsm := Lib.hid hsm
        have hle6 := HW6.out.le
        clear hsm hrv46 hrv6
        go_wp2_with (go_at_call 18; refine Hsm.out.mono ?_)
        rintro e w10 ⟨rfl, hb10⟩
        have hbel10 := hb06.trans (hb10.mono hle6)
        clear Hsm
        go_wp2
        go_ret
        exact ⟨rfl, HFin.out _ hbel10⟩
      case pos =>
        subst hA0
        have hA1 : ((0 : Nat) : Int) = 0 := rfl
        have hR0 : RunR B gd gk g q n wa (65 * 0) w6 := ⟨F1, G1, newS 300, m1, used1, HW6.out, hS0, hO1, hla1, hb06⟩
        have HR0 := Lib.hid hR0
        clear hR0 HW6 hrv46 hrv6 hb06 hO1 hla1 hS0 hb03 s1 s2 s3 hal hAL
        go_wp2
        go_loopg [88] L (fun gg i wr => ∃ (k : Nat), k ≤ L ∧ gg = L - k ∧ i = .int .i64 k ∧ RunR B gd gk g q n wa (65 * k) wr)
        case atStart => exact ⟨0, by omega, by omega, rfl, HR0.out⟩
        case round =>
          clear HR0
          obtain ⟨k, hk, rfl, rfl, F, G, S, m, used, hW, hS, hO, hla, hbel⟩ := hrel
          by_cases hlt : k < L
          · have hlt' : (k : Int) < L := by omega
            obtain ⟨⟨a0, a1⟩, hqq⟩ : ∃ p, l[k]? = some p := ⟨_, List.getElem?_eq_getElem (by rw [HLn.out]; exact hlt)⟩
            have hin2 : InInt (a0, a1) := HI.out _ (List.mem_of_getElem? hqq)
            have hCk := HCw.out _ hbel
            obtain ⟨bb, o, rfl, _, hcs⟩ := hCk.resolve_left (fun h => by rw [h] at hqq; simp at hqq)
            obtain ⟨hp0, hp1⟩ := hcs k _ hqq
            obtain ⟨pc, Hpc⟩ : ∃ pc : List Value, Hid (pc = [.int .i64 a0, .int .i64 a1]) := ⟨_, rfl⟩
            have hrg : wr.rangeAt bb (o + k * 2) pc := by
              rw [Hpc.out]
              intro j u hj
              match j, hj with
              | 0, hj => rw [← hj]; exact hp0
              | 1, hj => rw [← hj]; exact hp1
            have Hrg := Lib.hid hrg
            have hci : Hid ((Tryd.prog.info? 27).map (·.size) = some pc.length) := by rw [Hpc.out]; exact infoTwo
            have hci2 : Hid ((Tryd.prog.info? 27).map (·.size) = some pc.toArray.size) := by rw [Hpc.out]; exact infoTwo
            have hcz : Hid ((#[.int .i64 0, .int .i64 0] : Array Value).size = pc.toArray.size) := by show (#[.int .i64 0, .int .i64 0] : Array Value).size = pc.toArray.size; rw [Hpc.out]; rfl
            have hcone : Hid (pc.toArray.all (·.oneCell') = true) := by rw [Hpc.out]; exact all_oneCell_toArray (fun u hu => by simp only [List.mem_cons, List.not_mem_nil, or_false] at hu; rcases hu with rfl | rfl <;> rfl)
            have hbx : Below wr.heap.size wr (wr.alloc (.cells pc.toArray 27)) := (Below.refl _ _).alloc (Nat.le_refl _) _
            have hxx : (wr.alloc (.cells pc.toArray 27)).heap[wr.heap.size]? = some (.cells pc.toArray 27 (0, 0)) := heap_alloc_new wr _
            have hWx := hW.below hbx
            have hbelx := hbel.trans (hbx.mono hW.le)
            clear hp0 hp1 hqq hrg hW hbel hcs hCk
            go_upto_region 17 with (first
              | (refine wpList_alloc_arr rfl 27 rfl _ allocTwo ?_)
              | (refine wpList_load_mid rfl 27 _ rfl bb (o + k * 2) rfl pc _ Hrg.out Tryd.underlying27 rfl hci.out ?_)
              | (refine wpList_store_new rfl 27 _ _ rfl wr.heap.size rfl pc.toArray rfl rfl 27 _ hci2.out hcz.out hcone.out ?_))
            generalize hwx : wr.alloc (.cells pc.toArray 27) = wx at hbx hxx hWx hbelx ⊢
            obtain ⟨z, hz⟩ : ∃ z, wr.heap.size = z := ⟨_, rfl⟩
            rw [hz] at hxx ⊢
            have c0 : wx.cell? ⟨z, 0, none⟩ = some (.int .i64 a0) := by rw [cell_of_row wx z 0 _ _ _ hxx, Hpc.out]; rfl
            have c1 : wx.cell? ⟨z, 1, none⟩ = some (.int .i64 a1) := by rw [cell_of_row wx z 1 _ _ _ hxx, Hpc.out]; rfl
            clear hz hwx hbx hxx Hrg hci hci2 hcz hcone
            obtain ⟨u1, u2, u3, u4⟩ := mod_in a0 64 (by omega)
            obtain ⟨t1, ht1⟩ : ∃ t, a0.tmod 64 = t := ⟨_, rfl⟩
            rw [ht1] at u1 u2 u3 u4
            obtain ⟨t2, ht2⟩ : ∃ t, t1 + 64 = t := ⟨_, rfl⟩
            rw [ht2] at u3 u4
            obtain ⟨N, ht3⟩ : ∃ i : Nat, t2.tmod 64 = (i : Int) := ⟨(t2.tmod 64).toNat, by omega⟩
            rw [ht3] at u3 u4
            have q1 : IntKind.i64.wrap t1 = t1 := IntWalk.i64_in _ (by omega)
            have q2 : IntKind.i64.wrap (t1 + 64) = t2 := by rw [ht2]; exact IntWalk.i64_in _ (by omega)
            have q2b : IntKind.i64.wrap t2 = t2 := IntWalk.i64_in _ (by omega)
            have q3 : IntKind.i64.wrap (N : Int) = (N : Int) := IntWalk.i64_in _ (by omega)
            have hN63 : N ≤ 63 := by omega
            clear ht2
            obtain ⟨X, hX⟩ : ∃ X, (a1 % 16777216).toNat = X := ⟨_, rfl⟩
            have hX24 : X < 16777216 := by omega
            have hwhat := chgs_what N X
            have hch : ∀ W, Calls Tryd.prog 19 #[.int .i64 N, .int .i64 a1] W (ChgA (chgs N X) N W) := fun W => by
              rw [← hX]
              exact (lchanges_any N (by omega) a1 W).mono fun e W' h => chgA_of (chgs_length N _) (chgs_what N _) h
            obtain ⟨E, S', m', used', hS', hO', hla', hadd, hradd⟩ := add_both hS (by omega) hO hin hla N X hN63 hX24
            obtain ⟨cg, hcg⟩ : ∃ cg, chgs N X = cg := ⟨_, rfl⟩
            have hcgl : cg.length = N := by rw [← hcg, chgs_length]
            rw [hcg] at hch hwhat hadd hradd
            have htd : ∀ (W : World) (ap : Option Addr) (cp : Nat), Chgs W.heap.size W ap cg → Calls Tryd.prog 24 #[.slice ap N cp] W (ChgA cg N W) := fun W ap cp h => by
              have := told_any cg ap cp hwhat (by omega) W h
              rw [hcgl] at this
              exact this.mono fun e W' h => chgA_of hcgl hwhat h
            have Hch := Lib.hid hch; have Htd := Lib.hid htd; have Hadd := Lib.hid hadd; have Hradd := Lib.hid hradd
            clear hch htd hadd hradd hcg hX hX24 hwhat hcgl
            go_wp2_with (go_at_call 19; refine (Hch.out wx).mono ?_)
            rintro e w8 ⟨ap, cp, rfl, hC8, hbl8, hb8⟩
            have hW8 := hWx.below hb8
            have hbel8 := hbelx.trans (hb8.mono hWx.le)
            have hk8 : ∀ b8, ap = some ⟨b8, 0, none⟩ → ¬ (b8 = g ∨ F b8) := fun b8 e h => by
              have h1 := hbl8 b8 e
              rcases h with h | h
              · have := hWx.ring.lt; omega
              · have := hWx.pd.lt h; omega
            clear hb8 hbl8 hbelx hWx Hch c0 c1 q1 q2 q2b q3 ht1 ht3 u1 u2 u3 u4
            go_upto_region 18 with (fail)
            obtain ⟨free, hfree⟩ : ∃ free, n - used = free := ⟨_, rfl⟩
            obtain ⟨free', hfree'⟩ : ∃ free, n - used' = free := ⟨_, rfl⟩
            obtain ⟨T, hT⟩ : ∃ T, takes N = T := ⟨_, rfl⟩
            have hu := hO.used
            have hn4 := hO.n1
            have hu' := hO'.used
            have wS : IntKind.i64.wrap ((n : Int) - (used : Int)) = (free : Int) := by rw [IntWalk.i64_in _ (by omega)]; omega
            have wSb : IntKind.i64.wrap (free : Int) = (free : Int) := IntWalk.i64_in _ (by omega)
            have wS' : IntKind.i64.wrap ((n : Int) - (used' : Int)) = (free' : Int) := by rw [IntWalk.i64_in _ (by omega)]; omega
            have wSb' : IntKind.i64.wrap (free' : Int) = (free' : Int) := IntWalk.i64_in _ (by omega)
            have htk : ∀ W, Calls Tryd.prog 21 #[.int .i64 N] W fun e w' => e = .returned (.int .i64 T) ∧ w' = W := fun W => by rw [← hT]; exact rtakes_any N (by omega) W
            have hfits := fun (W : World) (hWW : Below w8.heap.size w8 W) => fits_any (hW8.below hWW).ring hO N (by omega)
            rw [hfree] at hfits
            have Hfits := Lib.hid hfits
            clear hfits
            obtain ⟨mcv, Hmcv⟩ : ∃ mcv : List Value, Hid (mcv = markCells m') := ⟨_, rfl⟩
            have hmcl : mcv.length = 34 := by rw [Hmcv.out]; simp [markCells, hla']
            have heq : ∀ W : World, (Op.equalIn 10000 46 (.agg mcv.toArray) (.agg mcv.toArray)).run Tryd.prog W = .ok true W := fun W => by
              rw [Hmcv.out, eqMark_ref hla' hla' W, decide_eq_true rfl]
            have hmk : ∀ W, Calls Tryd.prog 16 #[.agg mcv.toArray] W (AggPost (fun r => r = mcv.toArray) W) := fun W => by rw [Hmcv.out, ← markI_nat]; exact lmark_any m'.place m'.num m'.last hla' W
            have hhd : ∀ (W : World), PrAt g gd 3 n m' used' W → Calls Tryd.prog 25 #[.pointer (some ⟨g, 0, none⟩)] W (AggPost (fun r => r = mcv.toArray) W) := fun W h => by rw [Hmcv.out]; exact head_any h
            have hrm : ∀ (W : World), PrAt g gd 3 n m' used' W → Calls Tryd.prog 26 #[.pointer (some ⟨g, 0, none⟩)] W (QuietP (.int .i64 (free' : Int)) W) := fun W h => by rw [← hfree']; exact room_any h hO'
            have hld : ∀ (W : World), RgAt q gk 3 n m' used' W → (Instr.loadAt 46 (.pointer (some ⟨q, 3, none⟩))).run Tryd.prog W = .ok (.agg mcv.toArray) W := fun W h => run_loadAt_mid (P := Tryd.prog) W q 3 46 mcv _ (by rw [Hmcv.out]; exact h.mark) Tryd.underlying46 rfl (by rw [hmcl]; exact infoRMark)
            have Hld := Lib.hid hld
            clear hld
            have Htk := Lib.hid htk; have Hmk := Lib.hid hmk; have Hhd := Lib.hid hhd; have Hrm := Lib.hid hrm; have HW8 := Lib.hid hW8; have Hbel8 := Lib.hid hbel8
            clear htk hmk hhd hrm hmcl hfree hfree' hu hu' hW8 hbel8
            have hno : ¬ (1 ≤ N ∧ N ≤ 60 ∧ T ≤ free) → fitsB free N = false := fun h => by
              cases hc : fitsB free N with
              | false => rfl
              | true => exact absurd (by rw [← hT]; exact (fitsB_iff _ _).1 hc) h
            have hcases : ((N : Int) < 1 ∧ ¬ (1 : Int) ≤ (N : Int) ∧ fitsB free N = false) ∨ ((1 : Int) ≤ (N : Int) ∧ (60 : Int) < (N : Int) ∧ ¬ (N : Int) ≤ 60 ∧ fitsB free N = false) ∨ ((1 : Int) ≤ (N : Int) ∧ (N : Int) ≤ 60 ∧ (T : Int) ≤ (free : Int) ∧ fitsB free N = true) ∨ ((1 : Int) ≤ (N : Int) ∧ (N : Int) ≤ 60 ∧ (free : Int) < (T : Int) ∧ ¬ (T : Int) ≤ (free : Int) ∧ fitsB free N = false) := by
              by_cases h1 : N < 1
              · exact .inl ⟨by omega, by omega, hno (by omega)⟩
              · by_cases h2 : 60 < N
                · exact .inr (.inl ⟨by omega, by omega, by omega, hno (by omega)⟩)
                · by_cases h3 : T ≤ free
                  · exact .inr (.inr (.inl ⟨by omega, by omega, by omega, (fitsB_iff _ _).2 ⟨by omega, by omega, by rw [hT]; exact h3⟩⟩))
                  · exact .inr (.inr (.inr ⟨by omega, by omega, by omega, by omega, hno (by omega)⟩))
            clear hno hT
            refine wp_region_up 28 (fun w' => Below w8.heap.size w8 w') (by kernel_rfl) ?_
            have hA : Below w8.heap.size w8 { w8 with drawn := w8.drawn + 1 } := ⟨rfl, rfl, rfl, Nat.le_refl _, fun _ _ => rfl⟩
            obtain ⟨wd, hdr⟩ : ∃ wd : World, ({ w8 with drawn := w8.drawn + 1 } : World) = wd := ⟨_, rfl⟩
            rw [hdr] at hA ⊢
            clear hdr
            refine up_bar (by kernel_rfl) (by kernel_rfl) (fun hbar => ?_)
            refine upb_takeH hbar (i := 0) (v := .pointer (some ⟨g, 0, none⟩)) rfl (by kernel_rfl) (fun _ _ _ h => h) (Or.inl ⟨by kernel_rfl, ?_⟩) hA ?_
            · intro w' _; go_simp
            try simp only [List.getElem_toArray, List.getElem_cons_succ, List.getElem_cons_zero, Act.put, List.setIfInBounds_toArray, List.set]
            refine upb_takeH hbar (i := 1) (v := .slice ap N cp) rfl (by kernel_rfl) (fun _ _ _ h => h) (Or.inl ⟨by kernel_rfl, ?_⟩) hA ?_
            · intro w' _; go_simp
            try simp only [List.getElem_toArray, List.getElem_cons_succ, List.getElem_cons_zero, Act.put, List.setIfInBounds_toArray, List.set]
            refine upb_takeH hbar (i := 2) (v := .int .i64 N) rfl (by kernel_rfl) (fun _ _ _ h => h) (Or.inl ⟨by kernel_rfl, ?_⟩) hA ?_
            · intro w' _; go_simp
            try simp only [List.getElem_toArray, List.getElem_cons_succ, List.getElem_cons_zero, Act.put, List.setIfInBounds_toArray, List.set]
            refine upb_takeH hbar (i := 4) (v := .slice ap N cp) rfl (by kernel_rfl) (fun _ _ _ h => h) (Or.inl ⟨by kernel_rfl, ?_⟩) hA ?_
            · intro w' _; go_simp
            try simp only [List.getElem_toArray, List.getElem_cons_succ, List.getElem_cons_zero, Act.put, List.setIfInBounds_toArray, List.set]
            refine upb_takeH hbar (i := 5) (v := .int .i64 N) rfl (by kernel_rfl) (fun _ _ _ h => h) (Or.inl ⟨by kernel_rfl, ?_⟩) hA ?_
            · intro w' _; go_simp
            try simp only [List.getElem_toArray, List.getElem_cons_succ, List.getElem_cons_zero, Act.put, List.setIfInBounds_toArray, List.set]
            apply cutF (R := fun _ w => Below w8.heap.size w8 w)
            case walk =>
              intro key
              have hc2 := hcases
              rcases hc2 with ⟨g1, g1', hfb⟩ | ⟨g1, g2, g2', hfb⟩ | ⟨g1, g2, g3, hfb⟩ | ⟨g1, g2, g3, g3', hfb⟩
              · have Hf2 := Hfits
                rw [hfb] at Hf2
                refine upb_takeH hbar (i := 6) (v := .bool false) rfl (by kernel_rfl) (fun _ _ _ h => h) (Or.inl ⟨by kernel_rfl, ?_⟩) hA ?_
                · intro w' _; go_simp
                try simp only [List.getElem_toArray, List.getElem_cons_succ, List.getElem_cons_zero, Act.put, List.setIfInBounds_toArray, List.set]
                refine up_one 3 _ rfl (by kernel_rfl) (by decide) (by kernel_rfl) (fun K hK => ?_)
                go_simp
                refine (Hf2.out _ hA).mono ?_
                rintro e v3 ⟨rfl, mq, rfl⟩
                have hA3 := hA.trans (below_drewN wd mq _)
                generalize wd.drewN mq = v3 at hA3 ⊢
                refine hK _ _ hA3 ?_
                clear hK K
                try simp only [List.getElem_toArray, List.getElem_cons_succ, List.getElem_cons_zero, Act.put, List.setIfInBounds_toArray, List.set]
                refine upb_takeH hbar (i := 7) (v := .bool false) rfl (by kernel_rfl) (fun _ _ _ h => h) (Or.inl ⟨by kernel_rfl, ?_⟩) hA3 ?_
                · intro w' _; go_simp
                try simp only [List.getElem_toArray, List.getElem_cons_succ, List.getElem_cons_zero, Act.put, List.setIfInBounds_toArray, List.set]
                refine upb_takeH hbar (i := 8) (v := undef) rfl (by kernel_rfl) (fun _ _ _ h => h) (Or.inr ⟨by kernel_rfl, rfl⟩) hA3 ?_
                try simp only [List.getElem_toArray, List.getElem_cons_succ, List.getElem_cons_zero, Act.put, List.setIfInBounds_toArray, List.set]
                refine upb_takeH hbar (i := 9) (v := undef) rfl (by kernel_rfl) (fun _ _ _ h => h) (Or.inr ⟨by kernel_rfl, rfl⟩) hA3 ?_
                try simp only [List.getElem_toArray, List.getElem_cons_succ, List.getElem_cons_zero, Act.put, List.setIfInBounds_toArray, List.set]
                refine upb_takeH hbar (i := 10) (v := undef) rfl (by kernel_rfl) (fun _ _ _ h => h) (Or.inr ⟨by kernel_rfl, rfl⟩) hA3 ?_
                try simp only [List.getElem_toArray, List.getElem_cons_succ, List.getElem_cons_zero, Act.put, List.setIfInBounds_toArray, List.set]
                refine upb_takeH hbar (i := 11) (v := .bool false) rfl (by kernel_rfl) (fun _ _ _ h => h) (Or.inl ⟨by kernel_rfl, ?_⟩) hA3 ?_
                · intro w' _; go_simp
                try simp only [List.getElem_toArray, List.getElem_cons_succ, List.getElem_cons_zero, Act.put, List.setIfInBounds_toArray, List.set]
                refine upb_takeH hbar (i := 12) (v := .bool false) rfl (by kernel_rfl) (fun _ _ _ h => h) (Or.inl ⟨by kernel_rfl, ?_⟩) hA3 ?_
                · intro w' _; go_simp
                try simp only [List.getElem_toArray, List.getElem_cons_succ, List.getElem_cons_zero, Act.put, List.setIfInBounds_toArray, List.set]
                refine upb_takeH hbar (i := 13) (v := undef) rfl (by kernel_rfl) (fun _ _ _ h => h) (Or.inr ⟨by kernel_rfl, rfl⟩) hA3 ?_
                try simp only [List.getElem_toArray, List.getElem_cons_succ, List.getElem_cons_zero, Act.put, List.setIfInBounds_toArray, List.set]
                refine upb_takeH hbar (i := 14) (v := undef) rfl (by kernel_rfl) (fun _ _ _ h => h) (Or.inr ⟨by kernel_rfl, rfl⟩) hA3 ?_
                try simp only [List.getElem_toArray, List.getElem_cons_succ, List.getElem_cons_zero, Act.put, List.setIfInBounds_toArray, List.set]
                refine upb_takeH hbar (i := 16) (v := undef) rfl (by kernel_rfl) (fun _ _ _ h => h) (Or.inr ⟨by kernel_rfl, rfl⟩) hA3 ?_
                try simp only [List.getElem_toArray, List.getElem_cons_succ, List.getElem_cons_zero, Act.put, List.setIfInBounds_toArray, List.set]
                refine upb_takeH hbar (i := 17) (v := undef) rfl (by kernel_rfl) (fun _ _ _ h => h) (Or.inr ⟨by kernel_rfl, rfl⟩) hA3 ?_
                try simp only [List.getElem_toArray, List.getElem_cons_succ, List.getElem_cons_zero, Act.put, List.setIfInBounds_toArray, List.set]
                refine upb_takeH hbar (i := 18) (v := undef) rfl (by kernel_rfl) (fun _ _ _ h => h) (Or.inr ⟨by kernel_rfl, rfl⟩) hA3 ?_
                try simp only [List.getElem_toArray, List.getElem_cons_succ, List.getElem_cons_zero, Act.put, List.setIfInBounds_toArray, List.set]
                refine upb_takeH hbar (i := 19) (v := undef) rfl (by kernel_rfl) (fun _ _ _ h => h) (Or.inr ⟨by kernel_rfl, rfl⟩) hA3 ?_
                try simp only [List.getElem_toArray, List.getElem_cons_succ, List.getElem_cons_zero, Act.put, List.setIfInBounds_toArray, List.set]
                refine upb_takeH hbar (i := 20) (v := undef) rfl (by kernel_rfl) (fun _ _ _ h => h) (Or.inr ⟨by kernel_rfl, rfl⟩) hA3 ?_
                try simp only [List.getElem_toArray, List.getElem_cons_succ, List.getElem_cons_zero, Act.put, List.setIfInBounds_toArray, List.set]
                refine upb_takeH hbar (i := 21) (v := undef) rfl (by kernel_rfl) (fun _ _ _ h => h) (Or.inr ⟨by kernel_rfl, rfl⟩) hA3 ?_
                try simp only [List.getElem_toArray, List.getElem_cons_succ, List.getElem_cons_zero, Act.put, List.setIfInBounds_toArray, List.set]
                refine upb_takeH hbar (i := 22) (v := undef) rfl (by kernel_rfl) (fun _ _ _ h => h) (Or.inr ⟨by kernel_rfl, rfl⟩) hA3 ?_
                try simp only [List.getElem_toArray, List.getElem_cons_succ, List.getElem_cons_zero, Act.put, List.setIfInBounds_toArray, List.set]
                refine upb_takeH hbar (i := 23) (v := undef) rfl (by kernel_rfl) (fun _ _ _ h => h) (Or.inr ⟨by kernel_rfl, rfl⟩) hA3 ?_
                try simp only [List.getElem_toArray, List.getElem_cons_succ, List.getElem_cons_zero, Act.put, List.setIfInBounds_toArray, List.set]
                refine upb_takeH hbar (i := 24) (v := undef) rfl (by kernel_rfl) (fun _ _ _ h => h) (Or.inr ⟨by kernel_rfl, rfl⟩) hA3 ?_
                try simp only [List.getElem_toArray, List.getElem_cons_succ, List.getElem_cons_zero, Act.put, List.setIfInBounds_toArray, List.set]
                refine upb_takeH hbar (i := 15) (v := undef) rfl (by kernel_rfl) (fun _ _ _ h => h) (Or.inr ⟨by kernel_rfl, rfl⟩) hA3 ?_
                try simp only [List.getElem_toArray, List.getElem_cons_succ, List.getElem_cons_zero, Act.put, List.setIfInBounds_toArray, List.set]
                refine upb_takeH hbar (i := 25) (v := undef) rfl (by kernel_rfl) (fun _ _ _ h => h) (Or.inr ⟨by kernel_rfl, rfl⟩) hA3 ?_
                try simp only [List.getElem_toArray, List.getElem_cons_succ, List.getElem_cons_zero, Act.put, List.setIfInBounds_toArray, List.set]
                refine upb_takeH hbar (i := 26) (v := .bool false) rfl (by kernel_rfl) (fun _ _ _ h => h) (Or.inl ⟨by kernel_rfl, ?_⟩) hA3 ?_
                · intro w' _; go_simp
                try simp only [List.getElem_toArray, List.getElem_cons_succ, List.getElem_cons_zero, Act.put, List.setIfInBounds_toArray, List.set]
                refine upb_takeH hbar (i := 27) (v := .bool false) rfl (by kernel_rfl) (fun _ _ _ h => h) (Or.inl ⟨by kernel_rfl, ?_⟩) hA3 ?_
                · intro w' _; go_simp
                try simp only [List.getElem_toArray, List.getElem_cons_succ, List.getElem_cons_zero, Act.put, List.setIfInBounds_toArray, List.set]
                refine up_forget [104, 107, 108, 109, 110, 111, 112, 113, 114, 115, 116, 117, 118, 119, 120, 121, 122, 123, 124, 125, 126, 127] (fun f => ?_)
                simp only [List.foldl_cons, List.foldl_nil, List.setIfInBounds_toArray, List.set]
                exact key f v3 hA3
              · have Hf2 := Hfits
                rw [hfb] at Hf2
                refine upb_takeH hbar (i := 6) (v := .bool true) rfl (by kernel_rfl) (fun _ _ _ h => h) (Or.inl ⟨by kernel_rfl, ?_⟩) hA ?_
                · intro w' _; go_simp
                try simp only [List.getElem_toArray, List.getElem_cons_succ, List.getElem_cons_zero, Act.put, List.setIfInBounds_toArray, List.set]
                refine up_one 3 _ rfl (by kernel_rfl) (by decide) (by kernel_rfl) (fun K hK => ?_)
                go_simp
                refine (Hf2.out _ hA).mono ?_
                rintro e v3 ⟨rfl, mq, rfl⟩
                have hA3 := hA.trans (below_drewN wd mq _)
                generalize wd.drewN mq = v3 at hA3 ⊢
                refine hK _ _ hA3 ?_
                clear hK K
                try simp only [List.getElem_toArray, List.getElem_cons_succ, List.getElem_cons_zero, Act.put, List.setIfInBounds_toArray, List.set]
                refine upb_takeH hbar (i := 7) (v := .bool true) rfl (by kernel_rfl) (fun _ _ _ h => h) (Or.inl ⟨by kernel_rfl, ?_⟩) hA3 ?_
                · intro w' _; go_simp
                try simp only [List.getElem_toArray, List.getElem_cons_succ, List.getElem_cons_zero, Act.put, List.setIfInBounds_toArray, List.set]
                refine upb_takeH hbar (i := 8) (v := .slice ap N cp) rfl (by kernel_rfl) (fun _ _ _ h => h) (Or.inl ⟨by kernel_rfl, ?_⟩) hA3 ?_
                · intro w' _; go_simp
                try simp only [List.getElem_toArray, List.getElem_cons_succ, List.getElem_cons_zero, Act.put, List.setIfInBounds_toArray, List.set]
                refine upb_takeH hbar (i := 9) (v := .int .i64 N) rfl (by kernel_rfl) (fun _ _ _ h => h) (Or.inl ⟨by kernel_rfl, ?_⟩) hA3 ?_
                · intro w' _; go_simp
                try simp only [List.getElem_toArray, List.getElem_cons_succ, List.getElem_cons_zero, Act.put, List.setIfInBounds_toArray, List.set]
                refine upb_takeH hbar (i := 10) (v := .bool false) rfl (by kernel_rfl) (fun _ _ _ h => h) (Or.inl ⟨by kernel_rfl, ?_⟩) hA3 ?_
                · intro w' _; go_simp
                try simp only [List.getElem_toArray, List.getElem_cons_succ, List.getElem_cons_zero, Act.put, List.setIfInBounds_toArray, List.set]
                refine upb_takeH hbar (i := 11) (v := .bool false) rfl (by kernel_rfl) (fun _ _ _ h => h) (Or.inl ⟨by kernel_rfl, ?_⟩) hA3 ?_
                · intro w' _; go_simp
                try simp only [List.getElem_toArray, List.getElem_cons_succ, List.getElem_cons_zero, Act.put, List.setIfInBounds_toArray, List.set]
                refine upb_takeH hbar (i := 12) (v := .bool false) rfl (by kernel_rfl) (fun _ _ _ h => h) (Or.inl ⟨by kernel_rfl, ?_⟩) hA3 ?_
                · intro w' _; go_simp
                try simp only [List.getElem_toArray, List.getElem_cons_succ, List.getElem_cons_zero, Act.put, List.setIfInBounds_toArray, List.set]
                refine upb_takeH hbar (i := 13) (v := undef) rfl (by kernel_rfl) (fun _ _ _ h => h) (Or.inr ⟨by kernel_rfl, rfl⟩) hA3 ?_
                try simp only [List.getElem_toArray, List.getElem_cons_succ, List.getElem_cons_zero, Act.put, List.setIfInBounds_toArray, List.set]
                refine upb_takeH hbar (i := 14) (v := undef) rfl (by kernel_rfl) (fun _ _ _ h => h) (Or.inr ⟨by kernel_rfl, rfl⟩) hA3 ?_
                try simp only [List.getElem_toArray, List.getElem_cons_succ, List.getElem_cons_zero, Act.put, List.setIfInBounds_toArray, List.set]
                refine upb_takeH hbar (i := 16) (v := undef) rfl (by kernel_rfl) (fun _ _ _ h => h) (Or.inr ⟨by kernel_rfl, rfl⟩) hA3 ?_
                try simp only [List.getElem_toArray, List.getElem_cons_succ, List.getElem_cons_zero, Act.put, List.setIfInBounds_toArray, List.set]
                refine upb_takeH hbar (i := 17) (v := undef) rfl (by kernel_rfl) (fun _ _ _ h => h) (Or.inr ⟨by kernel_rfl, rfl⟩) hA3 ?_
                try simp only [List.getElem_toArray, List.getElem_cons_succ, List.getElem_cons_zero, Act.put, List.setIfInBounds_toArray, List.set]
                refine upb_takeH hbar (i := 18) (v := undef) rfl (by kernel_rfl) (fun _ _ _ h => h) (Or.inr ⟨by kernel_rfl, rfl⟩) hA3 ?_
                try simp only [List.getElem_toArray, List.getElem_cons_succ, List.getElem_cons_zero, Act.put, List.setIfInBounds_toArray, List.set]
                refine upb_takeH hbar (i := 19) (v := undef) rfl (by kernel_rfl) (fun _ _ _ h => h) (Or.inr ⟨by kernel_rfl, rfl⟩) hA3 ?_
                try simp only [List.getElem_toArray, List.getElem_cons_succ, List.getElem_cons_zero, Act.put, List.setIfInBounds_toArray, List.set]
                refine upb_takeH hbar (i := 20) (v := undef) rfl (by kernel_rfl) (fun _ _ _ h => h) (Or.inr ⟨by kernel_rfl, rfl⟩) hA3 ?_
                try simp only [List.getElem_toArray, List.getElem_cons_succ, List.getElem_cons_zero, Act.put, List.setIfInBounds_toArray, List.set]
                refine upb_takeH hbar (i := 21) (v := undef) rfl (by kernel_rfl) (fun _ _ _ h => h) (Or.inr ⟨by kernel_rfl, rfl⟩) hA3 ?_
                try simp only [List.getElem_toArray, List.getElem_cons_succ, List.getElem_cons_zero, Act.put, List.setIfInBounds_toArray, List.set]
                refine upb_takeH hbar (i := 22) (v := undef) rfl (by kernel_rfl) (fun _ _ _ h => h) (Or.inr ⟨by kernel_rfl, rfl⟩) hA3 ?_
                try simp only [List.getElem_toArray, List.getElem_cons_succ, List.getElem_cons_zero, Act.put, List.setIfInBounds_toArray, List.set]
                refine upb_takeH hbar (i := 23) (v := undef) rfl (by kernel_rfl) (fun _ _ _ h => h) (Or.inr ⟨by kernel_rfl, rfl⟩) hA3 ?_
                try simp only [List.getElem_toArray, List.getElem_cons_succ, List.getElem_cons_zero, Act.put, List.setIfInBounds_toArray, List.set]
                refine upb_takeH hbar (i := 24) (v := undef) rfl (by kernel_rfl) (fun _ _ _ h => h) (Or.inr ⟨by kernel_rfl, rfl⟩) hA3 ?_
                try simp only [List.getElem_toArray, List.getElem_cons_succ, List.getElem_cons_zero, Act.put, List.setIfInBounds_toArray, List.set]
                refine upb_takeH hbar (i := 15) (v := undef) rfl (by kernel_rfl) (fun _ _ _ h => h) (Or.inr ⟨by kernel_rfl, rfl⟩) hA3 ?_
                try simp only [List.getElem_toArray, List.getElem_cons_succ, List.getElem_cons_zero, Act.put, List.setIfInBounds_toArray, List.set]
                refine upb_takeH hbar (i := 25) (v := undef) rfl (by kernel_rfl) (fun _ _ _ h => h) (Or.inr ⟨by kernel_rfl, rfl⟩) hA3 ?_
                try simp only [List.getElem_toArray, List.getElem_cons_succ, List.getElem_cons_zero, Act.put, List.setIfInBounds_toArray, List.set]
                refine upb_takeH hbar (i := 26) (v := .bool false) rfl (by kernel_rfl) (fun _ _ _ h => h) (Or.inl ⟨by kernel_rfl, ?_⟩) hA3 ?_
                · intro w' _; go_simp
                try simp only [List.getElem_toArray, List.getElem_cons_succ, List.getElem_cons_zero, Act.put, List.setIfInBounds_toArray, List.set]
                refine upb_takeH hbar (i := 27) (v := .bool false) rfl (by kernel_rfl) (fun _ _ _ h => h) (Or.inl ⟨by kernel_rfl, ?_⟩) hA3 ?_
                · intro w' _; go_simp
                try simp only [List.getElem_toArray, List.getElem_cons_succ, List.getElem_cons_zero, Act.put, List.setIfInBounds_toArray, List.set]
                refine up_forget [104, 107, 108, 109, 110, 111, 112, 113, 114, 115, 116, 117, 118, 119, 120, 121, 122, 123, 124, 125, 126, 127] (fun f => ?_)
                simp only [List.foldl_cons, List.foldl_nil, List.setIfInBounds_toArray, List.set]
                exact key f v3 hA3
              · have Hf2 := Hfits
                rw [hfb] at Hf2
                refine upb_takeH hbar (i := 6) (v := .bool true) rfl (by kernel_rfl) (fun _ _ _ h => h) (Or.inl ⟨by kernel_rfl, ?_⟩) hA ?_
                · intro w' _; go_simp
                try simp only [List.getElem_toArray, List.getElem_cons_succ, List.getElem_cons_zero, Act.put, List.setIfInBounds_toArray, List.set]
                refine up_one 3 _ rfl (by kernel_rfl) (by decide) (by kernel_rfl) (fun K hK => ?_)
                go_simp
                refine (Hf2.out _ hA).mono ?_
                rintro e v3 ⟨rfl, mq, rfl⟩
                have hA3 := hA.trans (below_drewN wd mq _)
                generalize wd.drewN mq = v3 at hA3 ⊢
                refine hK _ _ hA3 ?_
                clear hK K
                try simp only [List.getElem_toArray, List.getElem_cons_succ, List.getElem_cons_zero, Act.put, List.setIfInBounds_toArray, List.set]
                refine upb_takeH hbar (i := 7) (v := .bool true) rfl (by kernel_rfl) (fun _ _ _ h => h) (Or.inl ⟨by kernel_rfl, ?_⟩) hA3 ?_
                · intro w' _; go_simp
                try simp only [List.getElem_toArray, List.getElem_cons_succ, List.getElem_cons_zero, Act.put, List.setIfInBounds_toArray, List.set]
                refine upb_takeH hbar (i := 8) (v := .slice ap N cp) rfl (by kernel_rfl) (fun _ _ _ h => h) (Or.inl ⟨by kernel_rfl, ?_⟩) hA3 ?_
                · intro w' _; go_simp
                try simp only [List.getElem_toArray, List.getElem_cons_succ, List.getElem_cons_zero, Act.put, List.setIfInBounds_toArray, List.set]
                refine upb_takeH hbar (i := 9) (v := .int .i64 N) rfl (by kernel_rfl) (fun _ _ _ h => h) (Or.inl ⟨by kernel_rfl, ?_⟩) hA3 ?_
                · intro w' _; go_simp
                try simp only [List.getElem_toArray, List.getElem_cons_succ, List.getElem_cons_zero, Act.put, List.setIfInBounds_toArray, List.set]
                refine upb_takeH hbar (i := 10) (v := .bool true) rfl (by kernel_rfl) (fun _ _ _ h => h) (Or.inl ⟨by kernel_rfl, ?_⟩) hA3 ?_
                · intro w' _; go_simp
                try simp only [List.getElem_toArray, List.getElem_cons_succ, List.getElem_cons_zero, Act.put, List.setIfInBounds_toArray, List.set]
                refine upb_takeH hbar (i := 11) (v := .bool true) rfl (by kernel_rfl) (fun _ _ _ h => h) (Or.inl ⟨by kernel_rfl, ?_⟩) hA3 ?_
                · intro w' _; go_simp
                try simp only [List.getElem_toArray, List.getElem_cons_succ, List.getElem_cons_zero, Act.put, List.setIfInBounds_toArray, List.set]
                refine upb_takeH hbar (i := 12) (v := .bool true) rfl (by kernel_rfl) (fun _ _ _ h => h) (Or.inl ⟨by kernel_rfl, ?_⟩) hA3 ?_
                · intro w' _; go_simp
                try simp only [List.getElem_toArray, List.getElem_cons_succ, List.getElem_cons_zero, Act.put, List.setIfInBounds_toArray, List.set]
                refine upb_takeH hbar (i := 13) (v := .slice ap N cp) rfl (by kernel_rfl) (fun _ _ _ h => h) (Or.inl ⟨by kernel_rfl, ?_⟩) hA3 ?_
                · intro w' _; go_simp
                try simp only [List.getElem_toArray, List.getElem_cons_succ, List.getElem_cons_zero, Act.put, List.setIfInBounds_toArray, List.set]
                refine upb_takeH hbar (i := 14) (v := .int .i64 N) rfl (by kernel_rfl) (fun _ _ _ h => h) (Or.inl ⟨by kernel_rfl, ?_⟩) hA3 ?_
                · intro w' _; go_simp
                try simp only [List.getElem_toArray, List.getElem_cons_succ, List.getElem_cons_zero, Act.put, List.setIfInBounds_toArray, List.set]
                refine upb_takeH hbar (i := 16) (v := .pointer (some ⟨q, 0, none⟩)) rfl (by kernel_rfl) (fun _ _ _ h => h) (Or.inl ⟨by kernel_rfl, ?_⟩) hA3 ?_
                · intro w' _; go_simp
                try simp only [List.getElem_toArray, List.getElem_cons_succ, List.getElem_cons_zero, Act.put, List.setIfInBounds_toArray, List.set]
                refine upb_takeH hbar (i := 17) (v := .pointer (some ⟨q, 0, none⟩)) rfl (by kernel_rfl) (fun _ _ _ h => h) (Or.inl ⟨by kernel_rfl, ?_⟩) hA3 ?_
                · intro w' _; go_simp
                try simp only [List.getElem_toArray, List.getElem_cons_succ, List.getElem_cons_zero, Act.put, List.setIfInBounds_toArray, List.set]
                refine upb_takeH hbar (i := 18) (v := .pointer (some ⟨q, 2, none⟩)) rfl (by kernel_rfl) (fun _ _ _ h => h) (Or.inl ⟨by kernel_rfl, ?_⟩) hA3 ?_
                · intro w' _; go_simp
                try simp only [List.getElem_toArray, List.getElem_cons_succ, List.getElem_cons_zero, Act.put, List.setIfInBounds_toArray, List.set]
                refine upb_takeH hbar (i := 19) (v := .int .i64 n) rfl (by kernel_rfl) (fun _ _ _ h => h) (Or.inl ⟨by kernel_rfl, ?_⟩) hA3 ?_
                · intro w' hS'
                  obtain ⟨d0, d1, d2, d3, d4⟩ := RgAt.cells (RuW.below HW8.out hS').ref
                  have d37 := RgAt.cell37 (RuW.below HW8.out hS').ref
                  clear hS'
                  go_simp
                try simp only [List.getElem_toArray, List.getElem_cons_succ, List.getElem_cons_zero, Act.put, List.setIfInBounds_toArray, List.set]
                refine upb_takeH hbar (i := 20) (v := .pointer (some ⟨q, 0, none⟩)) rfl (by kernel_rfl) (fun _ _ _ h => h) (Or.inl ⟨by kernel_rfl, ?_⟩) hA3 ?_
                · intro w' _; go_simp
                try simp only [List.getElem_toArray, List.getElem_cons_succ, List.getElem_cons_zero, Act.put, List.setIfInBounds_toArray, List.set]
                refine upb_takeH hbar (i := 21) (v := .pointer (some ⟨q, 0, none⟩)) rfl (by kernel_rfl) (fun _ _ _ h => h) (Or.inl ⟨by kernel_rfl, ?_⟩) hA3 ?_
                · intro w' _; go_simp
                try simp only [List.getElem_toArray, List.getElem_cons_succ, List.getElem_cons_zero, Act.put, List.setIfInBounds_toArray, List.set]
                refine upb_takeH hbar (i := 22) (v := .pointer (some ⟨q, 37, none⟩)) rfl (by kernel_rfl) (fun _ _ _ h => h) (Or.inl ⟨by kernel_rfl, ?_⟩) hA3 ?_
                · intro w' _; go_simp
                try simp only [List.getElem_toArray, List.getElem_cons_succ, List.getElem_cons_zero, Act.put, List.setIfInBounds_toArray, List.set]
                refine upb_takeH hbar (i := 23) (v := .int .i64 used) rfl (by kernel_rfl) (fun _ _ _ h => h) (Or.inl ⟨by kernel_rfl, ?_⟩) hA3 ?_
                · intro w' hS'
                  obtain ⟨d0, d1, d2, d3, d4⟩ := RgAt.cells (RuW.below HW8.out hS').ref
                  have d37 := RgAt.cell37 (RuW.below HW8.out hS').ref
                  clear hS'
                  go_simp
                try simp only [List.getElem_toArray, List.getElem_cons_succ, List.getElem_cons_zero, Act.put, List.setIfInBounds_toArray, List.set]
                refine upb_takeH hbar (i := 24) (v := .int .i64 free) rfl (by kernel_rfl) (fun _ _ _ h => h) (Or.inl ⟨by kernel_rfl, ?_⟩) hA3 ?_
                · intro w' _; go_simp
                try simp only [List.getElem_toArray, List.getElem_cons_succ, List.getElem_cons_zero, Act.put, List.setIfInBounds_toArray, List.set]
                refine up_one 15 _ rfl (by kernel_rfl) (by decide) (by kernel_rfl) (fun K hK => ?_)
                go_simp
                refine (Htk.out _).mono ?_
                rintro e w' ⟨rfl, hw'⟩
                rw [hw']
                clear hw'
                refine hK _ _ hA3 ?_
                clear hK K
                try simp only [List.getElem_toArray, List.getElem_cons_succ, List.getElem_cons_zero, Act.put, List.setIfInBounds_toArray, List.set]
                refine upb_takeH hbar (i := 25) (v := .bool true) rfl (by kernel_rfl) (fun _ _ _ h => h) (Or.inl ⟨by kernel_rfl, ?_⟩) hA3 ?_
                · intro w' _; go_simp
                try simp only [List.getElem_toArray, List.getElem_cons_succ, List.getElem_cons_zero, Act.put, List.setIfInBounds_toArray, List.set]
                refine upb_takeH hbar (i := 26) (v := .bool true) rfl (by kernel_rfl) (fun _ _ _ h => h) (Or.inl ⟨by kernel_rfl, ?_⟩) hA3 ?_
                · intro w' _; go_simp
                try simp only [List.getElem_toArray, List.getElem_cons_succ, List.getElem_cons_zero, Act.put, List.setIfInBounds_toArray, List.set]
                refine upb_takeH hbar (i := 27) (v := .bool false) rfl (by kernel_rfl) (fun _ _ _ h => h) (Or.inl ⟨by kernel_rfl, ?_⟩) hA3 ?_
                · intro w' _; go_simp
                try simp only [List.getElem_toArray, List.getElem_cons_succ, List.getElem_cons_zero, Act.put, List.setIfInBounds_toArray, List.set]
                refine up_forget [104, 107, 108, 109, 110, 111, 112, 113, 114, 115, 116, 117, 118, 119, 120, 121, 122, 123, 124, 125, 126, 127] (fun f => ?_)
                simp only [List.foldl_cons, List.foldl_nil, List.setIfInBounds_toArray, List.set]
                exact key f v3 hA3
              · have Hf2 := Hfits
                rw [hfb] at Hf2
                refine upb_takeH hbar (i := 6) (v := .bool true) rfl (by kernel_rfl) (fun _ _ _ h => h) (Or.inl ⟨by kernel_rfl, ?_⟩) hA ?_
                · intro w' _; go_simp
                try simp only [List.getElem_toArray, List.getElem_cons_succ, List.getElem_cons_zero, Act.put, List.setIfInBounds_toArray, List.set]
                refine up_one 3 _ rfl (by kernel_rfl) (by decide) (by kernel_rfl) (fun K hK => ?_)
                go_simp
                refine (Hf2.out _ hA).mono ?_
                rintro e v3 ⟨rfl, mq, rfl⟩
                have hA3 := hA.trans (below_drewN wd mq _)
                generalize wd.drewN mq = v3 at hA3 ⊢
                refine hK _ _ hA3 ?_
                clear hK K
                try simp only [List.getElem_toArray, List.getElem_cons_succ, List.getElem_cons_zero, Act.put, List.setIfInBounds_toArray, List.set]
                refine upb_takeH hbar (i := 7) (v := .bool true) rfl (by kernel_rfl) (fun _ _ _ h => h) (Or.inl ⟨by kernel_rfl, ?_⟩) hA3 ?_
                · intro w' _; go_simp
                try simp only [List.getElem_toArray, List.getElem_cons_succ, List.getElem_cons_zero, Act.put, List.setIfInBounds_toArray, List.set]
                refine upb_takeH hbar (i := 8) (v := .slice ap N cp) rfl (by kernel_rfl) (fun _ _ _ h => h) (Or.inl ⟨by kernel_rfl, ?_⟩) hA3 ?_
                · intro w' _; go_simp
                try simp only [List.getElem_toArray, List.getElem_cons_succ, List.getElem_cons_zero, Act.put, List.setIfInBounds_toArray, List.set]
                refine upb_takeH hbar (i := 9) (v := .int .i64 N) rfl (by kernel_rfl) (fun _ _ _ h => h) (Or.inl ⟨by kernel_rfl, ?_⟩) hA3 ?_
                · intro w' _; go_simp
                try simp only [List.getElem_toArray, List.getElem_cons_succ, List.getElem_cons_zero, Act.put, List.setIfInBounds_toArray, List.set]
                refine upb_takeH hbar (i := 10) (v := .bool true) rfl (by kernel_rfl) (fun _ _ _ h => h) (Or.inl ⟨by kernel_rfl, ?_⟩) hA3 ?_
                · intro w' _; go_simp
                try simp only [List.getElem_toArray, List.getElem_cons_succ, List.getElem_cons_zero, Act.put, List.setIfInBounds_toArray, List.set]
                refine upb_takeH hbar (i := 11) (v := .bool true) rfl (by kernel_rfl) (fun _ _ _ h => h) (Or.inl ⟨by kernel_rfl, ?_⟩) hA3 ?_
                · intro w' _; go_simp
                try simp only [List.getElem_toArray, List.getElem_cons_succ, List.getElem_cons_zero, Act.put, List.setIfInBounds_toArray, List.set]
                refine upb_takeH hbar (i := 12) (v := .bool true) rfl (by kernel_rfl) (fun _ _ _ h => h) (Or.inl ⟨by kernel_rfl, ?_⟩) hA3 ?_
                · intro w' _; go_simp
                try simp only [List.getElem_toArray, List.getElem_cons_succ, List.getElem_cons_zero, Act.put, List.setIfInBounds_toArray, List.set]
                refine upb_takeH hbar (i := 13) (v := .slice ap N cp) rfl (by kernel_rfl) (fun _ _ _ h => h) (Or.inl ⟨by kernel_rfl, ?_⟩) hA3 ?_
                · intro w' _; go_simp
                try simp only [List.getElem_toArray, List.getElem_cons_succ, List.getElem_cons_zero, Act.put, List.setIfInBounds_toArray, List.set]
                refine upb_takeH hbar (i := 14) (v := .int .i64 N) rfl (by kernel_rfl) (fun _ _ _ h => h) (Or.inl ⟨by kernel_rfl, ?_⟩) hA3 ?_
                · intro w' _; go_simp
                try simp only [List.getElem_toArray, List.getElem_cons_succ, List.getElem_cons_zero, Act.put, List.setIfInBounds_toArray, List.set]
                refine upb_takeH hbar (i := 16) (v := .pointer (some ⟨q, 0, none⟩)) rfl (by kernel_rfl) (fun _ _ _ h => h) (Or.inl ⟨by kernel_rfl, ?_⟩) hA3 ?_
                · intro w' _; go_simp
                try simp only [List.getElem_toArray, List.getElem_cons_succ, List.getElem_cons_zero, Act.put, List.setIfInBounds_toArray, List.set]
                refine upb_takeH hbar (i := 17) (v := .pointer (some ⟨q, 0, none⟩)) rfl (by kernel_rfl) (fun _ _ _ h => h) (Or.inl ⟨by kernel_rfl, ?_⟩) hA3 ?_
                · intro w' _; go_simp
                try simp only [List.getElem_toArray, List.getElem_cons_succ, List.getElem_cons_zero, Act.put, List.setIfInBounds_toArray, List.set]
                refine upb_takeH hbar (i := 18) (v := .pointer (some ⟨q, 2, none⟩)) rfl (by kernel_rfl) (fun _ _ _ h => h) (Or.inl ⟨by kernel_rfl, ?_⟩) hA3 ?_
                · intro w' _; go_simp
                try simp only [List.getElem_toArray, List.getElem_cons_succ, List.getElem_cons_zero, Act.put, List.setIfInBounds_toArray, List.set]
                refine upb_takeH hbar (i := 19) (v := .int .i64 n) rfl (by kernel_rfl) (fun _ _ _ h => h) (Or.inl ⟨by kernel_rfl, ?_⟩) hA3 ?_
                · intro w' hS'
                  obtain ⟨d0, d1, d2, d3, d4⟩ := RgAt.cells (RuW.below HW8.out hS').ref
                  have d37 := RgAt.cell37 (RuW.below HW8.out hS').ref
                  clear hS'
                  go_simp
                try simp only [List.getElem_toArray, List.getElem_cons_succ, List.getElem_cons_zero, Act.put, List.setIfInBounds_toArray, List.set]
                refine upb_takeH hbar (i := 20) (v := .pointer (some ⟨q, 0, none⟩)) rfl (by kernel_rfl) (fun _ _ _ h => h) (Or.inl ⟨by kernel_rfl, ?_⟩) hA3 ?_
                · intro w' _; go_simp
                try simp only [List.getElem_toArray, List.getElem_cons_succ, List.getElem_cons_zero, Act.put, List.setIfInBounds_toArray, List.set]
                refine upb_takeH hbar (i := 21) (v := .pointer (some ⟨q, 0, none⟩)) rfl (by kernel_rfl) (fun _ _ _ h => h) (Or.inl ⟨by kernel_rfl, ?_⟩) hA3 ?_
                · intro w' _; go_simp
                try simp only [List.getElem_toArray, List.getElem_cons_succ, List.getElem_cons_zero, Act.put, List.setIfInBounds_toArray, List.set]
                refine upb_takeH hbar (i := 22) (v := .pointer (some ⟨q, 37, none⟩)) rfl (by kernel_rfl) (fun _ _ _ h => h) (Or.inl ⟨by kernel_rfl, ?_⟩) hA3 ?_
                · intro w' _; go_simp
                try simp only [List.getElem_toArray, List.getElem_cons_succ, List.getElem_cons_zero, Act.put, List.setIfInBounds_toArray, List.set]
                refine upb_takeH hbar (i := 23) (v := .int .i64 used) rfl (by kernel_rfl) (fun _ _ _ h => h) (Or.inl ⟨by kernel_rfl, ?_⟩) hA3 ?_
                · intro w' hS'
                  obtain ⟨d0, d1, d2, d3, d4⟩ := RgAt.cells (RuW.below HW8.out hS').ref
                  have d37 := RgAt.cell37 (RuW.below HW8.out hS').ref
                  clear hS'
                  go_simp
                try simp only [List.getElem_toArray, List.getElem_cons_succ, List.getElem_cons_zero, Act.put, List.setIfInBounds_toArray, List.set]
                refine upb_takeH hbar (i := 24) (v := .int .i64 free) rfl (by kernel_rfl) (fun _ _ _ h => h) (Or.inl ⟨by kernel_rfl, ?_⟩) hA3 ?_
                · intro w' _; go_simp
                try simp only [List.getElem_toArray, List.getElem_cons_succ, List.getElem_cons_zero, Act.put, List.setIfInBounds_toArray, List.set]
                refine up_one 15 _ rfl (by kernel_rfl) (by decide) (by kernel_rfl) (fun K hK => ?_)
                go_simp
                refine (Htk.out _).mono ?_
                rintro e w' ⟨rfl, hw'⟩
                rw [hw']
                clear hw'
                refine hK _ _ hA3 ?_
                clear hK K
                try simp only [List.getElem_toArray, List.getElem_cons_succ, List.getElem_cons_zero, Act.put, List.setIfInBounds_toArray, List.set]
                refine upb_takeH hbar (i := 25) (v := .bool false) rfl (by kernel_rfl) (fun _ _ _ h => h) (Or.inl ⟨by kernel_rfl, ?_⟩) hA3 ?_
                · intro w' _; go_simp
                try simp only [List.getElem_toArray, List.getElem_cons_succ, List.getElem_cons_zero, Act.put, List.setIfInBounds_toArray, List.set]
                refine upb_takeH hbar (i := 26) (v := .bool false) rfl (by kernel_rfl) (fun _ _ _ h => h) (Or.inl ⟨by kernel_rfl, ?_⟩) hA3 ?_
                · intro w' _; go_simp
                try simp only [List.getElem_toArray, List.getElem_cons_succ, List.getElem_cons_zero, Act.put, List.setIfInBounds_toArray, List.set]
                refine upb_takeH hbar (i := 27) (v := .bool false) rfl (by kernel_rfl) (fun _ _ _ h => h) (Or.inl ⟨by kernel_rfl, ?_⟩) hA3 ?_
                · intro w' _; go_simp
                try simp only [List.getElem_toArray, List.getElem_cons_succ, List.getElem_cons_zero, Act.put, List.setIfInBounds_toArray, List.set]
                refine up_forget [104, 107, 108, 109, 110, 111, 112, 113, 114, 115, 116, 117, 118, 119, 120, 121, 122, 123, 124, 125, 126, 127] (fun f => ?_)
                simp only [List.foldl_cons, List.foldl_nil, List.setIfInBounds_toArray, List.set]
                exact key f v3 hA3
            case pf =>
              intro f v3 hA3
              clear hA hbar hcases
              refine up_phase 39 (fun _ => True) (by decide) (by kernel_rfl) ?_
              refine up_bar (by kernel_rfl) (by kernel_rfl) (fun hbar => ?_)
              refine upb_takeH hbar (i := 28) (v := .bool false) rfl (by kernel_rfl) (fun _ _ _ h => h) (Or.inl ⟨by kernel_rfl, ?_⟩) True.intro ?_
              · intro w' _; go_simp
              try simp only [List.getElem_toArray, List.getElem_cons_succ, List.getElem_cons_zero, Act.put, List.setIfInBounds_toArray, List.set]
              refine upb_takeH hbar (i := 29) (v := .pointer (some ⟨g, 0, none⟩)) rfl (by kernel_rfl) (fun _ _ _ h => h) (Or.inl ⟨by kernel_rfl, ?_⟩) True.intro ?_
              · intro w' _; go_simp
              try simp only [List.getElem_toArray, List.getElem_cons_succ, List.getElem_cons_zero, Act.put, List.setIfInBounds_toArray, List.set]
              refine upb_takeH hbar (i := 30) (v := .slice ap N cp) rfl (by kernel_rfl) (fun _ _ _ h => h) (Or.inl ⟨by kernel_rfl, ?_⟩) True.intro ?_
              · intro w' _; go_simp
              try simp only [List.getElem_toArray, List.getElem_cons_succ, List.getElem_cons_zero, Act.put, List.setIfInBounds_toArray, List.set]
              refine upb_takeH hbar (i := 33) (v := .pointer (some ⟨q, 0, none⟩)) rfl (by kernel_rfl) (fun _ _ _ h => h) (Or.inl ⟨by kernel_rfl, ?_⟩) True.intro ?_
              · intro w' _; go_simp
              try simp only [List.getElem_toArray, List.getElem_cons_succ, List.getElem_cons_zero, Act.put, List.setIfInBounds_toArray, List.set]
              refine upb_takeH hbar (i := 34) (v := .slice ap N cp) rfl (by kernel_rfl) (fun _ _ _ h => h) (Or.inl ⟨by kernel_rfl, ?_⟩) True.intro ?_
              · intro w' _; go_simp
              try simp only [List.getElem_toArray, List.getElem_cons_succ, List.getElem_cons_zero, Act.put, List.setIfInBounds_toArray, List.set]
              refine up_one 31 _ rfl (by kernel_rfl) (by decide) (by kernel_rfl) (fun K hK => ?_)
              go_simp
              refine (Hadd.out B gd gk g q F G v3 ap cp (HW8.out.below hA3) ((hC8.below hA3).mono hA3.size)).mono ?_
              rintro e v5 ⟨va, F2, rfl, hE5, hW5, ho5, hB5⟩
              have hC5 := ((hC8.below hA3).mono hA3.size).only ho5 hk8
              have hbel5 := (Hbel8.out.trans (hA3.mono HW8.out.le)).trans hB5
              have Hnum := Lib.hid (num_any E va v5 (HLw.out _ hbel5) hE5)
              clear ho5 hB5 hE5
              refine hK _ _ True.intro ?_
              clear hK K
              try simp only [List.getElem_toArray, List.getElem_cons_succ, List.getElem_cons_zero, Act.put, List.setIfInBounds_toArray, List.set]
              refine up_one 32 _ rfl (by kernel_rfl) (by decide) (by kernel_rfl) (fun K hK => ?_)
              go_simp
              refine Hnum.out.mono ?_
              rintro e v6 ⟨rfl, hb6⟩
              have hC6 := (hC5.below hb6).mono hb6.size
              have hW6 := hW5.below hb6
              have hbel6 := hbel5.trans (hb6.mono hW5.le)
              clear Hnum hC5 hW5 hbel5 hb6
              refine hK _ _ True.intro ?_
              clear hK K
              try simp only [List.getElem_toArray, List.getElem_cons_succ, List.getElem_cons_zero, Act.put, List.setIfInBounds_toArray, List.set]
              refine up_one 35 _ rfl (by kernel_rfl) (by decide) (by kernel_rfl) (fun K hK => ?_)
              go_simp
              refine (Htd.out v6 ap cp hC6).mono ?_
              rintro e v7 ⟨ap7, cp7, rfl, hC7, _, hb7⟩
              have hW7 := hW6.below hb7
              have hbel7 := hbel6.trans (hb7.mono hW6.le)
              clear hC6 hW6 hbel6 hb7
              refine hK _ _ True.intro ?_
              clear hK K
              try simp only [List.getElem_toArray, List.getElem_cons_succ, List.getElem_cons_zero, Act.put, List.setIfInBounds_toArray, List.set]
              refine up_one 36 _ rfl (by kernel_rfl) (by decide) (by kernel_rfl) (fun K hK => ?_)
              go_simp
              refine (Hradd.out B gd gk g q F2 G v7 ap7 cp7 hW7 hC7).mono ?_
              rintro e vC ⟨G2, rfl, hWC, hBC⟩
              have hbelC := hbel7.trans hBC
              have HWC := Lib.hid hWC
              clear hC7 hW7 hbel7 hBC hWC
              refine hK _ _ True.intro ?_
              clear hK K
              try simp only [List.getElem_toArray, List.getElem_cons_succ, List.getElem_cons_zero, Act.put, List.setIfInBounds_toArray, List.set]
              refine upb_takeH hbar (i := 37) (v := .bool false) rfl (by kernel_rfl) (fun _ _ _ h => h) (Or.inl ⟨by kernel_rfl, ?_⟩) True.intro ?_
              · intro w' _; go_simp
              try simp only [List.getElem_toArray, List.getElem_cons_succ, List.getElem_cons_zero, Act.put, List.setIfInBounds_toArray, List.set]
              refine upb_takeH hbar (i := 38) (v := .bool false) rfl (by kernel_rfl) (fun _ _ _ h => h) (Or.inl ⟨by kernel_rfl, ?_⟩) True.intro ?_
              · intro w' _; go_simp
              try simp only [List.getElem_toArray, List.getElem_cons_succ, List.getElem_cons_zero, Act.put, List.setIfInBounds_toArray, List.set]
              clear hbar
              refine up_phase 62 (fun w' => Below vC.heap.size vC w') (by decide) (by kernel_rfl) ?_
              refine up_bar (by kernel_rfl) (by kernel_rfl) (fun hbar => ?_)
              have hD : Below vC.heap.size vC vC := Below.refl _ _
              refine upb_takeH hbar (i := 39) (v := .bool false) rfl (by kernel_rfl) (fun _ _ _ h => h) (Or.inl ⟨by kernel_rfl, ?_⟩) hD ?_
              · intro w' _; go_simp
              try simp only [List.getElem_toArray, List.getElem_cons_succ, List.getElem_cons_zero, Act.put, List.setIfInBounds_toArray, List.set]
              refine upb_takeH hbar (i := 40) (v := .pointer (some ⟨g, 0, none⟩)) rfl (by kernel_rfl) (fun _ _ _ h => h) (Or.inl ⟨by kernel_rfl, ?_⟩) hD ?_
              · intro w' _; go_simp
              try simp only [List.getElem_toArray, List.getElem_cons_succ, List.getElem_cons_zero, Act.put, List.setIfInBounds_toArray, List.set]
              refine upb_takeH hbar (i := 43) (v := .pointer (some ⟨q, 0, none⟩)) rfl (by kernel_rfl) (fun _ _ _ h => h) (Or.inl ⟨by kernel_rfl, ?_⟩) hD ?_
              · intro w' _; go_simp
              try simp only [List.getElem_toArray, List.getElem_cons_succ, List.getElem_cons_zero, Act.put, List.setIfInBounds_toArray, List.set]
              refine upb_takeH hbar (i := 44) (v := .pointer (some ⟨q, 0, none⟩)) rfl (by kernel_rfl) (fun _ _ _ h => h) (Or.inl ⟨by kernel_rfl, ?_⟩) hD ?_
              · intro w' _; go_simp
              try simp only [List.getElem_toArray, List.getElem_cons_succ, List.getElem_cons_zero, Act.put, List.setIfInBounds_toArray, List.set]
              refine upb_takeH hbar (i := 45) (v := .pointer (some ⟨q, 3, none⟩)) rfl (by kernel_rfl) (fun _ _ _ h => h) (Or.inl ⟨by kernel_rfl, ?_⟩) hD ?_
              · intro w' _; go_simp
              try simp only [List.getElem_toArray, List.getElem_cons_succ, List.getElem_cons_zero, Act.put, List.setIfInBounds_toArray, List.set]
              refine upb_takeH hbar (i := 46) (v := .agg mcv.toArray) rfl (by kernel_rfl) (fun _ _ _ h => h) (Or.inl ⟨by kernel_rfl, ?_⟩) hD ?_
              · intro w' hS'; exact exec_load _ _ 46 _ rfl q 3 (by kernel_rfl) _ (Hld.out w' (RuW.below HWC.out hS').ref)
              try simp only [List.getElem_toArray, List.getElem_cons_succ, List.getElem_cons_zero, Act.put, List.setIfInBounds_toArray, List.set]
              refine up_one 41 _ rfl (by kernel_rfl) (by decide) (by kernel_rfl) (fun K hK => ?_)
              go_simp
              refine (Hhd.out vC HWC.out.ring).mono ?_
              rintro e v9 ⟨r9, hr9, rfl, hb9⟩
              obtain rfl := hr9.out
              have hD9 : Below vC.heap.size vC v9 := hb9
              clear hb9 hr9
              refine hK _ _ hD9 ?_
              clear hK K
              try simp only [List.getElem_toArray, List.getElem_cons_succ, List.getElem_cons_zero, Act.put, List.setIfInBounds_toArray, List.set]
              refine up_one 42 _ rfl (by kernel_rfl) (by decide) (by kernel_rfl) (fun K hK => ?_)
              go_simp
              refine (Hmk.out _).mono ?_
              rintro e v10 ⟨r10, hr10, rfl, hb10⟩
              obtain rfl := hr10.out
              have hD10 := hD9.trans (hb10.mono hD9.size)
              clear hb10 hr10
              refine hK _ _ hD10 ?_
              clear hK K
              try simp only [List.getElem_toArray, List.getElem_cons_succ, List.getElem_cons_zero, Act.put, List.setIfInBounds_toArray, List.set]
              refine upb_takeH hbar (i := 47) (v := .bool false) rfl (by kernel_rfl) (fun _ _ _ h => h) (Or.inl ⟨by kernel_rfl, ?_⟩) hD10 ?_
              · intro w' _; go_simp
              try simp only [List.getElem_toArray, List.getElem_cons_succ, List.getElem_cons_zero, Act.put, List.setIfInBounds_toArray, List.set]
              refine upb_takeH hbar (i := 48) (v := .bool false) rfl (by kernel_rfl) (fun _ _ _ h => h) (Or.inl ⟨by kernel_rfl, ?_⟩) hD10 ?_
              · intro w' _; go_simp
              try simp only [List.getElem_toArray, List.getElem_cons_succ, List.getElem_cons_zero, Act.put, List.setIfInBounds_toArray, List.set]
              refine upb_takeH hbar (i := 49) (v := .bool false) rfl (by kernel_rfl) (fun _ _ _ h => h) (Or.inl ⟨by kernel_rfl, ?_⟩) hD10 ?_
              · intro w' _; go_simp
              try simp only [List.getElem_toArray, List.getElem_cons_succ, List.getElem_cons_zero, Act.put, List.setIfInBounds_toArray, List.set]
              refine upb_takeH hbar (i := 50) (v := .pointer (some ⟨g, 0, none⟩)) rfl (by kernel_rfl) (fun _ _ _ h => h) (Or.inl ⟨by kernel_rfl, ?_⟩) hD10 ?_
              · intro w' _; go_simp
              try simp only [List.getElem_toArray, List.getElem_cons_succ, List.getElem_cons_zero, Act.put, List.setIfInBounds_toArray, List.set]
              refine upb_takeH hbar (i := 52) (v := .pointer (some ⟨q, 0, none⟩)) rfl (by kernel_rfl) (fun _ _ _ h => h) (Or.inl ⟨by kernel_rfl, ?_⟩) hD10 ?_
              · intro w' _; go_simp
              try simp only [List.getElem_toArray, List.getElem_cons_succ, List.getElem_cons_zero, Act.put, List.setIfInBounds_toArray, List.set]
              refine upb_takeH hbar (i := 53) (v := .pointer (some ⟨q, 0, none⟩)) rfl (by kernel_rfl) (fun _ _ _ h => h) (Or.inl ⟨by kernel_rfl, ?_⟩) hD10 ?_
              · intro w' _; go_simp
              try simp only [List.getElem_toArray, List.getElem_cons_succ, List.getElem_cons_zero, Act.put, List.setIfInBounds_toArray, List.set]
              refine upb_takeH hbar (i := 54) (v := .pointer (some ⟨q, 2, none⟩)) rfl (by kernel_rfl) (fun _ _ _ h => h) (Or.inl ⟨by kernel_rfl, ?_⟩) hD10 ?_
              · intro w' _; go_simp
              try simp only [List.getElem_toArray, List.getElem_cons_succ, List.getElem_cons_zero, Act.put, List.setIfInBounds_toArray, List.set]
              refine upb_takeH hbar (i := 55) (v := .int .i64 n) rfl (by kernel_rfl) (fun _ _ _ h => h) (Or.inl ⟨by kernel_rfl, ?_⟩) hD10 ?_
              · intro w' hS'
                obtain ⟨d0, d1, d2, d3, d4⟩ := RgAt.cells (RuW.below HWC.out hS').ref
                have d37 := RgAt.cell37 (RuW.below HWC.out hS').ref
                clear hS'
                go_simp
              try simp only [List.getElem_toArray, List.getElem_cons_succ, List.getElem_cons_zero, Act.put, List.setIfInBounds_toArray, List.set]
              refine upb_takeH hbar (i := 56) (v := .pointer (some ⟨q, 0, none⟩)) rfl (by kernel_rfl) (fun _ _ _ h => h) (Or.inl ⟨by kernel_rfl, ?_⟩) hD10 ?_
              · intro w' _; go_simp
              try simp only [List.getElem_toArray, List.getElem_cons_succ, List.getElem_cons_zero, Act.put, List.setIfInBounds_toArray, List.set]
              refine upb_takeH hbar (i := 57) (v := .pointer (some ⟨q, 0, none⟩)) rfl (by kernel_rfl) (fun _ _ _ h => h) (Or.inl ⟨by kernel_rfl, ?_⟩) hD10 ?_
              · intro w' _; go_simp
              try simp only [List.getElem_toArray, List.getElem_cons_succ, List.getElem_cons_zero, Act.put, List.setIfInBounds_toArray, List.set]
              refine upb_takeH hbar (i := 58) (v := .pointer (some ⟨q, 37, none⟩)) rfl (by kernel_rfl) (fun _ _ _ h => h) (Or.inl ⟨by kernel_rfl, ?_⟩) hD10 ?_
              · intro w' _; go_simp
              try simp only [List.getElem_toArray, List.getElem_cons_succ, List.getElem_cons_zero, Act.put, List.setIfInBounds_toArray, List.set]
              refine upb_takeH hbar (i := 59) (v := .int .i64 used') rfl (by kernel_rfl) (fun _ _ _ h => h) (Or.inl ⟨by kernel_rfl, ?_⟩) hD10 ?_
              · intro w' hS'
                obtain ⟨d0, d1, d2, d3, d4⟩ := RgAt.cells (RuW.below HWC.out hS').ref
                have d37 := RgAt.cell37 (RuW.below HWC.out hS').ref
                clear hS'
                go_simp
              try simp only [List.getElem_toArray, List.getElem_cons_succ, List.getElem_cons_zero, Act.put, List.setIfInBounds_toArray, List.set]
              refine upb_takeH hbar (i := 60) (v := .int .i64 free') rfl (by kernel_rfl) (fun _ _ _ h => h) (Or.inl ⟨by kernel_rfl, ?_⟩) hD10 ?_
              · intro w' _; go_simp
              try simp only [List.getElem_toArray, List.getElem_cons_succ, List.getElem_cons_zero, Act.put, List.setIfInBounds_toArray, List.set]
              refine up_one 51 _ rfl (by kernel_rfl) (by decide) (by kernel_rfl) (fun K hK => ?_)
              go_simp
              refine (Hrm.out _ (HWC.out.below hD10).ring).mono ?_
              rintro e v11 ⟨rfl, mq2, rfl⟩
              have hD11 := hD10.trans (below_drewN v10 mq2 _)
              generalize v10.drewN mq2 = v11 at hD11 ⊢
              refine hK _ _ hD11 ?_
              clear hK K
              try simp only [List.getElem_toArray, List.getElem_cons_succ, List.getElem_cons_zero, Act.put, List.setIfInBounds_toArray, List.set]
              refine upb_takeH hbar (i := 61) (v := .bool false) rfl (by kernel_rfl) (fun _ _ _ h => h) (Or.inl ⟨by kernel_rfl, ?_⟩) hD11 ?_
              · intro w' _; go_simp
              try simp only [List.getElem_toArray, List.getElem_cons_succ, List.getElem_cons_zero, Act.put, List.setIfInBounds_toArray, List.set]
              refine up_tail ?_
              refine up_last 62 _ rfl (by kernel_rfl) (by decide) (by kernel_rfl) (fun K hK => ?_)
              go_simp
              refine hK _ _ ?_
              clear hK K
              try simp only [List.getElem_toArray, List.getElem_cons_succ, List.getElem_cons_zero, Act.put, List.setIfInBounds_toArray, List.set]
              refine up_done (by kernel_rfl) ?_ _
              have hWZ := HWC.out.below hD11
              have hbelZ := hbelC.trans (hD11.mono HWC.out.le)
              clear HWC hD hD9 hD10 hD11 hbelC hA3 Hfits Hadd Hradd Htk Hmk Hhd Hrm Hld heq Htd HW8 Hbel8 hC8 hk8 wS wSb wS' wSb' Hmcv hbar
              by_cases hkb : (k : Int) = b
              · subst hkb
                obtain ⟨kv, Hkv⟩ : ∃ kv : List Value, Hid (kv = (keyOf (UInt8.ofNat k)).map cu8) := ⟨_, rfl⟩
                have hcv : IntKind.u8.wrap (k : Int) = bz (UInt8.ofNat k) := by have := byteU k 0; simpa using this
                have hbk : Hid (Tryd.prog.built 23 [(0, .int .u8 (bz (UInt8.ofNat k))), (1, .int .u8 7)] = some kv.toArray) := by rw [Hkv.out]; exact built_keyOf (UInt8.ofNat k)
                have hcut := cut_any hWZ.ring (keyOf (UInt8.ofNat k)) (by simp [keyOf])
                rw [← Hkv.out] at hcut
                have Hcut := Lib.hid hcut
                have hkvl : kv.length = 32 := by rw [Hkv.out]; simp [keyOf]
                clear hcut
                go_wp2_with (first
                  | (refine wpList_build_to rfl 23 _ rfl kv.toArray (Eq.trans (congrArg (Program.built _ _) (by simp [Act.eval, Act.put])) hbk.out) ?_)
                  | (go_at_call 27; refine Hcut.out.mono ?_))
                rintro e w10 ⟨rfl, hring10, ho10⟩
                have hW10 := hWZ.cut hring10 ho10
                have hbel10 := hbelZ.trans (ho10.base hWZ.le (fun j hj => by have e : j = g := hj; rw [e]; exact hWZ.low.1))
                obtain ⟨rc, Hrc⟩ : ∃ rc : List Value, Hid (rc.toArray = ringCells gk 3 n m' used') := ⟨(ringCells gk 3 n m' used').toList, Lib.hid (by simp)⟩
                have hat := hW10.ref.at_
                rw [← Hrc.out] at hat
                have hrcl : rc.length = 38 := by have := congrArg Array.size Hrc.out; simpa [ringCells, hla'] using this
                have Hat := Lib.hid hat
                have hin32 : Hid ((Tryd.prog.info? 23).map (·.size) = some kv.toArray.size) := by rw [List.size_toArray, hkvl]; exact (by kernel_rfl : (Tryd.prog.info? 23).map (·.size) = some 32)
                have hfit5 : Hid (5 + kv.toArray.size ≤ rc.length) := by show 5 + kv.toArray.size ≤ rc.length; rw [List.size_toArray]; omega
                have hkone : Hid (∀ v ∈ kv.toArray.toList, v.oneCell' = true) := by rw [Hkv.out]; intro v hv; obtain ⟨x, _, rfl⟩ := List.mem_map.1 (by simpa using hv); rfl
                have hsp : Hid ((splice rc 5 kv.toArray.toList).toArray = ringCells gk 3 n ⟨m'.place, m'.num, keyOf (UInt8.ofNat k)⟩ used') := by
                  show (splice rc 5 kv).toArray = _
                  have e : rc = (ringCells gk 3 n m' used').toList := by rw [← Hrc.out]
                  rw [e, Hkv.out]; exact splice_lastR gk 3 n m' used' _ hla' (by simp [keyOf])
                clear hat Hcut hWZ hbelZ hring10 ho10 hrcl Hrc hkvl
                go_upto_region 23 with (first
                  | (refine wpList_build_to rfl 23 _ rfl kv.toArray (Eq.trans (congrArg (Program.built _ _) (by simp [Act.eval, Act.put])) hbk.out) ?_)
                  | (refine wpList_store_into rfl 23 _ _ rfl q 5 kv.toArray rfl rfl rc 55 Hat.out hin32.out hfit5.out hkone.out ?_; intro w11 Hs11 Hg11; have hr11 : RgAt q gk 3 n ⟨m'.place, m'.num, keyOf (UInt8.ofNat k)⟩ used' w11 := ⟨by rw [← hsp.out]; exact Hs11.out, by simp [keyOf]⟩; have c37 := hr11.cell37; have f37 := hr11.thawed 37))
                have hr12 : RgAt q gk 3 n ⟨m'.place, m'.num, keyOf (UInt8.ofNat k)⟩ 0 (w11.setCell ⟨q, 37, none⟩ (.int .i64 0)) := hr11.setUsed 0
                have hW11 := hW10.rcut hr11 Hg11.out
                have hW12 := hW11.rcut hr12 (PgAt.turned (w := w11) (y := q) 37 (.int .i64 0))
                have hbel11 := below_of_grown hbel10 Hg11.out hW10.le hW10.low.2
                have hbel12 := below_of_grown hbel11 (PgAt.turned (w := w11) (y := q) 37 (.int .i64 0)) hW11.le hW11.low.2
                have hN : RunR B gd gk g q n wa (65 * (k + 1)) (w11.setCell ⟨q, 37, none⟩ (.int .i64 0)) := ⟨F2, G2, S', _, 0, hW12, hS'.mono (by omega), ⟨hO'.n0, hO'.n1, hO'.first, hO'.place, hO'.num, Nat.zero_le _⟩, by simp [keyOf], hbel12⟩
                have HN := Lib.hid hN
                clear hN hW10 hW11 hW12 hbel10 hbel11 hbel12 hr11 hr12 c37 f37 Hs11 Hg11 Hat hin32 hfit5 hkone hsp hbk Hkv hcv
                go_wp2
                go_roundg (L - (k + 1))
                case measure => omega
                case rel => exact ⟨k + 1, by omega, rfl, by go_num, HN.out⟩
              · have hN : RunR B gd gk g q n wa (65 * (k + 1)) v11 := ⟨F2, G2, S', m', used', hWZ, hS'.mono (by omega), hO', hla', hbelZ⟩
                have HN := Lib.hid hN
                clear hN hWZ hbelZ
                go_wp2
                go_roundg (L - (k + 1))
                case measure => omega
                case rel => exact ⟨k + 1, by omega, rfl, by go_num, HN.out⟩
          · obtain rfl : k = L := by omega
            have hlt' : ¬ (k : Int) < (k : Int) := by omega
            have HW := Lib.hid hW; have Hbel := Lib.hid hbel
            clear hW hbel
            go_wp2
            go_loopg [183] 300 (fun gg i wr => ∃ (j : Nat), j ≤ 300 ∧ gg = 300 - j ∧ i = .int .i64 j ∧ RuW B gd gk g q n F G S S m used m used wr ∧ Below B wa wr)
            case atStart => exact ⟨0, by omega, by omega, rfl, HW.out, Hbel.out⟩
            case round =>
              clear HW Hbel
              obtain ⟨j, hj, rfl, rfl, hW, hbel⟩ := hrel
              rename World => wl
              by_cases hlt3 : j < 300
              · have hlt3' : (j : Int) < 300 := by omega
                obtain ⟨pq, hq64, hqe⟩ := byt_read hS.byt (j : Int)
                obtain ⟨pv, Hpv⟩ : ∃ pv : List Value, Hid (pv = pq.map cu8) := ⟨_, rfl⟩
                have hbp : BP pv := ⟨pq, hq64, Hpv.out⟩
                have heq : ∀ W : World, (Op.equalIn 10000 63 (.agg pv.toArray) (.agg pv.toArray)).run Tryd.prog W = .ok true W := fun W => hbp.same W
                have hrd := pd_read hW.pd (j : Int)
                have hrrd := fun (W : World) (hWW : Below wl.heap.size wl W) => rd_read (hW.rd.below hWW) hS.good (by have := hS.cnt; omega) (j : Int)
                obtain ⟨en, hen⟩ : ∃ en, (readOf S (j : Int)).2 = en := ⟨_, rfl⟩
                rw [hqe, ← Hpv.out] at hrd
                simp only [hqe, ← Hpv.out, hen] at hrrd
                have Hrd := Lib.hid hrd; have Hrrd := Lib.hid hrrd
                have hpvl : pv.length = 64 := by rw [Hpv.out, List.length_map, hq64]
                have hqi2 : Hid ((Tryd.prog.info? 63).map (·.size) = some pv.toArray.size) := by rw [List.size_toArray, hpvl]; exact info64
                have hqz : Hid (zeros64.size = pv.toArray.size) := by rw [show pv.toArray.size = 64 from by rw [List.size_toArray, hpvl]]; exact (rfl : zeros64.size = 64)
                have hq1 : Hid (pv.toArray.all (·.oneCell') = true) := by rw [Hpv.out]; exact bytes_one _
                clear hrd hrrd hqe hpvl hbp
                go_wp2_with (go_at_call 28; refine Hrd.out.mono ?_)
                rintro e w6 ⟨v6, rfl, _, hb6⟩
                have hbz : Below w6.heap.size w6 (w6.alloc (.cells pv.toArray 63)) := (Below.refl _ _).alloc (Nat.le_refl _) _
                have hzz : (w6.alloc (.cells pv.toArray 63)).heap[w6.heap.size]? = some (.cells pv.toArray 63 (0, 0)) := heap_alloc_new w6 _
                have hb7 := hb6.trans (hbz.mono hb6.size)
                go_upto_region 28 with (first
                  | (refine wpList_alloc_arr rfl 63 rfl _ alloc64 ?_)
                  | (refine wpList_store_new rfl 63 _ _ rfl w6.heap.size rfl pv.toArray rfl rfl 63 _ hqi2.out hqz.out hq1.out ?_))
                generalize hwz : w6.alloc (.cells pv.toArray 63) = w7 at hzz hb7 ⊢
                obtain ⟨p1, hp1⟩ : ∃ pb, w6.heap.size = pb := ⟨_, rfl⟩
                rw [hp1] at hzz ⊢
                clear hwz hp1 hbz hb6 Hrd
                go_wp2_with (go_at_call 29; refine (Hrrd.out w7 hb7).mono ?_)
                rintro e w8 ⟨rfl, hb8⟩
                have hbz : Below w8.heap.size w8 (w8.alloc (.cells pv.toArray 63)) := (Below.refl _ _).alloc (Nat.le_refl _) _
                have hyy : (w8.alloc (.cells pv.toArray 63)).heap[w8.heap.size]? = some (.cells pv.toArray 63 (0, 0)) := heap_alloc_new w8 _
                have hb79 := hb8.trans (hbz.mono hb8.size)
                have hb9 := hb7.trans (hb79.mono hb7.size)
                have hzz9 := (hb79.block p1 (Array.getElem?_eq_some_iff.1 hzz).1).trans hzz
                go_upto_region 29 with (first
                  | (refine wpList_alloc_arr rfl 63 rfl _ alloc64 ?_)
                  | (refine wpList_store_new rfl 63 _ _ rfl w8.heap.size rfl pv.toArray rfl rfl 63 _ hqi2.out hqz.out hq1.out ?_))
                generalize hwz : w8.alloc (.cells pv.toArray 63) = w9 at hyy hzz9 hb9 ⊢
                obtain ⟨p2, hp2⟩ : ∃ pb, w8.heap.size = pb := ⟨_, rfl⟩
                rw [hp2] at hyy ⊢
                have hW9 := hW.below hb9
                have hbel9 := hbel.trans (hb9.mono hW.le)
                have HW9 := Lib.hid hW9
                clear hwz hp2 hbz hb8 hb7 hb79 hb9 hzz Hrrd hqz hq1 hW hbel hW9
                go_wp2_with (first
                  | (refine wpList_load_row rfl 63 _ rfl p1 rfl 63 pv.toArray (0, 0) _ hzz9 Tryd.underlying63 rfl hqi2.out ?_)
                  | (refine wpList_load_row rfl 63 _ rfl p2 rfl 63 pv.toArray (0, 0) _ hyy Tryd.underlying63 rfl hqi2.out ?_))
                go_roundg (300 - (j + 1))
                case measure => omega
                case rel => exact ⟨j + 1, by omega, rfl, by go_num, HW9.out, hbel9⟩
              · obtain rfl : j = 300 := by omega
                have hlt3' : ¬ ((300 : Nat) : Int) < 300 := by omega
                obtain ⟨a, E, ha, hop, hrop⟩ := open_both hS (by omega) 3 (by omega) (n : Int) (p : Int) num last hnum hlast
                have k0 : ((3 : Nat) : Int) = 3 := rfl
                rw [k0, ← Hmv.out] at hop hrop
                have Hop := Lib.hid (hop wl F gd hW.pd)
                have HM := Lib.hid (HMw.out wl hbel)
                have hle := hW.le
                clear hop k0
                go_wp2_with (first
                  | (refine wpList_load_row rfl 25 _ rfl mb rfl 25 mvp.toArray (0, 0) _ HM.out Tryd.underlying25 rfl hmi.out ?_)
                  | (go_at_call 14; refine Hop.out.mono ?_))
                rintro e w6 ⟨rv6, ap6, cp6, v6, rfl, hE6, hrv6, hb6⟩
                have hbel6 := hbel.trans (hb6.mono hle)
                have hW6 := hW.below hb6
                have HM6 := Lib.hid (HMw.out w6 hbel6)
                clear Hop HM hW hbel
                go_wp2_with (first
                  | (refine wpList_load_row rfl 25 _ rfl mb rfl 25 mvp.toArray (0, 0) _ HM6.out Tryd.underlying25 rfl hmi.out ?_)
                  | (go_at_call 16; refine (HMark.out _).mono ?_))
                rintro e w7 ⟨rm, hrm, rfl, hb7⟩
                obtain rfl := hrm.out
                have hbel7 := hbel6.trans (hb7.mono hW6.le)
                have hW7 := hW6.below hb7
                have Hrop := Lib.hid (hrop w7 G gk hW7.rd)
                clear hrop HM6 hrm
                go_wp2_with (go_at_call 15; refine Hrop.out.mono ?_)
                rintro e w8 ⟨rv8, ap8, cp8, rfl, hrv8, hb8⟩
                have hbel8 := hbel7.trans (hb8.mono hW7.le)
                have hE8 := (hE6.below hb7).below hb8
                have hrv68 := ((hrv6.below hb7).mono hb7.size |>.below hb8).mono hb8.size
                have Hnum := Lib.hid (num_any E v6 w8 (HLw.out _ hbel8) hE8)
                have hle8 : B ≤ w8.heap.size := Nat.le_trans hW7.le hb8.size
                clear Hrop hE6 hE8 hrv6 hb6 hb7 hb8 hW6 hW7 hbel6 hbel7
                go_wp2_with (go_at_call 17; refine Hnum.out.mono ?_)
                rintro e w9 ⟨rfl, hb9⟩
                have hbel9 := hbel8.trans (hb9.mono hle8)
                have hsm := same_any a a ap6 ap8 cp6 cp8 w9 ((hrv68.below hb9).mono hb9.size) ((hrv8.below hb9).mono hb9.size) ⟨by omega, by omega⟩
                rw [decide_eq_true rfl] at hsm
                have Hsm := Lib.hid hsm
                have hle9 := Nat.le_trans hle8 hb9.size
                clear hsm Hnum hrv68 hrv8 hb9 hbel8
                go_wp2_with (go_at_call 18; refine Hsm.out.mono ?_)
                rintro e w10 ⟨rfl, hb10⟩
                have hbel10 := hbel9.trans (hb10.mono hle9)
                clear Hsm
                go_wp2
                go_ret
                exact ⟨rfl, HFin.out _ hbel10⟩
end Go.Proofs.YtegdlpllljccgaaDoor
