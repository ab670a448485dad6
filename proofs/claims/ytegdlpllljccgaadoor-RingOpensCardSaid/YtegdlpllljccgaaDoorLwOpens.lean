/-
  'RingOpens': its walk.
-/
import Derived.Test.YtegdlpllljccgaaDoorLwOpW
set_option linter.unusedSimpArgs false
set_option linter.unusedVariables false
namespace Go.Proofs.YtegdlpllljccgaaDoor
open Go.RowKit Sh Go.Extern.Stop Go.Stop Go.Extern

theorem allocTriple (w : World) : (Instr.alloc 85 true (.tuple #[])).run Tryd.prog w = .ok (.pointer (some ⟨w.heap.size, 0, none⟩)) (w.alloc (.cells #[.int .i64 0, .int .i64 0, .int .i64 0] 85)) := by kernel_rfl
theorem infoTriple : (Tryd.prog.info? 85).map (·.size) = some 3 := by kernel_rfl
theorem eight_in (a : Int) : -8 < a.tmod 8 ∧ a.tmod 8 < 8 ∧ 0 ≤ (a.tmod 8 + 8).tmod 8 ∧ (a.tmod 8 + 8).tmod 8 < 8 := by
  have h1 := Int.tmod_lt_of_pos (a.tmod 8 + 8) (show (0 : Int) < 8 by omega)
  have h2 : -8 < a.tmod 8 := by
    have := Int.lt_tmod_of_pos a (show (0 : Int) < 8 by omega)
    omega
  have h3 := Int.tmod_lt_of_pos a (show (0 : Int) < 8 by omega)
  have h4 : 0 ≤ (a.tmod 8 + 8).tmod 8 := Int.tmod_nonneg 8 (by omega)
  exact ⟨h2, h3, h4, h1⟩
def OpR (D B gd gk x : Nat) (wa : World) (c : Nat) (wr : World) : Prop :=
  ∃ (F G : Nat → Prop) (S : St) (pl : Int) (num : Nat) (last : List UInt8), OpW B gd gk x F G S S (markI pl num last) wr ∧ OpS D S c ∧ num < 18446744073709551616 ∧ last.length = 32 ∧ In64 pl ∧ Below B wa wr
def OpI (D B gd gk x : Nat) (wa : World) (num : Nat) (last : List UInt8) (bs : Nat) (pgs : List (List UInt8)) (y : Nat) (dv : List Value) (c : Nat) (wr : World) : Prop :=
  ∃ (F G : Nat → Prop) (S : St) (pl : Int), OpW B gd gk x F G S S (markI pl num last) wr ∧ OpS D S c ∧ In64 pl ∧ ImgAt bs pgs wr ∧ wr.heap[y]? = some (.cells dv.toArray 23 (0, 0)) ∧ (¬ F bs ∧ ¬ G bs ∧ bs ≠ x) ∧ (¬ F y ∧ ¬ G y ∧ y ≠ x) ∧ Below B wa wr
theorem xor8b (a b : UInt8) : bits .xor .u8 (bz a) (bz b) = bz (a ^^^ b) := by
  rw [u8_xor _ _ (bz_nonneg a) (bz_lt a) (bz_nonneg b) (bz_lt b), bz_eq, bz_eq, bz_eq, UInt8.toNat_xor]; rfl
theorem splice_markI (pl : Int) (n : Nat) (last d : List UInt8) (h : last.length = 32) (h2 : d.length = 32) : splice (markI pl n last) 2 (d.map cu8) = markI pl n d := by
  have e : (last.map cu8).length = 32 := by simp [h]
  have e2 : (d.map cu8).length = 32 := by simp [h2]
  simp [splice, markI, h, h2]
set_option maxRecDepth 100000 in
set_option maxHeartbeats 16000000 in
theorem ringOpens_any (pl : Int) (num : Nat) (last : List UInt8) (hlast : last.length = 32) (hnum : num < 18446744073709551616) (hpl : -9223372036854775808 ≤ pl ∧ pl ≤ 9223372036854775807) (bp : Option Addr) (l : List (Int × Int)) (cap : Nat) (w : World) (h63 : l.length ≤ 9223372036854775807) (hC : PairsAt w.heap.size w bp l) (h0 : bp = none → l.length = 0 ∧ cap = 0) (hI : ∀ q ∈ l, InInt q)
    (bp3 : Option Addr) (l3 : List (Int × Int × Int)) (cap3 : Nat) (h633 : l3.length ≤ 9223372036854775807) (hC3 : TriplesAt w.heap.size w bp3 l3) (hI3 : ∀ q ∈ l3, InInt3 q) (hL : Laid w) :
    Calls Tryd.prog 5 #[.agg (markI pl num last).toArray, .slice bp l.length cap, .slice bp3 l3.length cap3] w fun e w' => e = .returned (.bool true) ∧ Below w.heap.size w w' := by
  obtain ⟨L, hLn⟩ : ∃ L, l.length = L := ⟨_, rfl⟩
  obtain ⟨L3, hLn3⟩ : ∃ L3, l3.length = L3 := ⟨_, rfl⟩
  rw [hLn] at h0 h63 ⊢
  rw [hLn3] at h633 ⊢
  obtain ⟨mvp, Hmv⟩ : ∃ mv : List Value, Hid (mv = markI pl num last) := ⟨_, rfl⟩
  rw [← Hmv.out]
  have hmvl : mvp.length = 34 := by rw [Hmv.out]; simp [markI, hlast]
  have hmi : Hid ((Tryd.prog.info? 25).map (·.size) = some mvp.toArray.size) := by rw [List.size_toArray, hmvl]; exact infoPMark
  have hmiR : Hid ((Tryd.prog.info? 46).map (·.size) = some mvp.toArray.size) := by rw [List.size_toArray, hmvl]; exact infoRMark
  have hmz : Hid (zMark.toArray.size = mvp.toArray.size) := by rw [show mvp.toArray.size = 34 from by rw [List.size_toArray, hmvl]]; exact (rfl : zMark.toArray.size = 34)
  have hmone : Hid (mvp.toArray.all (·.oneCell') = true) := by rw [Hmv.out]; exact all_oneCell_toArray (markI_one pl num last)
  have hbA : Below w.heap.size w (w.alloc (.cells mvp.toArray 25)) := (Below.refl _ _).alloc (Nat.le_refl _) _
  have hxA : (w.alloc (.cells mvp.toArray 25)).heap[w.heap.size]? = some (.cells mvp.toArray 25 (0, 0)) := heap_alloc_new w _
  have hszA : (w.alloc (.cells mvp.toArray 25)).heap.size = w.heap.size + 1 := by simp
  have hpos := hL.pos
  have hLd := hL.below hpos hbA
  clear hmvl
  go_enter Tryd.func5, Tryd.ntmps5
  go_upto_region 1 with (fail)
  generalize w.alloc (.cells mvp.toArray 25) = wa at hbA hxA hszA hLd ⊢
  obtain ⟨mb, hmb⟩ : ∃ x, w.heap.size = x := ⟨_, rfl⟩
  rw [hmb] at hbA hxA hszA hC hC3 ⊢
  obtain ⟨B, hB⟩ : ∃ B, mb + 1 = B := ⟨_, rfl⟩
  have hwa : wa.heap.size = B := by rw [hszA, hB]
  have hCw : ∀ W, Below B wa W → PairsAt mb W bp l := fun W hW => hC.below (hbA.trans (hW.mono (by omega)))
  have hCw3 : ∀ W, Below B wa W → TriplesAt mb W bp3 l3 := fun W hW => hC3.below (hbA.trans (hW.mono (by omega)))
  have hMw : ∀ W, Below B wa W → W.heap[mb]? = some (.cells mvp.toArray 25 (0, 0)) := fun W hW => (hW.block mb (by omega)).trans hxA
  have hFin : ∀ W, Below B wa W → Below w.heap.size w W := fun W hW => by rw [hmb]; exact hbA.trans (hW.mono (by omega))
  have hLw : ∀ W, Below B wa W → Laid W := fun W hW => hLd.below (by omega) hW
  have HCw := Lib.hid hCw; have HCw3 := Lib.hid hCw3; have HMw := Lib.hid hMw; have HFin := Lib.hid hFin; have HLw := Lib.hid hLw; have HI := Lib.hid hI; have HI3 := Lib.hid hI3; have HLn := Lib.hid hLn; have HLn3 := Lib.hid hLn3
  have hb0 : Below B wa wa := Below.refl _ _
  clear hCw hCw3 hMw hFin hLw hC hC3 hxA hbA hL hLd hI hI3 hLn hLn3 hmb hszA
  have hMark : ∀ W, Calls Tryd.prog 16 #[.agg mvp.toArray] W (AggPost (fun r => r = mvp.toArray) W) := fun W => by rw [Hmv.out]; exact lmark_any pl num last hlast W
  have HMark := Lib.hid hMark
  clear hMark
  go_wp2_with (go_at_call 10; refine (stands_any _).mono ?_)
  rintro e w1 ⟨rfl, hb1⟩
  rw [hwa] at hb1
  have hfew := few_any bp L cap
  obtain ⟨bf, hbf⟩ : ∃ bf, decide (L ≤ 40) = bf := ⟨_, rfl⟩
  cases bf with
  | false =>
    have hL40 : ¬ L ≤ 40 := of_decide_eq_false hbf
    go_wp2_with (go_at_call 11; refine (hfew (by omega) w1).mono ?_)
    rintro e w2 ⟨rfl, rfl⟩
    rw [hbf]
    go_wp2
    go_ret
    exact ⟨rfl, HFin.out _ hb1⟩
  | true =>
  by_cases hL350 : (50 : Int) < L3
  · go_wp2_with (go_at_call 11; refine (hfew (by omega) w1).mono ?_)
    rintro e w2 ⟨rfl, rfl⟩
    rw [hbf]
    go_wp2
    go_ret
    exact ⟨rfl, HFin.out _ hb1⟩
  · have hL40 : L ≤ 40 := of_decide_eq_true hbf
    go_wp2_with (go_at_call 11; refine (hfew (by omega) w1).mono ?_)
    rintro e w2 ⟨rfl, rfl⟩
    rw [hbf]
    clear hbf hfew
    go_wp2_with (go_at_call 12; refine (pd_new 200 (by omega) (by omega) _).mono ?_)
    rintro e w2 ⟨v, rfl, gd, F1, rfl, hP1, hb2, hF1⟩
    have s1 := hb1.size
    rw [hwa] at s1
    have hb02 := hb1.trans (hb2.mono s1)
    have s2 := hb02.size
    rw [hwa] at s2
    go_wp2_with (go_at_call 13; refine (rd_new 200 (by omega) (by omega) _).mono ?_)
    rintro e w3 ⟨v, rfl, gk, G1, rfl, hR1, hb3, hG1⟩
    have hb03 := hb02.trans (hb3.mono s2)
    have s3 := hb03.size
    rw [hwa] at s3
    have hP3 := hP1.below hb3
    have hsep : ∀ j, F1 j → ¬ G1 j := fun j hf hg => by have := hP1.lt hf; have := hG1 j hg; omega
    have hM3 := HMw.out w3 hb03
    clear hb1 hb2 hb02 hP1 hb3
    go_wp2_with (first
      | (refine wpList_load_row rfl 25 _ rfl mb rfl 25 mvp.toArray (0, 0) _ hM3 Tryd.underlying25 rfl hmi.out ?_)
      | (go_at_call 16; refine (HMark.out _).mono ?_))
    rintro e w4 ⟨rv, hrv, rfl, hb4⟩
    obtain rfl := hrv.out
    have hb04 := hb03.trans (hb4.mono s3)
    have s4 := hb04.size
    rw [hwa] at s4
    have hx4 : Below w4.heap.size w4 (w4.alloc (.cells mvp.toArray 46)) := (Below.refl _ _).alloc (Nat.le_refl _) _
    have hbox : (w4.alloc (.cells mvp.toArray 46)).heap[w4.heap.size]? = some (.cells mvp.toArray 46 (0, 0)) := heap_alloc_new w4 _
    have hP5 := (hP3.below hb4).below hx4
    have hR5 := (hR1.below hb4).below hx4
    have hb05 := hb04.trans (hx4.mono s4)
    have hFl : ∀ j, F1 j → j < w4.heap.size := fun j hj => (hP3.below hb4).lt hj
    have hGl : ∀ j, G1 j → j < w4.heap.size := fun j hj => (hR1.below hb4).lt hj
    clear hM3 hb03 hb4 hP3 hR1 hb04 hx4
    go_upto_region 9 with (first
      | (refine wpList_alloc_arr rfl 46 rfl _ allocRMark ?_)
      | (refine wpList_store_new rfl 46 _ _ rfl w4.heap.size rfl mvp.toArray rfl rfl 46 _ hmiR.out hmz.out hmone.out ?_))
    generalize hw5 : w4.alloc (.cells mvp.toArray 46) = w5 at hbox hP5 hR5 hb05 ⊢
    obtain ⟨x, hx⟩ : ∃ x, w4.heap.size = x := ⟨_, rfl⟩
    rw [hx] at hbox hFl hGl s4 ⊢
    have hW5 : OpW B gd gk x F1 G1 (newS 200) (newS 200) (markI pl num last) w5 := ⟨hP5, hR5, by rw [← Hmv.out]; exact hbox, hsep, fun h => by have := hFl x h; omega, fun h => by have := hGl x h; omega, fun j hj => by have := hF1 j hj; omega, fun j hj => by have := hG1 j hj; omega, s4⟩
    have hR0 : OpR 200 B gd gk x wa 0 w5 := ⟨F1, G1, newS 200, pl, num, last, hW5, OpS.new (by omega) (by omega), hnum, hlast, hpl, hb05⟩
    have HR0 := Lib.hid hR0
    clear hx hw5 hbox hP5 hR5 hb05 hFl hGl hsep hF1 hG1 hW5 hR0 hmiR hmz hmone s1 s2 s3 s4
    go_wp2
    go_loopg [52] L (fun gg i wr => ∃ (k : Nat), k ≤ L ∧ gg = L - k ∧ i = .int .i64 k ∧ OpR 200 B gd gk x wa (10 * k) wr)
    case atStart => exact ⟨0, by omega, by omega, rfl, HR0.out⟩
    case round =>
      clear HR0
      obtain ⟨k, hk, rfl, rfl, F, G, S, pl', num', last', hW, hS, hnm, hla, hpl', hbel⟩ := hrel
      by_cases hlt : k < L
      · have hlt' : (k : Int) < L := by omega
        obtain ⟨⟨a0, a1⟩, hqq⟩ : ∃ p, l[k]? = some p := ⟨_, List.getElem?_eq_getElem (by rw [HLn.out]; exact hlt)⟩
        have hin : InInt (a0, a1) := HI.out _ (List.mem_of_getElem? hqq)
        have hCk := HCw.out _ hbel
        obtain ⟨b, o, rfl, _, hcs⟩ := hCk.resolve_left (fun h => by rw [h] at hqq; simp at hqq)
        obtain ⟨hp0, hp1⟩ := hcs k _ hqq
        obtain ⟨pc, Hpc⟩ : ∃ pc : List Value, Hid (pc = [.int .i64 a0, .int .i64 a1]) := ⟨_, rfl⟩
        have hrg : wr.rangeAt b (o + k * 2) pc := by
          rw [Hpc.out]
          intro j u hj
          match j, hj with
          | 0, hj => rw [← hj]; exact hp0
          | 1, hj => rw [← hj]; exact hp1
        have Hrg := Lib.hid hrg
        have hci : Hid ((Tryd.prog.info? 27).map (·.size) = some pc.length) := by rw [Hpc.out]; exact infoTwo
        have hci2 : Hid ((Tryd.prog.info? 27).map (·.size) = some pc.toArray.size) := by rw [Hpc.out]; exact infoTwo
        have hcz : Hid ((#[.int .i64 0, .int .i64 0] : Array Value).size = pc.toArray.size) := by show (#[.int .i64 0, .int .i64 0] : Array Value).size = pc.toArray.size; rw [Hpc.out]; rfl
        have hcone : Hid (pc.toArray.all (·.oneCell') = true) := by rw [Hpc.out]; exact all_oneCell_toArray (fun u hu => by simp only [List.mem_cons, List.not_mem_nil, or_false] at hu; rcases hu with rfl | rfl <;> rfl)
        have hbx : Below wr.heap.size wr (wr.alloc (.cells pc.toArray 27)) := (Below.refl _ _).alloc (Nat.le_refl _) _
        have hxx : (wr.alloc (.cells pc.toArray 27)).heap[wr.heap.size]? = some (.cells pc.toArray 27 (0, 0)) := heap_alloc_new wr _
        have hWx := hW.below hbx
        have hle := hW.le
        have hbelx := hbel.trans (hbx.mono hle)
        clear hp0 hp1 hqq hrg hW hbel hcs hCk
        go_upto_region 12 with (first
          | (refine wpList_alloc_arr rfl 27 rfl _ allocTwo ?_)
          | (refine wpList_load_mid rfl 27 _ rfl b (o + k * 2) rfl pc _ Hrg.out Tryd.underlying27 rfl hci.out ?_)
          | (refine wpList_store_new rfl 27 _ _ rfl wr.heap.size rfl pc.toArray rfl rfl 27 _ hci2.out hcz.out hcone.out ?_))
        generalize hwx : wr.alloc (.cells pc.toArray 27) = wx at hbx hxx hWx hbelx ⊢
        obtain ⟨z, hz⟩ : ∃ z, wr.heap.size = z := ⟨_, rfl⟩
        rw [hz] at hxx ⊢
        have hcc : ∀ W, Below wx.heap.size wx W → W.cell? ⟨z, 0, none⟩ = some (.int .i64 a0) ∧ W.cell? ⟨z, 1, none⟩ = some (.int .i64 a1) := fun W hW => by
          have hx2 := (hW.block z (Array.getElem?_eq_some_iff.1 hxx).1).trans hxx
          exact ⟨by rw [cell_of_row W z 0 _ _ _ hx2, Hpc.out]; rfl, by rw [cell_of_row W z 1 _ _ _ hx2, Hpc.out]; rfl⟩
        have Hcc := Lib.hid hcc
        clear hwx hbx hxx Hrg hci hci2 hcz hcone hcc
        obtain ⟨u1, u2, u3, u4⟩ := eight_in a0
        obtain ⟨t1, ht1⟩ : ∃ t, a0.tmod 8 = t := ⟨_, rfl⟩
        rw [ht1] at u1 u2 u3 u4
        obtain ⟨t2, ht2⟩ : ∃ t, t1 + 8 = t := ⟨_, rfl⟩
        rw [ht2] at u3 u4
        obtain ⟨t3, ht3⟩ : ∃ t, t2.tmod 8 = t := ⟨_, rfl⟩
        rw [ht3] at u3 u4
        obtain ⟨N, hN⟩ : ∃ N : Nat, t3 + 1 = (N : Int) := ⟨(t3 + 1).toNat, by omega⟩
        have q1 : IntKind.i64.wrap t1 = t1 := IntWalk.i64_in _ (by omega)
        have q2 : IntKind.i64.wrap (t1 + 8) = t2 := by rw [ht2]; exact IntWalk.i64_in _ (by omega)
        have q2b : IntKind.i64.wrap t2 = t2 := IntWalk.i64_in _ (by omega)
        have q3 : IntKind.i64.wrap t3 = t3 := IntWalk.i64_in _ (by omega)
        have q4 : IntKind.i64.wrap (t3 + 1) = (N : Int) := by rw [hN]; exact IntWalk.i64_in _ (by omega)
        have q4b : IntKind.i64.wrap (N : Int) = (N : Int) := IntWalk.i64_in _ (by omega)
        have n1 : 1 ≤ N := by omega
        have n8 : N ≤ 8 := by omega
        obtain ⟨X, hX⟩ : ∃ X, (a1 % 16777216).toNat = X := ⟨_, rfl⟩
        have hX24 : X < 16777216 := by omega
        have hfit := chgs_fit N X n1 (by omega) hX24
        have hch : ∀ W, Calls Tryd.prog 19 #[.int .i64 N, .int .i64 a1] W (ChgP (chgs N X) N W) := fun W => by
          rw [← hX]
          exact (lchanges_any N (by omega) a1 W).mono fun e W' h => chgP_of (chgs_length N _) n1 (by rw [hX]; exact hfit.what) h
        obtain ⟨cg, hcg⟩ : ∃ cg, chgs N X = cg := ⟨_, rfl⟩
        have hcgl : cg.length = N := by rw [← hcg, chgs_length]
        rw [hcg] at hch hfit
        have htd : ∀ (W : World) (b cp : Nat), Chgs W.heap.size W (some ⟨b, 0, none⟩) cg → Calls Tryd.prog 24 #[.slice (some ⟨b, 0, none⟩) N cp] W (ChgP cg N W) := fun W b cp h => by
          have := told_any cg (some ⟨b, 0, none⟩) cp hfit.what (by omega) W h
          rw [hcgl] at this
          exact this.mono fun e W' h => chgP_of hcgl n1 hfit.what h
        obtain ⟨mq, Hmq⟩ : ∃ mq : List Value, Hid (mq = markI pl' num' last') := ⟨_, rfl⟩
        obtain ⟨T, hT⟩ : ∃ T, takes N = T := ⟨_, rfl⟩
        have hT10 : T ≤ 10 := by rw [← hT]; unfold takes; omega
        obtain ⟨m', hm'⟩ : ∃ m' : Mk, m' = ⟨0, num', last'⟩ := ⟨_, rfl⟩
        obtain ⟨pgs, Hpgs⟩ : ∃ pgs, Hid (pgs = sectors m' cg) := ⟨_, rfl⟩
        have hpgl : pgs.length = T := by rw [Hpgs.out, sectors_length, hcgl, hT]
        obtain ⟨dgl, Hdg⟩ : ∃ dgl, Hid (dgl = dig (textOf m' cg)) := ⟨_, rfl⟩
        have hdgl : dgl.length = 32 := by rw [Hdg.out]; exact dig_len _
        obtain ⟨dv, Hdv⟩ : ∃ dv : List Value, Hid (dv = dgl.map cu8) := ⟨_, rfl⟩
        have hsc : ∀ (W : World) (b cp : Nat), Chgs W.heap.size W (some ⟨b, 0, none⟩) cg → Calls Tryd.prog 34 #[.agg mq.toArray, .slice (some ⟨b, 0, none⟩) N cp] W (SecP pgs T dv W) := fun W b cp h => by
          have := rsectorsI_any (w := W) pl' m' (by rw [hm']; exact hla) (by rw [hm']; exact hnm) cg hfit (some ⟨b, 0, none⟩) cp h
          unfold RSectP at this
          rw [← Hpgs.out, ← Hdg.out, ← Hdv.out, hcgl, hT] at this
          rw [Hmq.out]
          rw [hm'] at this
          exact this
        have hdi : Hid ((Tryd.prog.info? 23).map (·.size) = some dv.toArray.size) := by rw [List.size_toArray, show dv.length = 32 from by rw [Hdv.out, List.length_map, hdgl]]; exact (by kernel_rfl : (Tryd.prog.info? 23).map (·.size) = some 32)
        have hdz : Hid (z32.toArray.size = dv.toArray.size) := by rw [show dv.toArray.size = 32 from by rw [List.size_toArray, show dv.length = 32 from by rw [Hdv.out, List.length_map, hdgl]]]; exact (rfl : z32.toArray.size = 32)
        have hd1 : Hid (dv.toArray.all (·.oneCell') = true) := by rw [Hdv.out]; exact bytes_one _
        have Hch := Lib.hid hch; have Htd := Lib.hid htd; have Hsc := Lib.hid hsc; have HWx := Lib.hid hWx; have HT := Lib.hid hT; have Hpgl := Lib.hid hpgl
        have hmql : mq.length = 34 := by rw [Hmq.out]; simp [markI, hla]
        have HLd := Lib.hid (fun W (hW : Below wx.heap.size wx W) => run_loadAt_mid (P := Tryd.prog) W x 0 46 mq _ (fun j v hj => by rw [Nat.zero_add, cell_of_row W x j _ _ _ (hWx.below hW).box, ← Hmq.out]; simpa using hj) Tryd.underlying46 rfl (by rw [hmql]; exact infoRMark))
        have hle2 := hWx.le
        clear hch htd hsc hWx hT hpgl ht2 hcg hX hX24 hfit hcgl
        refine wp_region_up 17 (fun w' => Below wx.heap.size wx w') (by kernel_rfl) ?_
        have hb2 : Below wx.heap.size wx { wx with drawn := wx.drawn + 1 } := ⟨rfl, rfl, rfl, Nat.le_refl _, fun _ _ => rfl⟩
        obtain ⟨wd, hdr⟩ : ∃ wd : World, ({ wx with drawn := wx.drawn + 1 } : World) = wd := ⟨_, rfl⟩
        rw [hdr] at hb2 ⊢
        clear hdr
        apply cut8 (R := fun _ _ _ _ bs _ y wf => ImgAt bs pgs wf ∧ wf.heap[y]? = some (.cells dv.toArray 23 (0, 0)) ∧ Below wx.heap.size wx wf ∧ wx.heap.size ≤ bs ∧ wx.heap.size ≤ y)
        case walk =>
          intro key
          refine up_take (i := 0) (v := .agg mq.toArray) rfl (by kernel_rfl) (by kernel_rfl) (fun _ _ _ h => h) (Or.inl ⟨by rfl, ?_⟩) hb2 ?_
          · intro w' hS'; exact exec_load _ _ 46 _ rfl x 0 rfl _ (HLd.out w' hS')
          try simp only [List.getElem_toArray, List.getElem_cons_succ, List.getElem_cons_zero, Act.put, List.setIfInBounds_toArray, List.set]
          refine up_take (i := 1) (v := .pointer (some ⟨z, 0, none⟩)) rfl (by kernel_rfl) (by kernel_rfl) (fun _ _ _ h => h) (Or.inl ⟨by rfl, ?_⟩) hb2 ?_
          · intro w' _; go_simp
          try simp only [List.getElem_toArray, List.getElem_cons_succ, List.getElem_cons_zero, Act.put, List.setIfInBounds_toArray, List.set]
          refine up_take (i := 2) (v := .int .i64 a0) rfl (by kernel_rfl) (by kernel_rfl) (fun _ _ _ h => h) (Or.inl ⟨by rfl, ?_⟩) hb2 ?_
          · intro w' hS'
            obtain ⟨c0, c1⟩ := Hcc.out w' hS'
            clear hS'
            go_simp
          try simp only [List.getElem_toArray, List.getElem_cons_succ, List.getElem_cons_zero, Act.put, List.setIfInBounds_toArray, List.set]
          refine up_take (i := 3) (v := .int .i64 t1) rfl (by kernel_rfl) (by kernel_rfl) (fun _ _ _ h => h) (Or.inl ⟨by rfl, ?_⟩) hb2 ?_
          · intro w' _; go_simp
          try simp only [List.getElem_toArray, List.getElem_cons_succ, List.getElem_cons_zero, Act.put, List.setIfInBounds_toArray, List.set]
          refine up_take (i := 4) (v := .int .i64 t2) rfl (by kernel_rfl) (by kernel_rfl) (fun _ _ _ h => h) (Or.inl ⟨by rfl, ?_⟩) hb2 ?_
          · intro w' _; go_simp
          try simp only [List.getElem_toArray, List.getElem_cons_succ, List.getElem_cons_zero, Act.put, List.setIfInBounds_toArray, List.set]
          refine up_take (i := 5) (v := .int .i64 t3) rfl (by kernel_rfl) (by kernel_rfl) (fun _ _ _ h => h) (Or.inl ⟨by rfl, ?_⟩) hb2 ?_
          · intro w' _; go_simp
          try simp only [List.getElem_toArray, List.getElem_cons_succ, List.getElem_cons_zero, Act.put, List.setIfInBounds_toArray, List.set]
          refine up_take (i := 6) (v := .int .i64 N) rfl (by kernel_rfl) (by kernel_rfl) (fun _ _ _ h => h) (Or.inl ⟨by rfl, ?_⟩) hb2 ?_
          · intro w' _; go_simp
          try simp only [List.getElem_toArray, List.getElem_cons_succ, List.getElem_cons_zero, Act.put, List.setIfInBounds_toArray, List.set]
          refine up_take (i := 7) (v := .pointer (some ⟨z, 1, none⟩)) rfl (by kernel_rfl) (by kernel_rfl) (fun _ _ _ h => h) (Or.inl ⟨by rfl, ?_⟩) hb2 ?_
          · intro w' _; go_simp
          try simp only [List.getElem_toArray, List.getElem_cons_succ, List.getElem_cons_zero, Act.put, List.setIfInBounds_toArray, List.set]
          refine up_take (i := 8) (v := .int .i64 a1) rfl (by kernel_rfl) (by kernel_rfl) (fun _ _ _ h => h) (Or.inl ⟨by rfl, ?_⟩) hb2 ?_
          · intro w' hS'
            obtain ⟨c0, c1⟩ := Hcc.out w' hS'
            clear hS'
            go_simp
          try simp only [List.getElem_toArray, List.getElem_cons_succ, List.getElem_cons_zero, Act.put, List.setIfInBounds_toArray, List.set]
          refine up_two 9 15 _ _ rfl rfl (by kernel_rfl) (by decide) (by decide) (by rfl) (by rfl) (fun K hK => ?p3) (fun K hK => ?q3)
          case' p3 =>
            go_simp
            refine (Hch.out _).mono ?_
            rintro e v3 ⟨b8, cp8, rfl, hC8, hbn⟩
            have hb3 := hb2.trans (hbn.mono hb2.size)
            refine hK _ _ hb3 ?_
            clear hK K hbn
            try simp only [List.getElem_toArray, List.getElem_cons_succ, List.getElem_cons_zero, Act.put, List.setIfInBounds_toArray, List.set]
            refine up_two 10 15 _ _ rfl rfl (by kernel_rfl) (by decide) (by decide) (by rfl) (by rfl) (fun K hK => ?p2) (fun K hK => ?q2)
            case' p2 =>
              go_simp
              refine (Htd.out _ b8 cp8 hC8).mono ?_
              rintro e v4 ⟨b9, cp9, rfl, hC9, hbn⟩
              have hb4 := hb3.trans (hbn.mono hb3.size)
              clear hC8
              refine hK _ _ hb4 ?_
              clear hK K hbn
              try simp only [List.getElem_toArray, List.getElem_cons_succ, List.getElem_cons_zero, Act.put, List.setIfInBounds_toArray, List.set]
              refine up_two 11 15 _ _ rfl rfl (by kernel_rfl) (by decide) (by decide) (by rfl) (by rfl) (fun K hK => ?p1) (fun K hK => ?q1)
              case' p1 =>
                go_simp
                refine (Hsc.out _ b9 cp9 hC9).mono ?_
                rintro e v5 ⟨bs, cs, rfl, hbs, himg, hbn⟩
                have hb5 := hb4.trans (hbn.mono hb4.size)
                clear hC9
                have hbs2 : wx.heap.size ≤ bs := by have := hb4.size; omega
                refine hK _ _ hb5 ?_
                clear hK K hbn
                try simp only [List.getElem_toArray, List.getElem_cons_succ, List.getElem_cons_zero, Act.put, List.setIfInBounds_toArray, List.set]
                refine up_take (i := 12) (v := .tuple #[.slice (some ⟨bs, 0, none⟩) T cs, .agg dv.toArray]) rfl (by kernel_rfl) (by kernel_rfl) (fun _ _ _ h => h) (Or.inl ⟨by rfl, ?_⟩) hb5 ?_
                · intro w' _; go_simp
                try simp only [List.getElem_toArray, List.getElem_cons_succ, List.getElem_cons_zero, Act.put, List.setIfInBounds_toArray, List.set]
                refine up_take (i := 13) (v := .slice (some ⟨bs, 0, none⟩) T cs) rfl (by kernel_rfl) (by kernel_rfl) (fun _ _ _ h => h) (Or.inl ⟨by rfl, ?_⟩) hb5 ?_
                · intro w' _; go_simp
                try simp only [List.getElem_toArray, List.getElem_cons_succ, List.getElem_cons_zero, Act.put, List.setIfInBounds_toArray, List.set]
                refine up_take (i := 14) (v := .agg dv.toArray) rfl (by kernel_rfl) (by kernel_rfl) (fun _ _ _ h => h) (Or.inl ⟨by rfl, ?_⟩) hb5 ?_
                · intro w' _; go_simp
                try simp only [List.getElem_toArray, List.getElem_cons_succ, List.getElem_cons_zero, Act.put, List.setIfInBounds_toArray, List.set]
                refine up_one 15 _ rfl (by kernel_rfl) (by decide) (by rfl) (fun K hK => ?_)
                refine wp_alloc_arr 23 rfl _ alloc32 ?_
                have hbn : Below v5.heap.size v5 (v5.alloc (.cells z32.toArray 23)) := (Below.refl _ _).alloc (Nat.le_refl _) _
                have hb6 := hb5.trans (hbn.mono hb5.size)
                obtain ⟨y, hye⟩ : ∃ y, v5.heap.size = y := ⟨_, rfl⟩
                have hy : (v5.alloc (.cells z32.toArray 23)).heap[y]? = some (.cells z32.toArray 23 (0, 0)) := by rw [← hye]; exact heap_alloc_new _ _
                have hyl : wx.heap.size ≤ y := by have := hb5.size; omega
                have hne : bs ≠ y := fun e => by have := himg.1; omega
                have himg := himg.below hbn
                generalize hwa : v5.alloc (.cells z32.toArray 23) = v6 at *
                rw [hye]
                refine hK _ _ hb6 ?_
                clear hK K hwa hbn
                try simp only [List.getElem_toArray, List.getElem_cons_succ, List.getElem_cons_zero, Act.put, List.setIfInBounds_toArray, List.set]
                refine up_take (i := 16) (v := .slice (some ⟨bs, 0, none⟩) T cs) rfl (by kernel_rfl) (by kernel_rfl) (fun _ _ _ h => h) (Or.inl ⟨by rfl, ?_⟩) hb6 ?_
                · intro w' _; go_simp
                try simp only [List.getElem_toArray, List.getElem_cons_succ, List.getElem_cons_zero, Act.put, List.setIfInBounds_toArray, List.set]
                refine up_tail ?_
                refine up_last 17 _ rfl (by kernel_rfl) (by decide) (by rfl) (fun K hK => ?_)
                refine wp_store_row 23 _ _ rfl y dv.toArray rfl rfl 23 z32.toArray hy hdi.out hdz.out hd1.out ?_
                refine hK _ _ ?_
                clear hK K
                try simp only [List.getElem_toArray, List.getElem_cons_succ, List.getElem_cons_zero, Act.put, List.setIfInBounds_toArray, List.set]
                refine up_done (by kernel_rfl) ?_ _
                exact key b8 cp8 b9 cp9 bs cs y _ ⟨⟨by simpa [World.setRow] using himg.1, fun i p hi => ⟨(himg.2 i p hi).1, range_keep (himg.2 i p hi).2 (setRow_other _ hne)⟩⟩, setRow_heap _ _ _ _ _ _ hy, below_setRow hb6 hyl _, hbs2, hyl⟩
              case' q1 =>
                refine wp_alloc_arr 23 rfl _ alloc32 ?_
                have hbn : Below v4.heap.size v4 (v4.alloc (.cells z32.toArray 23)) := (Below.refl _ _).alloc (Nat.le_refl _) _
                have hb5 := hb4.trans (hbn.mono hb4.size)
                obtain ⟨y, hye⟩ : ∃ y, v4.heap.size = y := ⟨_, rfl⟩
                have hy : (v4.alloc (.cells z32.toArray 23)).heap[y]? = some (.cells z32.toArray 23 (0, 0)) := by rw [← hye]; exact heap_alloc_new _ _
                have hyl : wx.heap.size ≤ y := by have := hb4.size; omega
                have hC9 := (hC9.below hbn).mono hbn.size
                generalize hwa : v4.alloc (.cells z32.toArray 23) = v5 at *
                rw [hye]
                refine hK _ _ hb5 ?_
                clear hK K hwa hbn
                try simp only [List.getElem_toArray, List.getElem_cons_succ, List.getElem_cons_zero, Act.put, List.setIfInBounds_toArray, List.set]
                refine up_one 11 _ rfl (by kernel_rfl) (by decide) (by rfl) (fun K hK => ?_)
                have hyo := hy
                go_simp
                refine (Hsc.out _ b9 cp9 hC9).mono ?_
                rintro e v6 ⟨bs, cs, rfl, hbs, himg, hbn⟩
                have hb6 := hb5.trans (hbn.mono hb5.size)
                clear hC9
                have hbs2 : wx.heap.size ≤ bs := by have := hb5.size; omega
                have hy := (hbn.block y (Array.getElem?_eq_some_iff.1 hy).1).trans hy
                have hne : bs ≠ y := fun e => by have := hyl; have := (Array.getElem?_eq_some_iff.1 hyo).1; omega
                refine hK _ _ hb6 ?_
                clear hK K hbn
                try simp only [List.getElem_toArray, List.getElem_cons_succ, List.getElem_cons_zero, Act.put, List.setIfInBounds_toArray, List.set]
                refine up_take (i := 12) (v := .tuple #[.slice (some ⟨bs, 0, none⟩) T cs, .agg dv.toArray]) rfl (by kernel_rfl) (by kernel_rfl) (fun _ _ _ h => h) (Or.inl ⟨by rfl, ?_⟩) hb6 ?_
                · intro w' _; go_simp
                try simp only [List.getElem_toArray, List.getElem_cons_succ, List.getElem_cons_zero, Act.put, List.setIfInBounds_toArray, List.set]
                refine up_take (i := 13) (v := .slice (some ⟨bs, 0, none⟩) T cs) rfl (by kernel_rfl) (by kernel_rfl) (fun _ _ _ h => h) (Or.inl ⟨by rfl, ?_⟩) hb6 ?_
                · intro w' _; go_simp
                try simp only [List.getElem_toArray, List.getElem_cons_succ, List.getElem_cons_zero, Act.put, List.setIfInBounds_toArray, List.set]
                refine up_take (i := 14) (v := .agg dv.toArray) rfl (by kernel_rfl) (by kernel_rfl) (fun _ _ _ h => h) (Or.inl ⟨by rfl, ?_⟩) hb6 ?_
                · intro w' _; go_simp
                try simp only [List.getElem_toArray, List.getElem_cons_succ, List.getElem_cons_zero, Act.put, List.setIfInBounds_toArray, List.set]
                refine up_take (i := 16) (v := .slice (some ⟨bs, 0, none⟩) T cs) rfl (by kernel_rfl) (by kernel_rfl) (fun _ _ _ h => h) (Or.inl ⟨by rfl, ?_⟩) hb6 ?_
                · intro w' _; go_simp
                try simp only [List.getElem_toArray, List.getElem_cons_succ, List.getElem_cons_zero, Act.put, List.setIfInBounds_toArray, List.set]
                refine up_tail ?_
                refine up_last 17 _ rfl (by kernel_rfl) (by decide) (by rfl) (fun K hK => ?_)
                refine wp_store_row 23 _ _ rfl y dv.toArray rfl rfl 23 z32.toArray hy hdi.out hdz.out hd1.out ?_
                refine hK _ _ ?_
                clear hK K
                try simp only [List.getElem_toArray, List.getElem_cons_succ, List.getElem_cons_zero, Act.put, List.setIfInBounds_toArray, List.set]
                refine up_done (by kernel_rfl) ?_ _
                exact key b8 cp8 b9 cp9 bs cs y _ ⟨⟨by simpa [World.setRow] using himg.1, fun i p hi => ⟨(himg.2 i p hi).1, range_keep (himg.2 i p hi).2 (setRow_other _ hne)⟩⟩, setRow_heap _ _ _ _ _ _ hy, below_setRow hb6 hyl _, hbs2, hyl⟩
            case' q2 =>
              refine wp_alloc_arr 23 rfl _ alloc32 ?_
              have hbn : Below v3.heap.size v3 (v3.alloc (.cells z32.toArray 23)) := (Below.refl _ _).alloc (Nat.le_refl _) _
              have hb4 := hb3.trans (hbn.mono hb3.size)
              obtain ⟨y, hye⟩ : ∃ y, v3.heap.size = y := ⟨_, rfl⟩
              have hy : (v3.alloc (.cells z32.toArray 23)).heap[y]? = some (.cells z32.toArray 23 (0, 0)) := by rw [← hye]; exact heap_alloc_new _ _
              have hyl : wx.heap.size ≤ y := by have := hb3.size; omega
              have hC8 := (hC8.below hbn).mono hbn.size
              generalize hwa : v3.alloc (.cells z32.toArray 23) = v4 at *
              rw [hye]
              refine hK _ _ hb4 ?_
              clear hK K hwa hbn
              try simp only [List.getElem_toArray, List.getElem_cons_succ, List.getElem_cons_zero, Act.put, List.setIfInBounds_toArray, List.set]
              refine up_one 10 _ rfl (by kernel_rfl) (by decide) (by rfl) (fun K hK => ?_)
              go_simp
              refine (Htd.out _ b8 cp8 hC8).mono ?_
              rintro e v5 ⟨b9, cp9, rfl, hC9, hbn⟩
              have hb5 := hb4.trans (hbn.mono hb4.size)
              clear hC8
              have hy := (hbn.block y (Array.getElem?_eq_some_iff.1 hy).1).trans hy
              refine hK _ _ hb5 ?_
              clear hK K hbn
              try simp only [List.getElem_toArray, List.getElem_cons_succ, List.getElem_cons_zero, Act.put, List.setIfInBounds_toArray, List.set]
              refine up_one 11 _ rfl (by kernel_rfl) (by decide) (by rfl) (fun K hK => ?_)
              have hyo := hy
              go_simp
              refine (Hsc.out _ b9 cp9 hC9).mono ?_
              rintro e v6 ⟨bs, cs, rfl, hbs, himg, hbn⟩
              have hb6 := hb5.trans (hbn.mono hb5.size)
              clear hC9
              have hbs2 : wx.heap.size ≤ bs := by have := hb5.size; omega
              have hy := (hbn.block y (Array.getElem?_eq_some_iff.1 hy).1).trans hy
              have hne : bs ≠ y := fun e => by have := hyl; have := (Array.getElem?_eq_some_iff.1 hyo).1; omega
              refine hK _ _ hb6 ?_
              clear hK K hbn
              try simp only [List.getElem_toArray, List.getElem_cons_succ, List.getElem_cons_zero, Act.put, List.setIfInBounds_toArray, List.set]
              refine up_take (i := 12) (v := .tuple #[.slice (some ⟨bs, 0, none⟩) T cs, .agg dv.toArray]) rfl (by kernel_rfl) (by kernel_rfl) (fun _ _ _ h => h) (Or.inl ⟨by rfl, ?_⟩) hb6 ?_
              · intro w' _; go_simp
              try simp only [List.getElem_toArray, List.getElem_cons_succ, List.getElem_cons_zero, Act.put, List.setIfInBounds_toArray, List.set]
              refine up_take (i := 13) (v := .slice (some ⟨bs, 0, none⟩) T cs) rfl (by kernel_rfl) (by kernel_rfl) (fun _ _ _ h => h) (Or.inl ⟨by rfl, ?_⟩) hb6 ?_
              · intro w' _; go_simp
              try simp only [List.getElem_toArray, List.getElem_cons_succ, List.getElem_cons_zero, Act.put, List.setIfInBounds_toArray, List.set]
              refine up_take (i := 14) (v := .agg dv.toArray) rfl (by kernel_rfl) (by kernel_rfl) (fun _ _ _ h => h) (Or.inl ⟨by rfl, ?_⟩) hb6 ?_
              · intro w' _; go_simp
              try simp only [List.getElem_toArray, List.getElem_cons_succ, List.getElem_cons_zero, Act.put, List.setIfInBounds_toArray, List.set]
              refine up_take (i := 16) (v := .slice (some ⟨bs, 0, none⟩) T cs) rfl (by kernel_rfl) (by kernel_rfl) (fun _ _ _ h => h) (Or.inl ⟨by rfl, ?_⟩) hb6 ?_
              · intro w' _; go_simp
              try simp only [List.getElem_toArray, List.getElem_cons_succ, List.getElem_cons_zero, Act.put, List.setIfInBounds_toArray, List.set]
              refine up_tail ?_
              refine up_last 17 _ rfl (by kernel_rfl) (by decide) (by rfl) (fun K hK => ?_)
              refine wp_store_row 23 _ _ rfl y dv.toArray rfl rfl 23 z32.toArray hy hdi.out hdz.out hd1.out ?_
              refine hK _ _ ?_
              clear hK K
              try simp only [List.getElem_toArray, List.getElem_cons_succ, List.getElem_cons_zero, Act.put, List.setIfInBounds_toArray, List.set]
              refine up_done (by kernel_rfl) ?_ _
              exact key b8 cp8 b9 cp9 bs cs y _ ⟨⟨by simpa [World.setRow] using himg.1, fun i p hi => ⟨(himg.2 i p hi).1, range_keep (himg.2 i p hi).2 (setRow_other _ hne)⟩⟩, setRow_heap _ _ _ _ _ _ hy, below_setRow hb6 hyl _, hbs2, hyl⟩
          case' q3 =>
            refine wp_alloc_arr 23 rfl _ alloc32 ?_
            have hbn : Below wd.heap.size wd (wd.alloc (.cells z32.toArray 23)) := (Below.refl _ _).alloc (Nat.le_refl _) _
            have hb3 := hb2.trans (hbn.mono hb2.size)
            obtain ⟨y, hye⟩ : ∃ y, wd.heap.size = y := ⟨_, rfl⟩
            have hy : (wd.alloc (.cells z32.toArray 23)).heap[y]? = some (.cells z32.toArray 23 (0, 0)) := by rw [← hye]; exact heap_alloc_new _ _
            have hyl : wx.heap.size ≤ y := by have := hb2.size; omega
            generalize hwa : wd.alloc (.cells z32.toArray 23) = v3 at *
            rw [hye]
            refine hK _ _ hb3 ?_
            clear hK K hwa hbn
            try simp only [List.getElem_toArray, List.getElem_cons_succ, List.getElem_cons_zero, Act.put, List.setIfInBounds_toArray, List.set]
            refine up_one 9 _ rfl (by kernel_rfl) (by decide) (by rfl) (fun K hK => ?_)
            go_simp
            refine (Hch.out _).mono ?_
            rintro e v4 ⟨b8, cp8, rfl, hC8, hbn⟩
            have hb4 := hb3.trans (hbn.mono hb3.size)
            have hy := (hbn.block y (Array.getElem?_eq_some_iff.1 hy).1).trans hy
            refine hK _ _ hb4 ?_
            clear hK K hbn
            try simp only [List.getElem_toArray, List.getElem_cons_succ, List.getElem_cons_zero, Act.put, List.setIfInBounds_toArray, List.set]
            refine up_one 10 _ rfl (by kernel_rfl) (by decide) (by rfl) (fun K hK => ?_)
            go_simp
            refine (Htd.out _ b8 cp8 hC8).mono ?_
            rintro e v5 ⟨b9, cp9, rfl, hC9, hbn⟩
            have hb5 := hb4.trans (hbn.mono hb4.size)
            clear hC8
            have hy := (hbn.block y (Array.getElem?_eq_some_iff.1 hy).1).trans hy
            refine hK _ _ hb5 ?_
            clear hK K hbn
            try simp only [List.getElem_toArray, List.getElem_cons_succ, List.getElem_cons_zero, Act.put, List.setIfInBounds_toArray, List.set]
            refine up_one 11 _ rfl (by kernel_rfl) (by decide) (by rfl) (fun K hK => ?_)
            have hyo := hy
            go_simp
            refine (Hsc.out _ b9 cp9 hC9).mono ?_
            rintro e v6 ⟨bs, cs, rfl, hbs, himg, hbn⟩
            have hb6 := hb5.trans (hbn.mono hb5.size)
            clear hC9
            have hbs2 : wx.heap.size ≤ bs := by have := hb5.size; omega
            have hy := (hbn.block y (Array.getElem?_eq_some_iff.1 hy).1).trans hy
            have hne : bs ≠ y := fun e => by have := hyl; have := (Array.getElem?_eq_some_iff.1 hyo).1; omega
            refine hK _ _ hb6 ?_
            clear hK K hbn
            try simp only [List.getElem_toArray, List.getElem_cons_succ, List.getElem_cons_zero, Act.put, List.setIfInBounds_toArray, List.set]
            refine up_take (i := 12) (v := .tuple #[.slice (some ⟨bs, 0, none⟩) T cs, .agg dv.toArray]) rfl (by kernel_rfl) (by kernel_rfl) (fun _ _ _ h => h) (Or.inl ⟨by rfl, ?_⟩) hb6 ?_
            · intro w' _; go_simp
            try simp only [List.getElem_toArray, List.getElem_cons_succ, List.getElem_cons_zero, Act.put, List.setIfInBounds_toArray, List.set]
            refine up_take (i := 13) (v := .slice (some ⟨bs, 0, none⟩) T cs) rfl (by kernel_rfl) (by kernel_rfl) (fun _ _ _ h => h) (Or.inl ⟨by rfl, ?_⟩) hb6 ?_
            · intro w' _; go_simp
            try simp only [List.getElem_toArray, List.getElem_cons_succ, List.getElem_cons_zero, Act.put, List.setIfInBounds_toArray, List.set]
            refine up_take (i := 14) (v := .agg dv.toArray) rfl (by kernel_rfl) (by kernel_rfl) (fun _ _ _ h => h) (Or.inl ⟨by rfl, ?_⟩) hb6 ?_
            · intro w' _; go_simp
            try simp only [List.getElem_toArray, List.getElem_cons_succ, List.getElem_cons_zero, Act.put, List.setIfInBounds_toArray, List.set]
            refine up_take (i := 16) (v := .slice (some ⟨bs, 0, none⟩) T cs) rfl (by kernel_rfl) (by kernel_rfl) (fun _ _ _ h => h) (Or.inl ⟨by rfl, ?_⟩) hb6 ?_
            · intro w' _; go_simp
            try simp only [List.getElem_toArray, List.getElem_cons_succ, List.getElem_cons_zero, Act.put, List.setIfInBounds_toArray, List.set]
            refine up_tail ?_
            refine up_last 17 _ rfl (by kernel_rfl) (by decide) (by rfl) (fun K hK => ?_)
            refine wp_store_row 23 _ _ rfl y dv.toArray rfl rfl 23 z32.toArray hy hdi.out hdz.out hd1.out ?_
            refine hK _ _ ?_
            clear hK K
            try simp only [List.getElem_toArray, List.getElem_cons_succ, List.getElem_cons_zero, Act.put, List.setIfInBounds_toArray, List.set]
            refine up_done (by kernel_rfl) ?_ _
            exact key b8 cp8 b9 cp9 bs cs y _ ⟨⟨by simpa [World.setRow] using himg.1, fun i p hi => ⟨(himg.2 i p hi).1, range_keep (himg.2 i p hi).2 (setRow_other _ hne)⟩⟩, setRow_heap _ _ _ _ _ _ hy, below_setRow hb6 hyl _, hbs2, hyl⟩
        case pf =>
        intro b8 cp8 b9 cp9 bs cs y wf hR
        clear Hch Htd Hsc HLd hb2 Hcc q1 q2 q2b q3 q4 q4b u1 u2 u3 u4 ht1 ht3 hdz
        obtain ⟨himg, hyc, hbf, hbs, hyl⟩ := hR
        have hWf := HWx.out.below hbf
        have hbelf := hbelx.trans (hbf.mono hle2)
        have hxw := HWx.out.xlt
        have hI0 : OpI 200 B gd gk x wa num' last' bs pgs y dv (10 * k + 0) wf := by
          have hF : ∀ j, wx.heap.size ≤ j → ¬ F j ∧ ¬ G j ∧ j ≠ x := fun j hj => ⟨fun h => by have := HWx.out.pd.lt h; omega, fun h => by have := HWx.out.rd.lt h; omega, by omega⟩
          exact ⟨F, G, S, pl', hWf, hS, hpl', himg, hyc, hF bs hbs, hF y hyl, hbelf⟩
        have HI0 := Lib.hid hI0
        clear himg hyc hbf hWf hbelf hxw hbs hyl hI0 hbelx HWx hS hpl' F G S pl' hle hle2 Hmq hmql
        go_wp2
        go_loopg [73] T (fun gg i wr => ∃ (c : Nat), c ≤ T ∧ gg = T - c ∧ i = .int .i64 c ∧ OpI 200 B gd gk x wa num' last' bs pgs y dv (10 * k + c) wr)
        case atStart => exact ⟨0, by omega, by omega, rfl, HI0.out⟩
        case round =>
          clear HI0
          obtain ⟨c, hc, rfl, rfl, F, G, S, pl', hW, hS, hpl', himg, hyc, hbs, hy, hbel⟩ := hrel
          rename World => wl
          by_cases hct : c < T
          · have hct' : (c : Int) < T := by omega
            obtain ⟨q, hq⟩ : ∃ q, pgs[c]? = some q := ⟨_, List.getElem?_eq_getElem (by rw [Hpgl.out]; exact hct)⟩
            obtain ⟨hq64, hrq⟩ := himg.2 c q hq
            obtain ⟨qv, Hqv⟩ : ∃ qv : List Value, Hid (qv = q.map cu8) := ⟨_, rfl⟩
            rw [← Hqv.out] at hrq
            have hqvl : qv.length = 64 := by rw [Hqv.out, List.length_map, hq64]
            have hqi : Hid ((Tryd.prog.info? 63).map (·.size) = some qv.length) := by rw [hqvl]; exact info64
            have hqi2 : Hid ((Tryd.prog.info? 63).map (·.size) = some qv.toArray.size) := by rw [List.size_toArray, hqvl]; exact info64
            have hqz : Hid (zeros64.size = qv.toArray.size) := by rw [show qv.toArray.size = 64 from by rw [List.size_toArray, hqvl]]; exact (rfl : zeros64.size = 64)
            have hq1 : Hid (qv.toArray.all (·.oneCell') = true) := by rw [Hqv.out]; exact bytes_one _
            have hqp : IsPage qv := by rw [Hqv.out]; exact bytes_page hq64
            have hbz : Below wl.heap.size wl (wl.alloc (.cells qv.toArray 63)) := (Below.refl _ _).alloc (Nat.le_refl _) _
            have hzz : (wl.alloc (.cells qv.toArray 63)).heap[wl.heap.size]? = some (.cells qv.toArray 63 (0, 0)) := heap_alloc_new wl _
            have Hrq := Lib.hid hrq
            clear hrq
            go_upto_region 16 with (first
              | (refine wpList_alloc_arr rfl 63 rfl _ alloc64 ?_)
              | (refine wpList_load_mid rfl 63 _ rfl bs (c * 64) rfl qv _ Hrq.out Tryd.underlying63 rfl hqi.out ?_)
              | (refine wpList_store_new rfl 63 _ _ rfl wl.heap.size rfl qv.toArray rfl rfl 63 _ hqi2.out hqz.out hq1.out ?_))
            have hW2 := hW.below hbz
            have himg2 := himg.below hbz
            have hyc2 := (hbz.block y (Array.getElem?_eq_some_iff.1 hyc).1).trans hyc
            have hbel2 := hbel.trans (hbz.mono hW.le)
            generalize hwz : wl.alloc (.cells qv.toArray 63) = wz at hbz hzz hW2 himg2 hyc2 hbel2 ⊢
            obtain ⟨pb, hpb⟩ : ∃ pb, wl.heap.size = pb := ⟨_, rfl⟩
            have hpF : ¬ F pb ∧ ¬ G pb := ⟨fun h => by have := hW.pd.lt h; omega, fun h => by have := hW.rd.lt h; omega⟩
            rw [hpb] at hzz ⊢
            have c0 := hW2.cell (j := 0) (v := .int .i64 pl') rfl
            clear hwz hbz Hrq hW himg hyc hbel hpb hqi hqz hq1
            by_cases hneg : pl' < 0
            · go_upto_region 21 with (fail)
              clear c0 hneg hzz hct' hct hpF hqi2 hqp hqvl Hqv hq hq64 himg2
              have hcT : c ≤ T := hc
              have hWd0 := hW2
              have hdvl : dv.length = 32 := by rw [Hdv.out, List.length_map, hdgl]
              have hdone : Hid (∀ v ∈ dv.toArray.toList, v.oneCell' = true) := by rw [Hdv.out]; intro v hv; obtain ⟨b, _, rfl⟩ := List.mem_map.1 (by simpa using hv); rfl
              have hdi3 : Hid ((Tryd.prog.info? 23).map (·.size) = some dv.length) := by rw [hdvl]; exact (by kernel_rfl : (Tryd.prog.info? 23).map (·.size) = some 32)
              obtain ⟨n2, hn2⟩ : ∃ n2, (num' + 1) % 18446744073709551616 = n2 := ⟨_, rfl⟩
              have wN : IntKind.u64.wrap ((num' : Int) + 1) = (n2 : Int) := by rw [IntKind.wrap_u64, ← hn2]; omega
              have wNb : IntKind.u64.wrap (n2 : Int) = (n2 : Int) := by rw [IntKind.wrap_u64]; omega
              refine wp_region_up 7 (fun _ => True) (by kernel_rfl) ?_
              have hb2 : Below (World.heap wz).size wz { wz with drawn := (World.drawn wz) + 1 } := ⟨rfl, rfl, rfl, Nat.le_refl _, fun _ _ => rfl⟩
              obtain ⟨wd, hdr⟩ : ∃ wd : World, ({ wz with drawn := (World.drawn wz) + 1 } : World) = wd := ⟨_, rfl⟩
              rw [hdr] at hb2 ⊢
              clear hdr
              have hWd := hWd0.below hb2
              have hyd := (hb2.block y (Array.getElem?_eq_some_iff.1 hyc2).1).trans hyc2
              have hbd := (hbel2).trans (hb2.mono hWd0.le)
              clear hWd0 hb2 hW2 hyc2 hbel2
              have c1 := hWd.cell (j := 1) (v := .int .u64 num') rfl
              have f1 := hWd.thawed 1
              obtain ⟨ws, hws⟩ : ∃ ws, wd.setCell ⟨x, 1, none⟩ (.int .u64 n2) = ws := ⟨_, rfl⟩
              have hWs := hWd.set 1 (.int .u64 n2)
              have hbs2 := hWd.setBase hbd 1 (.int .u64 n2)
              have hys := ((PgAt.turned (w := wd) (y := x) 1 (.int .u64 n2)).block y (Array.getElem?_eq_some_iff.1 hyd).1 (fun e => hy.2.2 (by simpa using e))).trans hyd
              rw [hws] at hWs hbs2 hys
              have hrow : ∀ W : World, W.heap[y]? = some (.cells dv.toArray 23 (0, 0)) → W.rangeAt y 0 dv := fun W h j v hj => by rw [Nat.zero_add, cell_of_row W y j _ _ _ h]; simpa using hj
              have Hyd := Lib.hid (hrow wd hyd)
              have Hys := Lib.hid (hrow ws hys)
              clear hrow hyd hys hWd hbd
              apply cut1 (R := fun w5 => w5.heap[x]? = some (.cells (splice (markI pl' n2 last') 2 dv.toArray.toList).toArray 46 (0, 0)) ∧ ws.grownBy w5 (some x))
              case walk =>
                intro key
                refine up_two 0 3 _ _ rfl rfl (by kernel_rfl) (by decide) (by decide) (by rfl) (by rfl) (fun K hK => ?p8) (fun K hK => ?q8)
                case' p8 =>
                  go_simp
                  refine hK _ _ True.intro ?_
                  clear hK K
                  try simp only [List.getElem_toArray, List.getElem_cons_succ, List.getElem_cons_zero, Act.put, List.setIfInBounds_toArray, List.set]
                  refine up_two 1 3 _ _ rfl rfl (by kernel_rfl) (by decide) (by decide) (by rfl) (by rfl) (fun K hK => ?p7) (fun K hK => ?q7)
                  case' p7 =>
                    go_simp
                    refine hK _ _ True.intro ?_
                    clear hK K
                    try simp only [List.getElem_toArray, List.getElem_cons_succ, List.getElem_cons_zero, Act.put, List.setIfInBounds_toArray, List.set]
                    refine up_two 2 3 _ _ rfl rfl (by kernel_rfl) (by decide) (by decide) (by rfl) (by rfl) (fun K hK => ?p6) (fun K hK => ?q6)
                    case' p6 =>
                      go_simp
                      refine hK _ _ True.intro ?_
                      clear hK K
                      try simp only [List.getElem_toArray, List.getElem_cons_succ, List.getElem_cons_zero, Act.put, List.setIfInBounds_toArray, List.set]
                      refine up_two 3 4 _ _ rfl rfl (by kernel_rfl) (by decide) (by decide) (by rfl) (by rfl) (fun K hK => ?p5) (fun K hK => ?q5)
                      case' p5 =>
                        refine wp_load_mid 23 _ rfl y 0 rfl dv _ (Hyd.out) Tryd.underlying23 rfl hdi3.out ?_
                        refine hK _ _ True.intro ?_
                        clear hK K
                        try simp only [List.getElem_toArray, List.getElem_cons_succ, List.getElem_cons_zero, Act.put, List.setIfInBounds_toArray, List.set]
                        refine up_one 4 _ rfl (by kernel_rfl) (by decide) (by rfl) (fun K hK => ?_)
                        go_simp
                        refine hK _ _ True.intro ?_
                        clear hK K
                        try simp only [List.getElem_toArray, List.getElem_cons_succ, List.getElem_cons_zero, Act.put, List.setIfInBounds_toArray, List.set]
                        refine up_one 5 _ rfl (by kernel_rfl) (by decide) (by rfl) (fun K hK => ?_)
                        go_simp
                        refine hK _ _ True.intro ?_
                        clear hK K
                        try simp only [List.getElem_toArray, List.getElem_cons_succ, List.getElem_cons_zero, Act.put, List.setIfInBounds_toArray, List.set]
                        refine up_one 6 _ rfl (by kernel_rfl) (by decide) (by rfl) (fun K hK => ?_)
                        go_simp
                        refine hK _ _ True.intro ?_
                        clear hK K
                        try simp only [List.getElem_toArray, List.getElem_cons_succ, List.getElem_cons_zero, Act.put, List.setIfInBounds_toArray, List.set]
                        refine up_tail ?_
                        refine up_last 7 _ rfl (by kernel_rfl) (by decide) (by rfl) (fun K hK => ?_)
                        refine wp_store_into 23 _ _ rfl x 2 dv.toArray rfl rfl (markI pl' n2 last') 46 hWs.box hdi.out (by rw [List.size_toArray, hdvl]; simp [markI, hla]) hdone.out ?_
                        intro w5 Hs5 Hg5
                        refine hK _ _ ?_
                        clear hK K
                        try simp only [List.getElem_toArray, List.getElem_cons_succ, List.getElem_cons_zero, Act.put, List.setIfInBounds_toArray, List.set]
                        refine up_done (by kernel_rfl) ?_ _
                        exact key w5 ⟨Hs5, Hg5⟩
                      case' q5 =>
                        go_simp
                        refine hK _ _ True.intro ?_
                        clear hK K
                        try simp only [List.getElem_toArray, List.getElem_cons_succ, List.getElem_cons_zero, Act.put, List.setIfInBounds_toArray, List.set]
                        refine up_two 3 5 _ _ rfl rfl (by kernel_rfl) (by decide) (by decide) (by rfl) (by rfl) (fun K hK => ?p4) (fun K hK => ?q4)
                        case' p4 =>
                          refine wp_load_mid 23 _ rfl y 0 rfl dv _ (Hyd.out) Tryd.underlying23 rfl hdi3.out ?_
                          refine hK _ _ True.intro ?_
                          clear hK K
                          try simp only [List.getElem_toArray, List.getElem_cons_succ, List.getElem_cons_zero, Act.put, List.setIfInBounds_toArray, List.set]
                          refine up_one 5 _ rfl (by kernel_rfl) (by decide) (by rfl) (fun K hK => ?_)
                          go_simp
                          refine hK _ _ True.intro ?_
                          clear hK K
                          try simp only [List.getElem_toArray, List.getElem_cons_succ, List.getElem_cons_zero, Act.put, List.setIfInBounds_toArray, List.set]
                          refine up_one 6 _ rfl (by kernel_rfl) (by decide) (by rfl) (fun K hK => ?_)
                          go_simp
                          refine hK _ _ True.intro ?_
                          clear hK K
                          try simp only [List.getElem_toArray, List.getElem_cons_succ, List.getElem_cons_zero, Act.put, List.setIfInBounds_toArray, List.set]
                          refine up_tail ?_
                          refine up_last 7 _ rfl (by kernel_rfl) (by decide) (by rfl) (fun K hK => ?_)
                          refine wp_store_into 23 _ _ rfl x 2 dv.toArray rfl rfl (markI pl' n2 last') 46 hWs.box hdi.out (by rw [List.size_toArray, hdvl]; simp [markI, hla]) hdone.out ?_
                          intro w5 Hs5 Hg5
                          refine hK _ _ ?_
                          clear hK K
                          try simp only [List.getElem_toArray, List.getElem_cons_succ, List.getElem_cons_zero, Act.put, List.setIfInBounds_toArray, List.set]
                          refine up_done (by kernel_rfl) ?_ _
                          exact key w5 ⟨Hs5, Hg5⟩
                        case' q4 =>
                          go_simp
                          refine hK _ _ True.intro ?_
                          clear hK K
                          try simp only [List.getElem_toArray, List.getElem_cons_succ, List.getElem_cons_zero, Act.put, List.setIfInBounds_toArray, List.set]
                          refine up_one 3 _ rfl (by kernel_rfl) (by decide) (by rfl) (fun K hK => ?_)
                          refine wp_load_mid 23 _ rfl y 0 rfl dv _ (Hys.out) Tryd.underlying23 rfl hdi3.out ?_
                          refine hK _ _ True.intro ?_
                          clear hK K
                          try simp only [List.getElem_toArray, List.getElem_cons_succ, List.getElem_cons_zero, Act.put, List.setIfInBounds_toArray, List.set]
                          refine up_one 6 _ rfl (by kernel_rfl) (by decide) (by rfl) (fun K hK => ?_)
                          go_simp
                          refine hK _ _ True.intro ?_
                          clear hK K
                          try simp only [List.getElem_toArray, List.getElem_cons_succ, List.getElem_cons_zero, Act.put, List.setIfInBounds_toArray, List.set]
                          refine up_tail ?_
                          refine up_last 7 _ rfl (by kernel_rfl) (by decide) (by rfl) (fun K hK => ?_)
                          refine wp_store_into 23 _ _ rfl x 2 dv.toArray rfl rfl (markI pl' n2 last') 46 hWs.box hdi.out (by rw [List.size_toArray, hdvl]; simp [markI, hla]) hdone.out ?_
                          intro w5 Hs5 Hg5
                          refine hK _ _ ?_
                          clear hK K
                          try simp only [List.getElem_toArray, List.getElem_cons_succ, List.getElem_cons_zero, Act.put, List.setIfInBounds_toArray, List.set]
                          refine up_done (by kernel_rfl) ?_ _
                          exact key w5 ⟨Hs5, Hg5⟩
                    case' q6 =>
                      refine wp_load_mid 23 _ rfl y 0 rfl dv _ (Hyd.out) Tryd.underlying23 rfl hdi3.out ?_
                      refine hK _ _ True.intro ?_
                      clear hK K
                      try simp only [List.getElem_toArray, List.getElem_cons_succ, List.getElem_cons_zero, Act.put, List.setIfInBounds_toArray, List.set]
                      refine up_one 2 _ rfl (by kernel_rfl) (by decide) (by rfl) (fun K hK => ?_)
                      go_simp
                      refine hK _ _ True.intro ?_
                      clear hK K
                      try simp only [List.getElem_toArray, List.getElem_cons_succ, List.getElem_cons_zero, Act.put, List.setIfInBounds_toArray, List.set]
                      refine up_one 4 _ rfl (by kernel_rfl) (by decide) (by rfl) (fun K hK => ?_)
                      go_simp
                      refine hK _ _ True.intro ?_
                      clear hK K
                      try simp only [List.getElem_toArray, List.getElem_cons_succ, List.getElem_cons_zero, Act.put, List.setIfInBounds_toArray, List.set]
                      refine up_one 5 _ rfl (by kernel_rfl) (by decide) (by rfl) (fun K hK => ?_)
                      go_simp
                      refine hK _ _ True.intro ?_
                      clear hK K
                      try simp only [List.getElem_toArray, List.getElem_cons_succ, List.getElem_cons_zero, Act.put, List.setIfInBounds_toArray, List.set]
                      refine up_one 6 _ rfl (by kernel_rfl) (by decide) (by rfl) (fun K hK => ?_)
                      go_simp
                      refine hK _ _ True.intro ?_
                      clear hK K
                      try simp only [List.getElem_toArray, List.getElem_cons_succ, List.getElem_cons_zero, Act.put, List.setIfInBounds_toArray, List.set]
                      refine up_tail ?_
                      refine up_last 7 _ rfl (by kernel_rfl) (by decide) (by rfl) (fun K hK => ?_)
                      refine wp_store_into 23 _ _ rfl x 2 dv.toArray rfl rfl (markI pl' n2 last') 46 hWs.box hdi.out (by rw [List.size_toArray, hdvl]; simp [markI, hla]) hdone.out ?_
                      intro w5 Hs5 Hg5
                      refine hK _ _ ?_
                      clear hK K
                      try simp only [List.getElem_toArray, List.getElem_cons_succ, List.getElem_cons_zero, Act.put, List.setIfInBounds_toArray, List.set]
                      refine up_done (by kernel_rfl) ?_ _
                      exact key w5 ⟨Hs5, Hg5⟩
                  case' q7 =>
                    refine wp_load_mid 23 _ rfl y 0 rfl dv _ (Hyd.out) Tryd.underlying23 rfl hdi3.out ?_
                    refine hK _ _ True.intro ?_
                    clear hK K
                    try simp only [List.getElem_toArray, List.getElem_cons_succ, List.getElem_cons_zero, Act.put, List.setIfInBounds_toArray, List.set]
                    refine up_one 1 _ rfl (by kernel_rfl) (by decide) (by rfl) (fun K hK => ?_)
                    go_simp
                    refine hK _ _ True.intro ?_
                    clear hK K
                    try simp only [List.getElem_toArray, List.getElem_cons_succ, List.getElem_cons_zero, Act.put, List.setIfInBounds_toArray, List.set]
                    refine up_one 2 _ rfl (by kernel_rfl) (by decide) (by rfl) (fun K hK => ?_)
                    go_simp
                    refine hK _ _ True.intro ?_
                    clear hK K
                    try simp only [List.getElem_toArray, List.getElem_cons_succ, List.getElem_cons_zero, Act.put, List.setIfInBounds_toArray, List.set]
                    refine up_one 4 _ rfl (by kernel_rfl) (by decide) (by rfl) (fun K hK => ?_)
                    go_simp
                    refine hK _ _ True.intro ?_
                    clear hK K
                    try simp only [List.getElem_toArray, List.getElem_cons_succ, List.getElem_cons_zero, Act.put, List.setIfInBounds_toArray, List.set]
                    refine up_one 5 _ rfl (by kernel_rfl) (by decide) (by rfl) (fun K hK => ?_)
                    go_simp
                    refine hK _ _ True.intro ?_
                    clear hK K
                    try simp only [List.getElem_toArray, List.getElem_cons_succ, List.getElem_cons_zero, Act.put, List.setIfInBounds_toArray, List.set]
                    refine up_one 6 _ rfl (by kernel_rfl) (by decide) (by rfl) (fun K hK => ?_)
                    go_simp
                    refine hK _ _ True.intro ?_
                    clear hK K
                    try simp only [List.getElem_toArray, List.getElem_cons_succ, List.getElem_cons_zero, Act.put, List.setIfInBounds_toArray, List.set]
                    refine up_tail ?_
                    refine up_last 7 _ rfl (by kernel_rfl) (by decide) (by rfl) (fun K hK => ?_)
                    refine wp_store_into 23 _ _ rfl x 2 dv.toArray rfl rfl (markI pl' n2 last') 46 hWs.box hdi.out (by rw [List.size_toArray, hdvl]; simp [markI, hla]) hdone.out ?_
                    intro w5 Hs5 Hg5
                    refine hK _ _ ?_
                    clear hK K
                    try simp only [List.getElem_toArray, List.getElem_cons_succ, List.getElem_cons_zero, Act.put, List.setIfInBounds_toArray, List.set]
                    refine up_done (by kernel_rfl) ?_ _
                    exact key w5 ⟨Hs5, Hg5⟩
                case' q8 =>
                  refine wp_load_mid 23 _ rfl y 0 rfl dv _ (Hyd.out) Tryd.underlying23 rfl hdi3.out ?_
                  refine hK _ _ True.intro ?_
                  clear hK K
                  try simp only [List.getElem_toArray, List.getElem_cons_succ, List.getElem_cons_zero, Act.put, List.setIfInBounds_toArray, List.set]
                  refine up_one 0 _ rfl (by kernel_rfl) (by decide) (by rfl) (fun K hK => ?_)
                  go_simp
                  refine hK _ _ True.intro ?_
                  clear hK K
                  try simp only [List.getElem_toArray, List.getElem_cons_succ, List.getElem_cons_zero, Act.put, List.setIfInBounds_toArray, List.set]
                  refine up_one 1 _ rfl (by kernel_rfl) (by decide) (by rfl) (fun K hK => ?_)
                  go_simp
                  refine hK _ _ True.intro ?_
                  clear hK K
                  try simp only [List.getElem_toArray, List.getElem_cons_succ, List.getElem_cons_zero, Act.put, List.setIfInBounds_toArray, List.set]
                  refine up_one 2 _ rfl (by kernel_rfl) (by decide) (by rfl) (fun K hK => ?_)
                  go_simp
                  refine hK _ _ True.intro ?_
                  clear hK K
                  try simp only [List.getElem_toArray, List.getElem_cons_succ, List.getElem_cons_zero, Act.put, List.setIfInBounds_toArray, List.set]
                  refine up_one 4 _ rfl (by kernel_rfl) (by decide) (by rfl) (fun K hK => ?_)
                  go_simp
                  refine hK _ _ True.intro ?_
                  clear hK K
                  try simp only [List.getElem_toArray, List.getElem_cons_succ, List.getElem_cons_zero, Act.put, List.setIfInBounds_toArray, List.set]
                  refine up_one 5 _ rfl (by kernel_rfl) (by decide) (by rfl) (fun K hK => ?_)
                  go_simp
                  refine hK _ _ True.intro ?_
                  clear hK K
                  try simp only [List.getElem_toArray, List.getElem_cons_succ, List.getElem_cons_zero, Act.put, List.setIfInBounds_toArray, List.set]
                  refine up_one 6 _ rfl (by kernel_rfl) (by decide) (by rfl) (fun K hK => ?_)
                  go_simp
                  refine hK _ _ True.intro ?_
                  clear hK K
                  try simp only [List.getElem_toArray, List.getElem_cons_succ, List.getElem_cons_zero, Act.put, List.setIfInBounds_toArray, List.set]
                  refine up_tail ?_
                  refine up_last 7 _ rfl (by kernel_rfl) (by decide) (by rfl) (fun K hK => ?_)
                  refine wp_store_into 23 _ _ rfl x 2 dv.toArray rfl rfl (markI pl' n2 last') 46 hWs.box hdi.out (by rw [List.size_toArray, hdvl]; simp [markI, hla]) hdone.out ?_
                  intro w5 Hs5 Hg5
                  refine hK _ _ ?_
                  clear hK K
                  try simp only [List.getElem_toArray, List.getElem_cons_succ, List.getElem_cons_zero, Act.put, List.setIfInBounds_toArray, List.set]
                  refine up_done (by kernel_rfl) ?_ _
                  exact key w5 ⟨Hs5, Hg5⟩
              case pf =>
                rintro w5 ⟨Hs5, Hg5⟩
                have hW5 := hWs.boxed (mv' := markI pl' n2 dgl) (by rw [← splice_markI pl' n2 last' dgl hla hdgl, ← Hdv.out]; exact Hs5) Hg5
                have hb5 := below_of_grown hbs2 Hg5 hWs.le hWs.lowx
                have hN : OpR 200 B gd gk x wa (10 * (k + 1)) w5 := ⟨F, G, S, pl', n2, dgl, hW5, hS.mono (by omega), by omega, hdgl, hpl', hb5⟩
                have HN := Lib.hid hN
                clear hN hW5 hb5 hWs hbs2 Hs5 Hg5 Hyd Hys wN wNb hn2 hdone hdvl hdi3 c1 f1 hws
                go_wp2
                go_roundg (L - (k + 1))
                case measure => omega
                case rel => exact ⟨k + 1, by omega, rfl, by go_num, HN.out⟩
            · by_cases hbig : 200 ≤ pl'
              · go_upto_region 21 with (fail)
                clear c0 hneg hbig hzz hct' hct hpF hqi2 hqp hqvl Hqv hq hq64 himg2
                have hcT : c ≤ T := hc
                have hWd0 := hW2
                have hdvl : dv.length = 32 := by rw [Hdv.out, List.length_map, hdgl]
                have hdone : Hid (∀ v ∈ dv.toArray.toList, v.oneCell' = true) := by rw [Hdv.out]; intro v hv; obtain ⟨b, _, rfl⟩ := List.mem_map.1 (by simpa using hv); rfl
                have hdi3 : Hid ((Tryd.prog.info? 23).map (·.size) = some dv.length) := by rw [hdvl]; exact (by kernel_rfl : (Tryd.prog.info? 23).map (·.size) = some 32)
                obtain ⟨n2, hn2⟩ : ∃ n2, (num' + 1) % 18446744073709551616 = n2 := ⟨_, rfl⟩
                have wN : IntKind.u64.wrap ((num' : Int) + 1) = (n2 : Int) := by rw [IntKind.wrap_u64, ← hn2]; omega
                have wNb : IntKind.u64.wrap (n2 : Int) = (n2 : Int) := by rw [IntKind.wrap_u64]; omega
                refine wp_region_up 7 (fun _ => True) (by kernel_rfl) ?_
                have hb2 : Below (World.heap wz).size wz { wz with drawn := (World.drawn wz) + 1 } := ⟨rfl, rfl, rfl, Nat.le_refl _, fun _ _ => rfl⟩
                obtain ⟨wd, hdr⟩ : ∃ wd : World, ({ wz with drawn := (World.drawn wz) + 1 } : World) = wd := ⟨_, rfl⟩
                rw [hdr] at hb2 ⊢
                clear hdr
                have hWd := hWd0.below hb2
                have hyd := (hb2.block y (Array.getElem?_eq_some_iff.1 hyc2).1).trans hyc2
                have hbd := (hbel2).trans (hb2.mono hWd0.le)
                clear hWd0 hb2 hW2 hyc2 hbel2
                have c1 := hWd.cell (j := 1) (v := .int .u64 num') rfl
                have f1 := hWd.thawed 1
                obtain ⟨ws, hws⟩ : ∃ ws, wd.setCell ⟨x, 1, none⟩ (.int .u64 n2) = ws := ⟨_, rfl⟩
                have hWs := hWd.set 1 (.int .u64 n2)
                have hbs2 := hWd.setBase hbd 1 (.int .u64 n2)
                have hys := ((PgAt.turned (w := wd) (y := x) 1 (.int .u64 n2)).block y (Array.getElem?_eq_some_iff.1 hyd).1 (fun e => hy.2.2 (by simpa using e))).trans hyd
                rw [hws] at hWs hbs2 hys
                have hrow : ∀ W : World, W.heap[y]? = some (.cells dv.toArray 23 (0, 0)) → W.rangeAt y 0 dv := fun W h j v hj => by rw [Nat.zero_add, cell_of_row W y j _ _ _ h]; simpa using hj
                have Hyd := Lib.hid (hrow wd hyd)
                have Hys := Lib.hid (hrow ws hys)
                clear hrow hyd hys hWd hbd
                apply cut1 (R := fun w5 => w5.heap[x]? = some (.cells (splice (markI pl' n2 last') 2 dv.toArray.toList).toArray 46 (0, 0)) ∧ ws.grownBy w5 (some x))
                case walk =>
                  intro key
                  refine up_two 0 3 _ _ rfl rfl (by kernel_rfl) (by decide) (by decide) (by rfl) (by rfl) (fun K hK => ?p13) (fun K hK => ?q13)
                  case' p13 =>
                    go_simp
                    refine hK _ _ True.intro ?_
                    clear hK K
                    try simp only [List.getElem_toArray, List.getElem_cons_succ, List.getElem_cons_zero, Act.put, List.setIfInBounds_toArray, List.set]
                    refine up_two 1 3 _ _ rfl rfl (by kernel_rfl) (by decide) (by decide) (by rfl) (by rfl) (fun K hK => ?p12) (fun K hK => ?q12)
                    case' p12 =>
                      go_simp
                      refine hK _ _ True.intro ?_
                      clear hK K
                      try simp only [List.getElem_toArray, List.getElem_cons_succ, List.getElem_cons_zero, Act.put, List.setIfInBounds_toArray, List.set]
                      refine up_two 2 3 _ _ rfl rfl (by kernel_rfl) (by decide) (by decide) (by rfl) (by rfl) (fun K hK => ?p11) (fun K hK => ?q11)
                      case' p11 =>
                        go_simp
                        refine hK _ _ True.intro ?_
                        clear hK K
                        try simp only [List.getElem_toArray, List.getElem_cons_succ, List.getElem_cons_zero, Act.put, List.setIfInBounds_toArray, List.set]
                        refine up_two 3 4 _ _ rfl rfl (by kernel_rfl) (by decide) (by decide) (by rfl) (by rfl) (fun K hK => ?p10) (fun K hK => ?q10)
                        case' p10 =>
                          refine wp_load_mid 23 _ rfl y 0 rfl dv _ (Hyd.out) Tryd.underlying23 rfl hdi3.out ?_
                          refine hK _ _ True.intro ?_
                          clear hK K
                          try simp only [List.getElem_toArray, List.getElem_cons_succ, List.getElem_cons_zero, Act.put, List.setIfInBounds_toArray, List.set]
                          refine up_one 4 _ rfl (by kernel_rfl) (by decide) (by rfl) (fun K hK => ?_)
                          go_simp
                          refine hK _ _ True.intro ?_
                          clear hK K
                          try simp only [List.getElem_toArray, List.getElem_cons_succ, List.getElem_cons_zero, Act.put, List.setIfInBounds_toArray, List.set]
                          refine up_one 5 _ rfl (by kernel_rfl) (by decide) (by rfl) (fun K hK => ?_)
                          go_simp
                          refine hK _ _ True.intro ?_
                          clear hK K
                          try simp only [List.getElem_toArray, List.getElem_cons_succ, List.getElem_cons_zero, Act.put, List.setIfInBounds_toArray, List.set]
                          refine up_one 6 _ rfl (by kernel_rfl) (by decide) (by rfl) (fun K hK => ?_)
                          go_simp
                          refine hK _ _ True.intro ?_
                          clear hK K
                          try simp only [List.getElem_toArray, List.getElem_cons_succ, List.getElem_cons_zero, Act.put, List.setIfInBounds_toArray, List.set]
                          refine up_tail ?_
                          refine up_last 7 _ rfl (by kernel_rfl) (by decide) (by rfl) (fun K hK => ?_)
                          refine wp_store_into 23 _ _ rfl x 2 dv.toArray rfl rfl (markI pl' n2 last') 46 hWs.box hdi.out (by rw [List.size_toArray, hdvl]; simp [markI, hla]) hdone.out ?_
                          intro w5 Hs5 Hg5
                          refine hK _ _ ?_
                          clear hK K
                          try simp only [List.getElem_toArray, List.getElem_cons_succ, List.getElem_cons_zero, Act.put, List.setIfInBounds_toArray, List.set]
                          refine up_done (by kernel_rfl) ?_ _
                          exact key w5 ⟨Hs5, Hg5⟩
                        case' q10 =>
                          go_simp
                          refine hK _ _ True.intro ?_
                          clear hK K
                          try simp only [List.getElem_toArray, List.getElem_cons_succ, List.getElem_cons_zero, Act.put, List.setIfInBounds_toArray, List.set]
                          refine up_two 3 5 _ _ rfl rfl (by kernel_rfl) (by decide) (by decide) (by rfl) (by rfl) (fun K hK => ?p9) (fun K hK => ?q9)
                          case' p9 =>
                            refine wp_load_mid 23 _ rfl y 0 rfl dv _ (Hyd.out) Tryd.underlying23 rfl hdi3.out ?_
                            refine hK _ _ True.intro ?_
                            clear hK K
                            try simp only [List.getElem_toArray, List.getElem_cons_succ, List.getElem_cons_zero, Act.put, List.setIfInBounds_toArray, List.set]
                            refine up_one 5 _ rfl (by kernel_rfl) (by decide) (by rfl) (fun K hK => ?_)
                            go_simp
                            refine hK _ _ True.intro ?_
                            clear hK K
                            try simp only [List.getElem_toArray, List.getElem_cons_succ, List.getElem_cons_zero, Act.put, List.setIfInBounds_toArray, List.set]
                            refine up_one 6 _ rfl (by kernel_rfl) (by decide) (by rfl) (fun K hK => ?_)
                            go_simp
                            refine hK _ _ True.intro ?_
                            clear hK K
                            try simp only [List.getElem_toArray, List.getElem_cons_succ, List.getElem_cons_zero, Act.put, List.setIfInBounds_toArray, List.set]
                            refine up_tail ?_
                            refine up_last 7 _ rfl (by kernel_rfl) (by decide) (by rfl) (fun K hK => ?_)
                            refine wp_store_into 23 _ _ rfl x 2 dv.toArray rfl rfl (markI pl' n2 last') 46 hWs.box hdi.out (by rw [List.size_toArray, hdvl]; simp [markI, hla]) hdone.out ?_
                            intro w5 Hs5 Hg5
                            refine hK _ _ ?_
                            clear hK K
                            try simp only [List.getElem_toArray, List.getElem_cons_succ, List.getElem_cons_zero, Act.put, List.setIfInBounds_toArray, List.set]
                            refine up_done (by kernel_rfl) ?_ _
                            exact key w5 ⟨Hs5, Hg5⟩
                          case' q9 =>
                            go_simp
                            refine hK _ _ True.intro ?_
                            clear hK K
                            try simp only [List.getElem_toArray, List.getElem_cons_succ, List.getElem_cons_zero, Act.put, List.setIfInBounds_toArray, List.set]
                            refine up_one 3 _ rfl (by kernel_rfl) (by decide) (by rfl) (fun K hK => ?_)
                            refine wp_load_mid 23 _ rfl y 0 rfl dv _ (Hys.out) Tryd.underlying23 rfl hdi3.out ?_
                            refine hK _ _ True.intro ?_
                            clear hK K
                            try simp only [List.getElem_toArray, List.getElem_cons_succ, List.getElem_cons_zero, Act.put, List.setIfInBounds_toArray, List.set]
                            refine up_one 6 _ rfl (by kernel_rfl) (by decide) (by rfl) (fun K hK => ?_)
                            go_simp
                            refine hK _ _ True.intro ?_
                            clear hK K
                            try simp only [List.getElem_toArray, List.getElem_cons_succ, List.getElem_cons_zero, Act.put, List.setIfInBounds_toArray, List.set]
                            refine up_tail ?_
                            refine up_last 7 _ rfl (by kernel_rfl) (by decide) (by rfl) (fun K hK => ?_)
                            refine wp_store_into 23 _ _ rfl x 2 dv.toArray rfl rfl (markI pl' n2 last') 46 hWs.box hdi.out (by rw [List.size_toArray, hdvl]; simp [markI, hla]) hdone.out ?_
                            intro w5 Hs5 Hg5
                            refine hK _ _ ?_
                            clear hK K
                            try simp only [List.getElem_toArray, List.getElem_cons_succ, List.getElem_cons_zero, Act.put, List.setIfInBounds_toArray, List.set]
                            refine up_done (by kernel_rfl) ?_ _
                            exact key w5 ⟨Hs5, Hg5⟩
                      case' q11 =>
                        refine wp_load_mid 23 _ rfl y 0 rfl dv _ (Hyd.out) Tryd.underlying23 rfl hdi3.out ?_
                        refine hK _ _ True.intro ?_
                        clear hK K
                        try simp only [List.getElem_toArray, List.getElem_cons_succ, List.getElem_cons_zero, Act.put, List.setIfInBounds_toArray, List.set]
                        refine up_one 2 _ rfl (by kernel_rfl) (by decide) (by rfl) (fun K hK => ?_)
                        go_simp
                        refine hK _ _ True.intro ?_
                        clear hK K
                        try simp only [List.getElem_toArray, List.getElem_cons_succ, List.getElem_cons_zero, Act.put, List.setIfInBounds_toArray, List.set]
                        refine up_one 4 _ rfl (by kernel_rfl) (by decide) (by rfl) (fun K hK => ?_)
                        go_simp
                        refine hK _ _ True.intro ?_
                        clear hK K
                        try simp only [List.getElem_toArray, List.getElem_cons_succ, List.getElem_cons_zero, Act.put, List.setIfInBounds_toArray, List.set]
                        refine up_one 5 _ rfl (by kernel_rfl) (by decide) (by rfl) (fun K hK => ?_)
                        go_simp
                        refine hK _ _ True.intro ?_
                        clear hK K
                        try simp only [List.getElem_toArray, List.getElem_cons_succ, List.getElem_cons_zero, Act.put, List.setIfInBounds_toArray, List.set]
                        refine up_one 6 _ rfl (by kernel_rfl) (by decide) (by rfl) (fun K hK => ?_)
                        go_simp
                        refine hK _ _ True.intro ?_
                        clear hK K
                        try simp only [List.getElem_toArray, List.getElem_cons_succ, List.getElem_cons_zero, Act.put, List.setIfInBounds_toArray, List.set]
                        refine up_tail ?_
                        refine up_last 7 _ rfl (by kernel_rfl) (by decide) (by rfl) (fun K hK => ?_)
                        refine wp_store_into 23 _ _ rfl x 2 dv.toArray rfl rfl (markI pl' n2 last') 46 hWs.box hdi.out (by rw [List.size_toArray, hdvl]; simp [markI, hla]) hdone.out ?_
                        intro w5 Hs5 Hg5
                        refine hK _ _ ?_
                        clear hK K
                        try simp only [List.getElem_toArray, List.getElem_cons_succ, List.getElem_cons_zero, Act.put, List.setIfInBounds_toArray, List.set]
                        refine up_done (by kernel_rfl) ?_ _
                        exact key w5 ⟨Hs5, Hg5⟩
                    case' q12 =>
                      refine wp_load_mid 23 _ rfl y 0 rfl dv _ (Hyd.out) Tryd.underlying23 rfl hdi3.out ?_
                      refine hK _ _ True.intro ?_
                      clear hK K
                      try simp only [List.getElem_toArray, List.getElem_cons_succ, List.getElem_cons_zero, Act.put, List.setIfInBounds_toArray, List.set]
                      refine up_one 1 _ rfl (by kernel_rfl) (by decide) (by rfl) (fun K hK => ?_)
                      go_simp
                      refine hK _ _ True.intro ?_
                      clear hK K
                      try simp only [List.getElem_toArray, List.getElem_cons_succ, List.getElem_cons_zero, Act.put, List.setIfInBounds_toArray, List.set]
                      refine up_one 2 _ rfl (by kernel_rfl) (by decide) (by rfl) (fun K hK => ?_)
                      go_simp
                      refine hK _ _ True.intro ?_
                      clear hK K
                      try simp only [List.getElem_toArray, List.getElem_cons_succ, List.getElem_cons_zero, Act.put, List.setIfInBounds_toArray, List.set]
                      refine up_one 4 _ rfl (by kernel_rfl) (by decide) (by rfl) (fun K hK => ?_)
                      go_simp
                      refine hK _ _ True.intro ?_
                      clear hK K
                      try simp only [List.getElem_toArray, List.getElem_cons_succ, List.getElem_cons_zero, Act.put, List.setIfInBounds_toArray, List.set]
                      refine up_one 5 _ rfl (by kernel_rfl) (by decide) (by rfl) (fun K hK => ?_)
                      go_simp
                      refine hK _ _ True.intro ?_
                      clear hK K
                      try simp only [List.getElem_toArray, List.getElem_cons_succ, List.getElem_cons_zero, Act.put, List.setIfInBounds_toArray, List.set]
                      refine up_one 6 _ rfl (by kernel_rfl) (by decide) (by rfl) (fun K hK => ?_)
                      go_simp
                      refine hK _ _ True.intro ?_
                      clear hK K
                      try simp only [List.getElem_toArray, List.getElem_cons_succ, List.getElem_cons_zero, Act.put, List.setIfInBounds_toArray, List.set]
                      refine up_tail ?_
                      refine up_last 7 _ rfl (by kernel_rfl) (by decide) (by rfl) (fun K hK => ?_)
                      refine wp_store_into 23 _ _ rfl x 2 dv.toArray rfl rfl (markI pl' n2 last') 46 hWs.box hdi.out (by rw [List.size_toArray, hdvl]; simp [markI, hla]) hdone.out ?_
                      intro w5 Hs5 Hg5
                      refine hK _ _ ?_
                      clear hK K
                      try simp only [List.getElem_toArray, List.getElem_cons_succ, List.getElem_cons_zero, Act.put, List.setIfInBounds_toArray, List.set]
                      refine up_done (by kernel_rfl) ?_ _
                      exact key w5 ⟨Hs5, Hg5⟩
                  case' q13 =>
                    refine wp_load_mid 23 _ rfl y 0 rfl dv _ (Hyd.out) Tryd.underlying23 rfl hdi3.out ?_
                    refine hK _ _ True.intro ?_
                    clear hK K
                    try simp only [List.getElem_toArray, List.getElem_cons_succ, List.getElem_cons_zero, Act.put, List.setIfInBounds_toArray, List.set]
                    refine up_one 0 _ rfl (by kernel_rfl) (by decide) (by rfl) (fun K hK => ?_)
                    go_simp
                    refine hK _ _ True.intro ?_
                    clear hK K
                    try simp only [List.getElem_toArray, List.getElem_cons_succ, List.getElem_cons_zero, Act.put, List.setIfInBounds_toArray, List.set]
                    refine up_one 1 _ rfl (by kernel_rfl) (by decide) (by rfl) (fun K hK => ?_)
                    go_simp
                    refine hK _ _ True.intro ?_
                    clear hK K
                    try simp only [List.getElem_toArray, List.getElem_cons_succ, List.getElem_cons_zero, Act.put, List.setIfInBounds_toArray, List.set]
                    refine up_one 2 _ rfl (by kernel_rfl) (by decide) (by rfl) (fun K hK => ?_)
                    go_simp
                    refine hK _ _ True.intro ?_
                    clear hK K
                    try simp only [List.getElem_toArray, List.getElem_cons_succ, List.getElem_cons_zero, Act.put, List.setIfInBounds_toArray, List.set]
                    refine up_one 4 _ rfl (by kernel_rfl) (by decide) (by rfl) (fun K hK => ?_)
                    go_simp
                    refine hK _ _ True.intro ?_
                    clear hK K
                    try simp only [List.getElem_toArray, List.getElem_cons_succ, List.getElem_cons_zero, Act.put, List.setIfInBounds_toArray, List.set]
                    refine up_one 5 _ rfl (by kernel_rfl) (by decide) (by rfl) (fun K hK => ?_)
                    go_simp
                    refine hK _ _ True.intro ?_
                    clear hK K
                    try simp only [List.getElem_toArray, List.getElem_cons_succ, List.getElem_cons_zero, Act.put, List.setIfInBounds_toArray, List.set]
                    refine up_one 6 _ rfl (by kernel_rfl) (by decide) (by rfl) (fun K hK => ?_)
                    go_simp
                    refine hK _ _ True.intro ?_
                    clear hK K
                    try simp only [List.getElem_toArray, List.getElem_cons_succ, List.getElem_cons_zero, Act.put, List.setIfInBounds_toArray, List.set]
                    refine up_tail ?_
                    refine up_last 7 _ rfl (by kernel_rfl) (by decide) (by rfl) (fun K hK => ?_)
                    refine wp_store_into 23 _ _ rfl x 2 dv.toArray rfl rfl (markI pl' n2 last') 46 hWs.box hdi.out (by rw [List.size_toArray, hdvl]; simp [markI, hla]) hdone.out ?_
                    intro w5 Hs5 Hg5
                    refine hK _ _ ?_
                    clear hK K
                    try simp only [List.getElem_toArray, List.getElem_cons_succ, List.getElem_cons_zero, Act.put, List.setIfInBounds_toArray, List.set]
                    refine up_done (by kernel_rfl) ?_ _
                    exact key w5 ⟨Hs5, Hg5⟩
                case pf =>
                  rintro w5 ⟨Hs5, Hg5⟩
                  have hW5 := hWs.boxed (mv' := markI pl' n2 dgl) (by rw [← splice_markI pl' n2 last' dgl hla hdgl, ← Hdv.out]; exact Hs5) Hg5
                  have hb5 := below_of_grown hbs2 Hg5 hWs.le hWs.lowx
                  have hN : OpR 200 B gd gk x wa (10 * (k + 1)) w5 := ⟨F, G, S, pl', n2, dgl, hW5, hS.mono (by omega), by omega, hdgl, hpl', hb5⟩
                  have HN := Lib.hid hN
                  clear hN hW5 hb5 hWs hbs2 Hs5 Hg5 Hyd Hys wN wNb hn2 hdone hdvl hdi3 c1 f1 hws
                  go_wp2
                  go_roundg (L - (k + 1))
                  case measure => omega
                  case rel => exact ⟨k + 1, by omega, rfl, by go_num, HN.out⟩
              · obtain ⟨i, rfl⟩ : ∃ i : Nat, pl' = (i : Int) := ⟨pl'.toNat, by omega⟩
                have hi : i < 200 := by omega
                have hwr := pd_write hW2.pd hS.good (by have := hS.cnt; omega) (i : Int) qv hqp
                have Hwr := Lib.hid hwr
                clear hwr
                go_wp2_with (first
                  | (refine wpList_load_row rfl 63 _ rfl pb rfl 63 qv.toArray (0, 0) _ hzz Tryd.underlying63 rfl hqi2.out ?_)
                  | (go_at_call 35; refine Hwr.out.mono ?_))
                rintro e w6 ⟨v6, rfl, F6, _, hP6, ho6, hn6⟩
                have hW6 := hW2.wrote hP6 ho6 hn6
                have hbel6 := hW2.wroteBase hbel2 ho6
                have hzz6 := (ho6.block pb (Array.getElem?_eq_some_iff.1 hzz).1 hpF.1).trans hzz
                have himg6 : ImgAt bs pgs w6 := ⟨Nat.lt_of_lt_of_le himg2.1 ho6.size, fun i p hi => ⟨(himg2.2 i p hi).1, range_keep (himg2.2 i p hi).2 (ho6.block bs himg2.1 hbs.1)⟩⟩
                have hyc6 := (ho6.block y (Array.getElem?_eq_some_iff.1 hyc2).1 hy.1).trans hyc2
                have hF6 : ∀ j, j < wz.heap.size → ¬ F j → ¬ F6 j := fun j hj hf h => (hn6 j h).elim hf (fun h => by omega)
                have hbs6 := hF6 bs himg2.1 hbs.1
                have hy6 := hF6 y (Array.getElem?_eq_some_iff.1 hyc2).1 hy.1
                have c06 := hW6.cell (j := 0) (v := .int .i64 i) rfl
                have hwr := rd_write hW6.rd hS.good (by have := hS.cnt; omega) (i : Int) qv hqp
                have Hwr2 := Lib.hid hwr
                clear hwr Hwr hP6 ho6 hn6 hF6 himg2 hyc2 hW2 hbel2 hzz c0
                go_wp2_with (first
                  | (refine wpList_load_row rfl 63 _ rfl pb rfl 63 qv.toArray (0, 0) _ hzz6 Tryd.underlying63 rfl hqi2.out ?_)
                  | (go_at_call 36; refine Hwr2.out.mono ?_))
                rintro e w7 ⟨rfl, G7, hR7, ho7, hn7⟩
                have hW7 := hW6.rwrote hR7 ho7 hn7
                have hbel7 := hW6.rwroteBase hbel6 ho7
                have himg7 : ImgAt bs pgs w7 := ⟨Nat.lt_of_lt_of_le himg6.1 ho7.size, fun i p hi => ⟨(himg6.2 i p hi).1, range_keep (himg6.2 i p hi).2 (ho7.block bs himg6.1 hbs.2.1)⟩⟩
                have hyc7 := (ho7.block y (Array.getElem?_eq_some_iff.1 hyc6).1 hy.2.1).trans hyc6
                have hG7 : ∀ j, j < w6.heap.size → ¬ G j → ¬ G7 j := fun j hj hf h => (hn7 j h).elim hf (fun h => by omega)
                have hbs7 := hG7 bs himg6.1 hbs.2.1
                have hy7 := hG7 y (Array.getElem?_eq_some_iff.1 hyc6).1 hy.2.1
                have hS7 := hS.write hi hq64
                rw [← Hqv.out] at hS7
                have c07 := hW7.cell (j := 0) (v := .int .i64 i) rfl
                have f07 := hW7.thawed 0
                obtain ⟨i2, hi2⟩ : ∃ i2, i + 1 = i2 := ⟨_, rfl⟩
                obtain ⟨r, hr⟩ : ∃ r, i2 % 128 = r := ⟨_, rfl⟩
                have e1 : IntKind.i64.wrap ((i : Int) + 1) = (i2 : Int) := by rw [IntWalk.i64_in _ (by omega)]; omega
                have e1b : IntKind.i64.wrap (i2 : Int) = (i2 : Int) := IntWalk.i64_in _ (by omega)
                have e2 : (i2 : Int) % 128 = (r : Int) := by omega
                have e3 : (i2 : Int).tmod 128 = (r : Int) := by rw [Int.tmod_eq_emod_of_nonneg (by omega), e2]
                have e4 : IntKind.i64.wrap (r : Int) = (r : Int) := IntWalk.i64_in _ (by omega)
                have hW8 := hW7.set 0 (.int .i64 r)
                have hbel8 := hW7.setBase hbel7 0 (.int .i64 r)
                have hg8 := PgAt.turned (w := w7) (y := x) 0 (.int .i64 r)
                have himg8 : ImgAt bs pgs (w7.setCell ⟨x, 0, none⟩ (.int .i64 r)) := ⟨Nat.lt_of_lt_of_le himg7.1 hg8.size, fun i p hi => ⟨(himg7.2 i p hi).1, range_keep (himg7.2 i p hi).2 (hg8.block bs himg7.1 (fun e => hbs.2.2 (by simpa using e)))⟩⟩
                have hyc8 := (hg8.block y (Array.getElem?_eq_some_iff.1 hyc7).1 (fun e => hy.2.2 (by simpa using e))).trans hyc7
                have hN : OpI 200 B gd gk x wa num' last' bs pgs y dv (10 * k + (c + 1)) (w7.setCell ⟨x, 0, none⟩ (.int .i64 r)) :=
                  ⟨F6, G7, _, (r : Int), hW8, hS7, ⟨by omega, by omega⟩, himg8, hyc8, ⟨hbs6, hbs7, hbs.2.2⟩, ⟨hy6, hy7, hy.2.2⟩, hbel8⟩
                have HN := Lib.hid hN
                clear hN hW8 hbel8 hg8 himg8 hyc8 hW6 hW7 hbel6 hbel7 himg6 himg7 hyc6 hyc7 Hwr2 hR7 ho7 hn7 hG7 hS7 hzz6 c06
                go_wp2
                go_roundg (T - (c + 1))
                case measure => omega
                case rel => exact ⟨c + 1, by omega, rfl, by go_num, HN.out⟩
          · obtain rfl : c = T := by omega
            have hct' : ¬ (c : Int) < (c : Int) := by omega
            go_upto_region 21 with (fail)
            clear hct' hct himg
            have hcT : c ≤ c := Nat.le_refl _
            have hWd0 := hW
            have hdvl : dv.length = 32 := by rw [Hdv.out, List.length_map, hdgl]
            have hdone : Hid (∀ v ∈ dv.toArray.toList, v.oneCell' = true) := by rw [Hdv.out]; intro v hv; obtain ⟨b, _, rfl⟩ := List.mem_map.1 (by simpa using hv); rfl
            have hdi3 : Hid ((Tryd.prog.info? 23).map (·.size) = some dv.length) := by rw [hdvl]; exact (by kernel_rfl : (Tryd.prog.info? 23).map (·.size) = some 32)
            obtain ⟨n2, hn2⟩ : ∃ n2, (num' + 1) % 18446744073709551616 = n2 := ⟨_, rfl⟩
            have wN : IntKind.u64.wrap ((num' : Int) + 1) = (n2 : Int) := by rw [IntKind.wrap_u64, ← hn2]; omega
            have wNb : IntKind.u64.wrap (n2 : Int) = (n2 : Int) := by rw [IntKind.wrap_u64]; omega
            refine wp_region_up 7 (fun _ => True) (by kernel_rfl) ?_
            have hb2 : Below (World.heap wl).size wl { wl with drawn := (World.drawn wl) + 1 } := ⟨rfl, rfl, rfl, Nat.le_refl _, fun _ _ => rfl⟩
            obtain ⟨wd, hdr⟩ : ∃ wd : World, ({ wl with drawn := (World.drawn wl) + 1 } : World) = wd := ⟨_, rfl⟩
            rw [hdr] at hb2 ⊢
            clear hdr
            have hWd := hWd0.below hb2
            have hyd := (hb2.block y (Array.getElem?_eq_some_iff.1 hyc).1).trans hyc
            have hbd := (hbel).trans (hb2.mono hWd0.le)
            clear hWd0 hb2 hW hyc hbel
            have c1 := hWd.cell (j := 1) (v := .int .u64 num') rfl
            have f1 := hWd.thawed 1
            obtain ⟨ws, hws⟩ : ∃ ws, wd.setCell ⟨x, 1, none⟩ (.int .u64 n2) = ws := ⟨_, rfl⟩
            have hWs := hWd.set 1 (.int .u64 n2)
            have hbs2 := hWd.setBase hbd 1 (.int .u64 n2)
            have hys := ((PgAt.turned (w := wd) (y := x) 1 (.int .u64 n2)).block y (Array.getElem?_eq_some_iff.1 hyd).1 (fun e => hy.2.2 (by simpa using e))).trans hyd
            rw [hws] at hWs hbs2 hys
            have hrow : ∀ W : World, W.heap[y]? = some (.cells dv.toArray 23 (0, 0)) → W.rangeAt y 0 dv := fun W h j v hj => by rw [Nat.zero_add, cell_of_row W y j _ _ _ h]; simpa using hj
            have Hyd := Lib.hid (hrow wd hyd)
            have Hys := Lib.hid (hrow ws hys)
            clear hrow hyd hys hWd hbd
            apply cut1 (R := fun w5 => w5.heap[x]? = some (.cells (splice (markI pl' n2 last') 2 dv.toArray.toList).toArray 46 (0, 0)) ∧ ws.grownBy w5 (some x))
            case walk =>
              intro key
              refine up_two 0 3 _ _ rfl rfl (by kernel_rfl) (by decide) (by decide) (by rfl) (by rfl) (fun K hK => ?p18) (fun K hK => ?q18)
              case' p18 =>
                go_simp
                refine hK _ _ True.intro ?_
                clear hK K
                try simp only [List.getElem_toArray, List.getElem_cons_succ, List.getElem_cons_zero, Act.put, List.setIfInBounds_toArray, List.set]
                refine up_two 1 3 _ _ rfl rfl (by kernel_rfl) (by decide) (by decide) (by rfl) (by rfl) (fun K hK => ?p17) (fun K hK => ?q17)
                case' p17 =>
                  go_simp
                  refine hK _ _ True.intro ?_
                  clear hK K
                  try simp only [List.getElem_toArray, List.getElem_cons_succ, List.getElem_cons_zero, Act.put, List.setIfInBounds_toArray, List.set]
                  refine up_two 2 3 _ _ rfl rfl (by kernel_rfl) (by decide) (by decide) (by rfl) (by rfl) (fun K hK => ?p16) (fun K hK => ?q16)
                  case' p16 =>
                    go_simp
                    refine hK _ _ True.intro ?_
                    clear hK K
                    try simp only [List.getElem_toArray, List.getElem_cons_succ, List.getElem_cons_zero, Act.put, List.setIfInBounds_toArray, List.set]
                    refine up_two 3 4 _ _ rfl rfl (by kernel_rfl) (by decide) (by decide) (by rfl) (by rfl) (fun K hK => ?p15) (fun K hK => ?q15)
                    case' p15 =>
                      refine wp_load_mid 23 _ rfl y 0 rfl dv _ (Hyd.out) Tryd.underlying23 rfl hdi3.out ?_
                      refine hK _ _ True.intro ?_
                      clear hK K
                      try simp only [List.getElem_toArray, List.getElem_cons_succ, List.getElem_cons_zero, Act.put, List.setIfInBounds_toArray, List.set]
                      refine up_one 4 _ rfl (by kernel_rfl) (by decide) (by rfl) (fun K hK => ?_)
                      go_simp
                      refine hK _ _ True.intro ?_
                      clear hK K
                      try simp only [List.getElem_toArray, List.getElem_cons_succ, List.getElem_cons_zero, Act.put, List.setIfInBounds_toArray, List.set]
                      refine up_one 5 _ rfl (by kernel_rfl) (by decide) (by rfl) (fun K hK => ?_)
                      go_simp
                      refine hK _ _ True.intro ?_
                      clear hK K
                      try simp only [List.getElem_toArray, List.getElem_cons_succ, List.getElem_cons_zero, Act.put, List.setIfInBounds_toArray, List.set]
                      refine up_one 6 _ rfl (by kernel_rfl) (by decide) (by rfl) (fun K hK => ?_)
                      go_simp
                      refine hK _ _ True.intro ?_
                      clear hK K
                      try simp only [List.getElem_toArray, List.getElem_cons_succ, List.getElem_cons_zero, Act.put, List.setIfInBounds_toArray, List.set]
                      refine up_tail ?_
                      refine up_last 7 _ rfl (by kernel_rfl) (by decide) (by rfl) (fun K hK => ?_)
                      refine wp_store_into 23 _ _ rfl x 2 dv.toArray rfl rfl (markI pl' n2 last') 46 hWs.box hdi.out (by rw [List.size_toArray, hdvl]; simp [markI, hla]) hdone.out ?_
                      intro w5 Hs5 Hg5
                      refine hK _ _ ?_
                      clear hK K
                      try simp only [List.getElem_toArray, List.getElem_cons_succ, List.getElem_cons_zero, Act.put, List.setIfInBounds_toArray, List.set]
                      refine up_done (by kernel_rfl) ?_ _
                      exact key w5 ⟨Hs5, Hg5⟩
                    case' q15 =>
                      go_simp
                      refine hK _ _ True.intro ?_
                      clear hK K
                      try simp only [List.getElem_toArray, List.getElem_cons_succ, List.getElem_cons_zero, Act.put, List.setIfInBounds_toArray, List.set]
                      refine up_two 3 5 _ _ rfl rfl (by kernel_rfl) (by decide) (by decide) (by rfl) (by rfl) (fun K hK => ?p14) (fun K hK => ?q14)
                      case' p14 =>
                        refine wp_load_mid 23 _ rfl y 0 rfl dv _ (Hyd.out) Tryd.underlying23 rfl hdi3.out ?_
                        refine hK _ _ True.intro ?_
                        clear hK K
                        try simp only [List.getElem_toArray, List.getElem_cons_succ, List.getElem_cons_zero, Act.put, List.setIfInBounds_toArray, List.set]
                        refine up_one 5 _ rfl (by kernel_rfl) (by decide) (by rfl) (fun K hK => ?_)
                        go_simp
                        refine hK _ _ True.intro ?_
                        clear hK K
                        try simp only [List.getElem_toArray, List.getElem_cons_succ, List.getElem_cons_zero, Act.put, List.setIfInBounds_toArray, List.set]
                        refine up_one 6 _ rfl (by kernel_rfl) (by decide) (by rfl) (fun K hK => ?_)
                        go_simp
                        refine hK _ _ True.intro ?_
                        clear hK K
                        try simp only [List.getElem_toArray, List.getElem_cons_succ, List.getElem_cons_zero, Act.put, List.setIfInBounds_toArray, List.set]
                        refine up_tail ?_
                        refine up_last 7 _ rfl (by kernel_rfl) (by decide) (by rfl) (fun K hK => ?_)
                        refine wp_store_into 23 _ _ rfl x 2 dv.toArray rfl rfl (markI pl' n2 last') 46 hWs.box hdi.out (by rw [List.size_toArray, hdvl]; simp [markI, hla]) hdone.out ?_
                        intro w5 Hs5 Hg5
                        refine hK _ _ ?_
                        clear hK K
                        try simp only [List.getElem_toArray, List.getElem_cons_succ, List.getElem_cons_zero, Act.put, List.setIfInBounds_toArray, List.set]
                        refine up_done (by kernel_rfl) ?_ _
                        exact key w5 ⟨Hs5, Hg5⟩
                      case' q14 =>
                        go_simp
                        refine hK _ _ True.intro ?_
                        clear hK K
                        try simp only [List.getElem_toArray, List.getElem_cons_succ, List.getElem_cons_zero, Act.put, List.setIfInBounds_toArray, List.set]
                        refine up_one 3 _ rfl (by kernel_rfl) (by decide) (by rfl) (fun K hK => ?_)
                        refine wp_load_mid 23 _ rfl y 0 rfl dv _ (Hys.out) Tryd.underlying23 rfl hdi3.out ?_
                        refine hK _ _ True.intro ?_
                        clear hK K
                        try simp only [List.getElem_toArray, List.getElem_cons_succ, List.getElem_cons_zero, Act.put, List.setIfInBounds_toArray, List.set]
                        refine up_one 6 _ rfl (by kernel_rfl) (by decide) (by rfl) (fun K hK => ?_)
                        go_simp
                        refine hK _ _ True.intro ?_
                        clear hK K
                        try simp only [List.getElem_toArray, List.getElem_cons_succ, List.getElem_cons_zero, Act.put, List.setIfInBounds_toArray, List.set]
                        refine up_tail ?_
                        refine up_last 7 _ rfl (by kernel_rfl) (by decide) (by rfl) (fun K hK => ?_)
                        refine wp_store_into 23 _ _ rfl x 2 dv.toArray rfl rfl (markI pl' n2 last') 46 hWs.box hdi.out (by rw [List.size_toArray, hdvl]; simp [markI, hla]) hdone.out ?_
                        intro w5 Hs5 Hg5
                        refine hK _ _ ?_
                        clear hK K
                        try simp only [List.getElem_toArray, List.getElem_cons_succ, List.getElem_cons_zero, Act.put, List.setIfInBounds_toArray, List.set]
                        refine up_done (by kernel_rfl) ?_ _
                        exact key w5 ⟨Hs5, Hg5⟩
                  case' q16 =>
                    refine wp_load_mid 23 _ rfl y 0 rfl dv _ (Hyd.out) Tryd.underlying23 rfl hdi3.out ?_
                    refine hK _ _ True.intro ?_
                    clear hK K
                    try simp only [List.getElem_toArray, List.getElem_cons_succ, List.getElem_cons_zero, Act.put, List.setIfInBounds_toArray, List.set]
                    refine up_one 2 _ rfl (by kernel_rfl) (by decide) (by rfl) (fun K hK => ?_)
                    go_simp
                    refine hK _ _ True.intro ?_
                    clear hK K
                    try simp only [List.getElem_toArray, List.getElem_cons_succ, List.getElem_cons_zero, Act.put, List.setIfInBounds_toArray, List.set]
                    refine up_one 4 _ rfl (by kernel_rfl) (by decide) (by rfl) (fun K hK => ?_)
                    go_simp
                    refine hK _ _ True.intro ?_
                    clear hK K
                    try simp only [List.getElem_toArray, List.getElem_cons_succ, List.getElem_cons_zero, Act.put, List.setIfInBounds_toArray, List.set]
                    refine up_one 5 _ rfl (by kernel_rfl) (by decide) (by rfl) (fun K hK => ?_)
                    go_simp
                    refine hK _ _ True.intro ?_
                    clear hK K
                    try simp only [List.getElem_toArray, List.getElem_cons_succ, List.getElem_cons_zero, Act.put, List.setIfInBounds_toArray, List.set]
                    refine up_one 6 _ rfl (by kernel_rfl) (by decide) (by rfl) (fun K hK => ?_)
                    go_simp
                    refine hK _ _ True.intro ?_
                    clear hK K
                    try simp only [List.getElem_toArray, List.getElem_cons_succ, List.getElem_cons_zero, Act.put, List.setIfInBounds_toArray, List.set]
                    refine up_tail ?_
                    refine up_last 7 _ rfl (by kernel_rfl) (by decide) (by rfl) (fun K hK => ?_)
                    refine wp_store_into 23 _ _ rfl x 2 dv.toArray rfl rfl (markI pl' n2 last') 46 hWs.box hdi.out (by rw [List.size_toArray, hdvl]; simp [markI, hla]) hdone.out ?_
                    intro w5 Hs5 Hg5
                    refine hK _ _ ?_
                    clear hK K
                    try simp only [List.getElem_toArray, List.getElem_cons_succ, List.getElem_cons_zero, Act.put, List.setIfInBounds_toArray, List.set]
                    refine up_done (by kernel_rfl) ?_ _
                    exact key w5 ⟨Hs5, Hg5⟩
                case' q17 =>
                  refine wp_load_mid 23 _ rfl y 0 rfl dv _ (Hyd.out) Tryd.underlying23 rfl hdi3.out ?_
                  refine hK _ _ True.intro ?_
                  clear hK K
                  try simp only [List.getElem_toArray, List.getElem_cons_succ, List.getElem_cons_zero, Act.put, List.setIfInBounds_toArray, List.set]
                  refine up_one 1 _ rfl (by kernel_rfl) (by decide) (by rfl) (fun K hK => ?_)
                  go_simp
                  refine hK _ _ True.intro ?_
                  clear hK K
                  try simp only [List.getElem_toArray, List.getElem_cons_succ, List.getElem_cons_zero, Act.put, List.setIfInBounds_toArray, List.set]
                  refine up_one 2 _ rfl (by kernel_rfl) (by decide) (by rfl) (fun K hK => ?_)
                  go_simp
                  refine hK _ _ True.intro ?_
                  clear hK K
                  try simp only [List.getElem_toArray, List.getElem_cons_succ, List.getElem_cons_zero, Act.put, List.setIfInBounds_toArray, List.set]
                  refine up_one 4 _ rfl (by kernel_rfl) (by decide) (by rfl) (fun K hK => ?_)
                  go_simp
                  refine hK _ _ True.intro ?_
                  clear hK K
                  try simp only [List.getElem_toArray, List.getElem_cons_succ, List.getElem_cons_zero, Act.put, List.setIfInBounds_toArray, List.set]
                  refine up_one 5 _ rfl (by kernel_rfl) (by decide) (by rfl) (fun K hK => ?_)
                  go_simp
                  refine hK _ _ True.intro ?_
                  clear hK K
                  try simp only [List.getElem_toArray, List.getElem_cons_succ, List.getElem_cons_zero, Act.put, List.setIfInBounds_toArray, List.set]
                  refine up_one 6 _ rfl (by kernel_rfl) (by decide) (by rfl) (fun K hK => ?_)
                  go_simp
                  refine hK _ _ True.intro ?_
                  clear hK K
                  try simp only [List.getElem_toArray, List.getElem_cons_succ, List.getElem_cons_zero, Act.put, List.setIfInBounds_toArray, List.set]
                  refine up_tail ?_
                  refine up_last 7 _ rfl (by kernel_rfl) (by decide) (by rfl) (fun K hK => ?_)
                  refine wp_store_into 23 _ _ rfl x 2 dv.toArray rfl rfl (markI pl' n2 last') 46 hWs.box hdi.out (by rw [List.size_toArray, hdvl]; simp [markI, hla]) hdone.out ?_
                  intro w5 Hs5 Hg5
                  refine hK _ _ ?_
                  clear hK K
                  try simp only [List.getElem_toArray, List.getElem_cons_succ, List.getElem_cons_zero, Act.put, List.setIfInBounds_toArray, List.set]
                  refine up_done (by kernel_rfl) ?_ _
                  exact key w5 ⟨Hs5, Hg5⟩
              case' q18 =>
                refine wp_load_mid 23 _ rfl y 0 rfl dv _ (Hyd.out) Tryd.underlying23 rfl hdi3.out ?_
                refine hK _ _ True.intro ?_
                clear hK K
                try simp only [List.getElem_toArray, List.getElem_cons_succ, List.getElem_cons_zero, Act.put, List.setIfInBounds_toArray, List.set]
                refine up_one 0 _ rfl (by kernel_rfl) (by decide) (by rfl) (fun K hK => ?_)
                go_simp
                refine hK _ _ True.intro ?_
                clear hK K
                try simp only [List.getElem_toArray, List.getElem_cons_succ, List.getElem_cons_zero, Act.put, List.setIfInBounds_toArray, List.set]
                refine up_one 1 _ rfl (by kernel_rfl) (by decide) (by rfl) (fun K hK => ?_)
                go_simp
                refine hK _ _ True.intro ?_
                clear hK K
                try simp only [List.getElem_toArray, List.getElem_cons_succ, List.getElem_cons_zero, Act.put, List.setIfInBounds_toArray, List.set]
                refine up_one 2 _ rfl (by kernel_rfl) (by decide) (by rfl) (fun K hK => ?_)
                go_simp
                refine hK _ _ True.intro ?_
                clear hK K
                try simp only [List.getElem_toArray, List.getElem_cons_succ, List.getElem_cons_zero, Act.put, List.setIfInBounds_toArray, List.set]
                refine up_one 4 _ rfl (by kernel_rfl) (by decide) (by rfl) (fun K hK => ?_)
                go_simp
                refine hK _ _ True.intro ?_
                clear hK K
                try simp only [List.getElem_toArray, List.getElem_cons_succ, List.getElem_cons_zero, Act.put, List.setIfInBounds_toArray, List.set]
                refine up_one 5 _ rfl (by kernel_rfl) (by decide) (by rfl) (fun K hK => ?_)
                go_simp
                refine hK _ _ True.intro ?_
                clear hK K
                try simp only [List.getElem_toArray, List.getElem_cons_succ, List.getElem_cons_zero, Act.put, List.setIfInBounds_toArray, List.set]
                refine up_one 6 _ rfl (by kernel_rfl) (by decide) (by rfl) (fun K hK => ?_)
                go_simp
                refine hK _ _ True.intro ?_
                clear hK K
                try simp only [List.getElem_toArray, List.getElem_cons_succ, List.getElem_cons_zero, Act.put, List.setIfInBounds_toArray, List.set]
                refine up_tail ?_
                refine up_last 7 _ rfl (by kernel_rfl) (by decide) (by rfl) (fun K hK => ?_)
                refine wp_store_into 23 _ _ rfl x 2 dv.toArray rfl rfl (markI pl' n2 last') 46 hWs.box hdi.out (by rw [List.size_toArray, hdvl]; simp [markI, hla]) hdone.out ?_
                intro w5 Hs5 Hg5
                refine hK _ _ ?_
                clear hK K
                try simp only [List.getElem_toArray, List.getElem_cons_succ, List.getElem_cons_zero, Act.put, List.setIfInBounds_toArray, List.set]
                refine up_done (by kernel_rfl) ?_ _
                exact key w5 ⟨Hs5, Hg5⟩
            case pf =>
              rintro w5 ⟨Hs5, Hg5⟩
              have hW5 := hWs.boxed (mv' := markI pl' n2 dgl) (by rw [← splice_markI pl' n2 last' dgl hla hdgl, ← Hdv.out]; exact Hs5) Hg5
              have hb5 := below_of_grown hbs2 Hg5 hWs.le hWs.lowx
              have hN : OpR 200 B gd gk x wa (10 * (k + 1)) w5 := ⟨F, G, S, pl', n2, dgl, hW5, hS.mono (by omega), by omega, hdgl, hpl', hb5⟩
              have HN := Lib.hid hN
              clear hN hW5 hb5 hWs hbs2 Hs5 Hg5 Hyd Hys wN wNb hn2 hdone hdvl hdi3 c1 f1 hws
              go_wp2
              go_roundg (L - (k + 1))
              case measure => omega
              case rel => exact ⟨k + 1, by omega, rfl, by go_num, HN.out⟩
      · obtain rfl : k = L := by omega
        have hlt' : ¬ (k : Int) < (k : Int) := by omega
        have hR1 : OpR 200 B gd gk x wa (400 + 0) wr := ⟨F, G, S, pl', num', last', hW, hS.mono (by omega), hnm, hla, hpl', hbel⟩
        have HR1 := Lib.hid hR1
        clear hR1 hW hS hnm hla hpl' hbel pl' num' last' S F G
        go_wp2
        go_loopg [110] L3 (fun gg i wr => ∃ (j : Nat), j ≤ L3 ∧ gg = L3 - j ∧ i = .int .i64 j ∧ OpR 200 B gd gk x wa (400 + j) wr)
        case atStart => exact ⟨0, by omega, by omega, rfl, HR1.out⟩
        case round =>
          clear HR1
          obtain ⟨j, hj, rfl, rfl, F, G, S, pl', num', last', hW, hS, hnm, hla, hpl', hbel⟩ := hrel
          rename World => wl
          by_cases hlt3 : j < L3
          · have hlt3' : (j : Int) < L3 := by omega
            obtain ⟨⟨a0, a1, a2⟩, hqq⟩ : ∃ p, l3[j]? = some p := ⟨_, List.getElem?_eq_getElem (by rw [HLn3.out]; exact hlt3)⟩
            have hin : InInt3 (a0, a1, a2) := HI3.out _ (List.mem_of_getElem? hqq)
            have hCk := HCw3.out _ hbel
            obtain ⟨b, o, rfl, _, hcs⟩ := hCk.resolve_left (fun h => by rw [h] at hqq; simp at hqq)
            obtain ⟨hp0, hp1, hp2⟩ := hcs j _ hqq
            obtain ⟨pc, Hpc⟩ : ∃ pc : List Value, Hid (pc = [.int .i64 a0, .int .i64 a1, .int .i64 a2]) := ⟨_, rfl⟩
            have hrg : wl.rangeAt b (o + j * 3) pc := by
              rw [Hpc.out]
              intro i u hi
              match i, hi with
              | 0, hi => rw [← hi]; exact hp0
              | 1, hi => rw [← hi]; exact hp1
              | 2, hi => rw [← hi]; exact hp2
            have Hrg := Lib.hid hrg
            have hci : Hid ((Tryd.prog.info? 85).map (·.size) = some pc.length) := by rw [Hpc.out]; exact infoTriple
            have hci2 : Hid ((Tryd.prog.info? 85).map (·.size) = some pc.toArray.size) := by rw [Hpc.out]; exact infoTriple
            have hcz : Hid ((#[.int .i64 0, .int .i64 0, .int .i64 0] : Array Value).size = pc.toArray.size) := by show (#[.int .i64 0, .int .i64 0, .int .i64 0] : Array Value).size = pc.toArray.size; rw [Hpc.out]; rfl
            have hcone : Hid (pc.toArray.all (·.oneCell') = true) := by rw [Hpc.out]; exact all_oneCell_toArray (fun u hu => by simp only [List.mem_cons, List.not_mem_nil, or_false] at hu; rcases hu with rfl | rfl | rfl <;> rfl)
            have hbx : Below wl.heap.size wl (wl.alloc (.cells pc.toArray 85)) := (Below.refl _ _).alloc (Nat.le_refl _) _
            have hxx : (wl.alloc (.cells pc.toArray 85)).heap[wl.heap.size]? = some (.cells pc.toArray 85 (0, 0)) := heap_alloc_new wl _
            have hWx := hW.below hbx
            have hbelx := hbel.trans (hbx.mono hW.le)
            clear hp0 hp1 hp2 hqq hrg hW hbel hcs hCk
            go_upto_region 26 with (first
              | (refine wpList_alloc_arr rfl 85 rfl _ allocTriple ?_)
              | (refine wpList_load_mid rfl 85 _ rfl b (o + j * 3) rfl pc _ Hrg.out Tryd.underlying85 rfl hci.out ?_)
              | (refine wpList_store_new rfl 85 _ _ rfl wl.heap.size rfl pc.toArray rfl rfl 85 _ hci2.out hcz.out hcone.out ?_))
            generalize hwx : wl.alloc (.cells pc.toArray 85) = wx at hbx hxx hWx hbelx ⊢
            obtain ⟨z, hz⟩ : ∃ z, wl.heap.size = z := ⟨_, rfl⟩
            rw [hz] at hxx ⊢
            have c0 : wx.cell? ⟨z, 0, none⟩ = some (.int .i64 a0) := by rw [cell_of_row wx z 0 _ _ _ hxx, Hpc.out]; rfl
            have hcc : ∀ W, Below wx.heap.size wx W → W.cell? ⟨z, 1, none⟩ = some (.int .i64 a1) ∧ W.cell? ⟨z, 2, none⟩ = some (.int .i64 a2) := fun W hW => by
              have hx2 := (hW.block z (Array.getElem?_eq_some_iff.1 hxx).1).trans hxx
              exact ⟨by rw [cell_of_row W z 1 _ _ _ hx2, Hpc.out]; rfl, by rw [cell_of_row W z 2 _ _ _ hx2, Hpc.out]; rfl⟩
            have Hcc := Lib.hid hcc
            clear hz hwx hbx hxx Hrg hci hci2 hcz hcone hcc
            obtain ⟨u1, u2, u3, u4⟩ := mod_in a0 200 (by omega)
            obtain ⟨t1, ht1⟩ : ∃ t, a0.tmod 200 = t := ⟨_, rfl⟩
            rw [ht1] at u1 u2 u3 u4
            obtain ⟨t2, ht2⟩ : ∃ t, t1 + 200 = t := ⟨_, rfl⟩
            rw [ht2] at u3 u4
            obtain ⟨i, ht3⟩ : ∃ i : Nat, t2.tmod 200 = (i : Int) := ⟨(t2.tmod 200).toNat, by omega⟩
            rw [ht3] at u3 u4
            have q1 : IntKind.i64.wrap t1 = t1 := IntWalk.i64_in _ (by omega)
            have q2 : IntKind.i64.wrap (t1 + 200) = t2 := by rw [ht2]; exact IntWalk.i64_in _ (by omega)
            have q2b : IntKind.i64.wrap t2 = t2 := IntWalk.i64_in _ (by omega)
            have q3 : IntKind.i64.wrap (i : Int) = (i : Int) := IntWalk.i64_in _ (by omega)
            have hi : i < 200 := by omega
            clear ht2
            have hrd := pd_read hWx.pd (i : Int)
            obtain ⟨q, hq64, hqe⟩ := byt_read hS.byt (i : Int)
            obtain ⟨pv, Hpv⟩ : ∃ pv : List Value, Hid (pv = q.map cu8) := ⟨_, rfl⟩
            rw [hqe, ← Hpv.out] at hrd
            have Hrd := Lib.hid hrd
            have hpvl : pv.length = 64 := by rw [Hpv.out, List.length_map, hq64]
            have hqi2 : Hid ((Tryd.prog.info? 63).map (·.size) = some pv.toArray.size) := by rw [List.size_toArray, hpvl]; exact info64
            have hqz : Hid (zeros64.size = pv.toArray.size) := by rw [show pv.toArray.size = 64 from by rw [List.size_toArray, hpvl]]; exact (rfl : zeros64.size = 64)
            have hq1 : Hid (pv.toArray.all (·.oneCell') = true) := by rw [Hpv.out]; exact bytes_one _
            clear hrd hqe hpvl
            go_wp2_with (go_at_call 28; refine Hrd.out.mono ?_)
            rintro e w6 ⟨v6, rfl, _, hb6⟩
            have hW6 := hWx.below hb6
            have hbel6 := hbelx.trans (hb6.mono hWx.le)
            have hbz : Below w6.heap.size w6 (w6.alloc (.cells pv.toArray 63)) := (Below.refl _ _).alloc (Nat.le_refl _) _
            have hzz : PgAt w6.heap.size q (w6.alloc (.cells pv.toArray 63)) := ⟨hq64, by rw [← Hpv.out]; exact heap_alloc_new w6 _⟩
            have hbxz := hb6.trans (hbz.mono hb6.size)
            have hWz := hW6.below hbz
            have hbelz := hbel6.trans (hbz.mono hW6.le)
            go_upto_region 28 with (first
              | (refine wpList_alloc_arr rfl 63 rfl _ alloc64 ?_)
              | (refine wpList_store_new rfl 63 _ _ rfl w6.heap.size rfl pv.toArray rfl rfl 63 _ hqi2.out hqz.out hq1.out ?_))
            generalize hwz : w6.alloc (.cells pv.toArray 63) = wz at hzz hbxz hWz hbelz ⊢
            obtain ⟨pb, hpb⟩ : ∃ pb, w6.heap.size = pb := ⟨_, rfl⟩
            have hpF : ¬ F pb ∧ ¬ G pb ∧ pb ≠ x := ⟨fun h => by have := hW6.pd.lt h; omega, fun h => by have := hW6.rd.lt h; omega, fun h => by have := hW6.xlt; omega⟩
            have hBp : B ≤ pb := by rw [← hpb]; exact hW6.le
            rw [hpb] at hzz ⊢
            clear hpb hwz hbz hW6 hbel6 hb6 hWx hbelx Hrd hqi2 hqz hq1 c0 q1 q2 q2b q3 ht1 ht3 u1 u2 u3 u4
            obtain ⟨wd, hdr⟩ : ∃ wd : World, ({ wz with drawn := wz.drawn + 1 } : World) = wd := ⟨_, rfl⟩
            have hbd : Below wz.heap.size wz wd := by rw [← hdr]; exact ⟨rfl, rfl, rfl, Nat.le_refl _, fun _ _ => rfl⟩
            have hPd := hzz.below hbd
            have hWd := hWz.below hbd
            have hbeld := hbelz.trans (hbd.mono hWz.le)
            obtain ⟨c1, c2⟩ := Hcc.out wd (hbxz.trans (hbd.mono hbxz.size))
            clear Hcc hbxz hbd hWz hbelz hzz
            obtain ⟨u1, u2, u3, u4⟩ := mod_in a1 64 (by omega)
            obtain ⟨t1, ht1⟩ : ∃ t, a1.tmod 64 = t := ⟨_, rfl⟩
            rw [ht1] at u1 u2 u3 u4
            obtain ⟨t2, ht2⟩ : ∃ t, t1 + 64 = t := ⟨_, rfl⟩
            rw [ht2] at u3 u4
            obtain ⟨r, ht3⟩ : ∃ r : Nat, t2.tmod 64 = (r : Int) := ⟨(t2.tmod 64).toNat, by omega⟩
            rw [ht3] at u3 u4
            have q1 : IntKind.i64.wrap t1 = t1 := IntWalk.i64_in _ (by omega)
            have q2 : IntKind.i64.wrap (t1 + 64) = t2 := by rw [ht2]; exact IntWalk.i64_in _ (by omega)
            have q2b : IntKind.i64.wrap t2 = t2 := IntWalk.i64_in _ (by omega)
            have q3 : IntKind.i64.wrap (r : Int) = (r : Int) := IntWalk.i64_in _ (by omega)
            have hr64 : r < 64 := by omega
            have hr64' : (r : Int) < 64 := by omega
            have hr0 : (0 : Int) ≤ (r : Int) := by omega
            have hr4 : (r : Int).toNat = r := by omega
            obtain ⟨cb, hcb⟩ : ∃ cb : UInt8, IntKind.u8.wrap a2 = bz cb := ⟨UInt8.ofNat (a2 % 256).toNat, by rw [IntKind.wrap_u8', bz_eq, UInt8.toNat_ofNat']; omega⟩
            have cp : wd.cell? ⟨pb, r, none⟩ = some (.int .u8 (bz (at8 q r))) := hPd.cell hr64
            have fp := hPd.thawed r
            have hxr := xor8b (at8 q r) cb
            have hPs : PgAt pb (q.set r (at8 q r ^^^ cb)) (wd.setCell ⟨pb, r, none⟩ (.int .u8 (bz (at8 q r ^^^ cb)))) := hPd.set r (at8 q r ^^^ cb)
            have hgs := PgAt.turned (w := wd) (y := pb) r (.int .u8 (bz (at8 q r ^^^ cb)))
            have hWs := hWd.other hgs hpF.1 hpF.2.1 hpF.2.2
            have hbels := below_of_grown hbeld hgs hWd.le hBp
            clear hPd hWd hbeld hgs ht2
            refine wp_region_still_tail 12 (by kernel_rfl) (by kernel_rfl) ?_
            rw [hdr]
            simp only [List.take_succ_cons, List.take_zero, List.drop_succ_cons, List.drop_zero]
            iterate 12 still_step
            refine wpStill_nil ?_
            go_upto_region 29 with (fail)
            generalize wd.setCell ⟨pb, r, none⟩ (.int .u8 (bz (at8 q r ^^^ cb))) = ws at hPs hWs hbels ⊢
            obtain ⟨p, hpq⟩ : ∃ p, q.set r (at8 q r ^^^ cb) = p := ⟨_, rfl⟩
            rw [hpq] at hPs
            have hp64 : p.length = 64 := hPs.1
            clear hpq hxr hcb cp fp c1 c2 hdr q1 q2 q2b q3 ht1 ht3 u1 u2 u3 u4 hr64 hr64' hr0 hr4 Hpv hq64
            obtain ⟨qv, Hqv⟩ : ∃ qv : List Value, Hid (qv = p.map cu8) := ⟨_, rfl⟩
            have hzz := hPs.2
            rw [← Hqv.out] at hzz
            have hqi : Hid ((Tryd.prog.info? 63).map (·.size) = some qv.toArray.size) := by rw [List.size_toArray, Hqv.out, List.length_map, hp64]; exact info64
            have hqp : IsPage qv := by rw [Hqv.out]; exact bytes_page hp64
            have Hwr := Lib.hid (pd_write hWs.pd hS.good (by have := hS.cnt; omega) (i : Int) qv hqp)
            clear hPs
            go_wp2_with (first
              | (refine wpList_load_row rfl 63 _ rfl pb rfl 63 qv.toArray (0, 0) _ hzz Tryd.underlying63 rfl hqi.out ?_)
              | (go_at_call 35; refine Hwr.out.mono ?_))
            rintro e w7 ⟨v7, rfl, F7, _, hP7, ho7, hn7⟩
            have hW7 := hWs.wrote hP7 ho7 hn7
            have hbel7 := hWs.wroteBase hbels ho7
            have hzz7 := (ho7.block pb (Array.getElem?_eq_some_iff.1 hzz).1 hpF.1).trans hzz
            have Hwr2 := Lib.hid (rd_write hW7.rd hS.good (by have := hS.cnt; omega) (i : Int) qv hqp)
            clear Hwr hP7 ho7 hn7 hWs hbels hzz
            go_wp2_with (first
              | (refine wpList_load_row rfl 63 _ rfl pb rfl 63 qv.toArray (0, 0) _ hzz7 Tryd.underlying63 rfl hqi.out ?_)
              | (go_at_call 36; refine Hwr2.out.mono ?_))
            rintro e w8 ⟨rfl, G8, hR8, ho8, hn8⟩
            have hW8 := hW7.rwrote hR8 ho8 hn8
            have hbel8 := hW7.rwroteBase hbel7 ho8
            have hS8 := hS.write hi hp64
            rw [← Hqv.out] at hS8
            have hN : OpR 200 B gd gk x wa (400 + (j + 1)) w8 := ⟨F7, G8, _, pl', num', last', hW8, hS8, hnm, hla, hpl', hbel8⟩
            have HN := Lib.hid hN
            clear hN hW8 hbel8 hS8 hW7 hbel7 hzz7 Hwr2 hR8 ho8 hn8
            go_wp2
            go_roundg (L3 - (j + 1))
            case measure => omega
            case rel => exact ⟨j + 1, by omega, rfl, by go_num, HN.out⟩
          · obtain rfl : j = L3 := by omega
            have hlt3' : ¬ (j : Int) < (j : Int) := by omega
            obtain ⟨a, E, ha, hop, hrop⟩ := open_both hS (by omega) 0 (by omega) 128 pl num last hnum hlast
            have k0 : ((0 : Nat) : Int) = 0 := rfl
            rw [k0, ← Hmv.out] at hop hrop
            have Hop := Lib.hid (hop wl F gd hW.pd)
            have HM := Lib.hid (HMw.out wl hbel)
            have hle := hW.le
            clear hop k0
            go_wp2_with (first
              | (refine wpList_load_row rfl 25 _ rfl mb rfl 25 mvp.toArray (0, 0) _ HM.out Tryd.underlying25 rfl hmi.out ?_)
              | (go_at_call 14; refine Hop.out.mono ?_))
            rintro e w6 ⟨rv6, ap6, cp6, v6, rfl, hE6, hrv6, hb6⟩
            have hbel6 := hbel.trans (hb6.mono hle)
            have hW6 := hW.below hb6
            have HM6 := Lib.hid (HMw.out w6 hbel6)
            clear Hop HM hW hbel
            go_wp2_with (first
              | (refine wpList_load_row rfl 25 _ rfl mb rfl 25 mvp.toArray (0, 0) _ HM6.out Tryd.underlying25 rfl hmi.out ?_)
              | (go_at_call 16; refine (HMark.out _).mono ?_))
            rintro e w7 ⟨rm, hrm, rfl, hb7⟩
            obtain rfl := hrm.out
            have hbel7 := hbel6.trans (hb7.mono hW6.le)
            have hW7 := hW6.below hb7
            have Hrop := Lib.hid (hrop w7 G gk hW7.rd)
            clear hrop HM6 hrm
            go_wp2_with (go_at_call 15; refine Hrop.out.mono ?_)
            rintro e w8 ⟨rv8, ap8, cp8, rfl, hrv8, hb8⟩
            have hbel8 := hbel7.trans (hb8.mono hW7.le)
            have hE8 := (hE6.below hb7).below hb8
            have hrv68 := ((hrv6.below hb7).mono hb7.size |>.below hb8).mono hb8.size
            have Hnum := Lib.hid (num_any E v6 w8 (HLw.out _ hbel8) hE8)
            have hle8 : B ≤ w8.heap.size := Nat.le_trans (Nat.le_trans hW7.le hb8.size) (Nat.le_refl _)
            clear Hrop hE6 hE8 hrv6 hb6 hb7 hb8 hW6 hW7 hbel6 hbel7
            go_wp2_with (go_at_call 17; refine Hnum.out.mono ?_)
            rintro e w9 ⟨rfl, hb9⟩
            have hbel9 := hbel8.trans (hb9.mono hle8)
            have hsm := same_any a a ap6 ap8 cp6 cp8 w9 ((hrv68.below hb9).mono hb9.size) ((hrv8.below hb9).mono hb9.size) ⟨by omega, by omega⟩
            rw [decide_eq_true rfl] at hsm
            have Hsm := Lib.hid hsm
            have hle9 := Nat.le_trans hle8 hb9.size
            clear hsm Hnum hrv68 hrv8 hb9 hbel8
            go_wp2_with (go_at_call 18; refine Hsm.out.mono ?_)
            rintro e w10 ⟨rfl, hb10⟩
            have hbel10 := hbel9.trans (hb10.mono hle9)
            clear Hsm
            go_wp2
            go_ret
            exact ⟨rfl, HFin.out _ hbel10⟩
end Go.Proofs.YtegdlpllljccgaaDoor
