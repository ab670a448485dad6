/-
  'PagesMany': its walk.
-/
import Derived.Test.YticdanndfogjfaaGreatDoorBkMany
set_option linter.unusedSimpArgs false
set_option linter.unusedVariables false
namespace Go.Proofs.YticdanndfogjfaaGreatDoor
open Go.RowKit Sh Go.Maps Go.Extern.Stop Go.Stop Go.Extern

attribute [local irreducible] bk1 bk0
theorem many_mod (x : Int) (n : Nat) (h0 : 0 < n) (hn : n ≤ 100) (hx : -9223372036854775808 ≤ x ∧ x ≤ 9223372036854775807) : ∃ (s : Int) (i r : Nat), x.tmod (n : Int) = s ∧ s + (n : Int) = (r : Int) ∧ (r : Int).tmod (n : Int) = (i : Int) ∧ i < n ∧ r < 200 := by
  have t1 := Int.tmod_lt_of_pos x (show (0 : Int) < (n : Int) by omega)
  have t2 : -(n : Int) < x.tmod (n : Int) := Int.lt_tmod_of_pos x (by omega)
  obtain ⟨s, hs⟩ : ∃ s : Int, x.tmod (n : Int) = s := ⟨_, rfl⟩
  rw [hs] at t1 t2
  refine ⟨s, (s + n).toNat % n, (s + n).toNat, hs, by omega, ?_, Nat.mod_lt _ h0, by omega⟩
  rw [Int.tmod_eq_emod_of_nonneg (by omega), Int.natCast_emod]
set_option maxRecDepth 100000 in
set_option maxHeartbeats 16000000 in
theorem pagesMany_any (l : List (Int × Int)) (bp : Option Addr) (cap : Nat) (times : Int) (w : World) (hC : PairsAt w.heap.size w bp l) (hI : ∀ q ∈ l, InInt q) (hn : l.length ≤ 9223372036854775807) (htm : -9223372036854775808 ≤ times ∧ times ≤ 9223372036854775807) :
    Calls Tryz.prog 5 #[.slice bp l.length cap, .int .i64 times] w fun e w' => e = .returned (.bool true) ∧ Below w.heap.size w w' := by
  obtain ⟨L, hL⟩ : ∃ L, l.length = L := ⟨_, rfl⟩
  rw [hL] at hn ⊢
  have HL := Lib.hid hL
  clear hL
  by_cases h60 : 60 < (L : Int)
  · clear hC hI
    go_enter Tryz.func5, Tryz.ntmps5
    go_wp2_with (first
      | (go_at_call 15; refine (stands6_any _).mono ?_; rintro e w1 ⟨rfl, hb1⟩))
    go_ret
    exact ⟨rfl, hb1⟩
  have hL60 : L ≤ 60 := by omega
  obtain ⟨sT, iT, rT, hm1, hm2, hm3, hm4, hm5⟩ := many_mod times 4 (by omega) (by omega) htm
  obtain ⟨K, hK⟩ : ∃ K, iT + 1 = K := ⟨_, rfl⟩
  have hK4 : K ≤ 4 := by omega
  have n4 : ((4 : Nat) : Int) = 4 := rfl
  rw [n4] at hm1 hm2 hm3
  have e1 : wrap64 (sT + 4) = (rT : Int) := (IntWalk.wrap64_in _ (by omega)).trans hm2
  have e2 : wrap64 ((iT : Int) + 1) = (K : Int) := by rw [IntWalk.wrap64_in _ (by omega)]; omega
  clear hm2 n4
  have st0 := st6_new
  obtain ⟨zn, Hzn⟩ : ∃ zn : Array Value, Hid (zn = zeroNow) := ⟨_, rfl⟩
  have hal : ∀ w : World, (Instr.alloc 45 true (.tuple #[])).run Tryz.prog w = .ok (.pointer (some ⟨w.heap.size, 0, none⟩)) (w.alloc (.cells zn 45)) := by rw [Hzn.out]; exact allocNow
  go_enter Tryz.func5, Tryz.ntmps5
  go_wp2_with (first
    | (go_at_call 15; refine (stands6_any _).mono ?_; rintro e w1 ⟨rfl, hb1⟩)
    | (go_at_call 17; refine (own_new (B := w.heap.size) (w0 := w) (w := w1) 130 (by omega) (by omega) hb1 (Nat.le_refl _)).mono ?_))
  rintro e w3 ⟨gd, rfl, hD3⟩
  have Hm := Lib.hid (hD3.mountNew (D := 130) (n := 100) (by omega) (by omega) (by omega) (by omega))
  clear hD3 hb1
  go_wp2_with (first
    | (go_at_call 18; refine Hm.out.mono ?_))
  rintro e w4 ⟨g, rfl, hB4⟩
  clear Hm
  go_upto_region 10 with (first
    | (refine wpList_alloc_arr rfl 45 rfl _ hal ?_))
  have hX0 := (OwnX.start hB4 rfl).add (nowO z28)
  have hz0 : nowO z28 = .cells zn 45 (0, 0) := by rw [Hzn.out]; rfl
  have HZ0 := Lib.hid hz0
  rw [hz0] at hX0
  generalize w4.alloc (.cells zn 45) = w5 at hX0 ⊢
  rw [← HZ0.out] at hX0
  obtain ⟨nb, hnb⟩ : ∃ nb, w4.heap.size = nb := ⟨_, rfl⟩
  rw [hnb] at hX0 ⊢
  clear hz0 hnb hB4 hal
  have hl0 : Len64 z28 := fun p hp => by rw [(List.mem_replicate.1 hp).2]; simp
  go_wp2
  go_loopg [40] K (fun m v wr => ∃ (k : Nat) (b : Bk) (P : List (List UInt8)), m = K - k ∧ k ≤ K ∧ v = .int .i64 k ∧ OwnX b gd g [(nb, nowO P)] w wr ∧ St6 b P (k * L) ∧ Len64 P)
  case atStart => exact ⟨0, _, _, rfl, by omega, rfl, hX0, by rw [Nat.zero_mul]; exact st0, hl0⟩
  case round =>
    clear hX0 st0 hl0 hm1 hm3 e1 e2
    obtain ⟨k, b, P, rfl, hk, rfl, hX, hS, hP⟩ := hrel
    by_cases hlt : k < K
    · have hlt' : (k : Int) < (iT : Int) + 1 := by omega
      have HX0 := Lib.hid hX; have HS0 := Lib.hid hS; have HP0 := Lib.hid hP
      clear hX hS hP
      go_wp2
      go_loopg [45] L (fun m v wr => ∃ (j : Nat) (b : Bk) (P : List (List UInt8)), m = L - j ∧ j ≤ L ∧ v = .int .i64 j ∧ OwnX b gd g [(nb, nowO P)] w wr ∧ St6 b P (k * L + j) ∧ Len64 P)
      case atStart => exact ⟨0, _, _, rfl, by omega, rfl, HX0.out, HS0.out, HP0.out⟩
      case round =>
        clear HX0 HS0 HP0
        rename World => wr2
        obtain ⟨j, b, P, rfl, hj, rfl, hX, hS, hP⟩ := hrel
        by_cases hjl : j < L
        · have hjl' : (j : Int) < (L : Int) := by omega
          have hbel := hX.bel
          have hkl : k * L ≤ 3 * 60 := Nat.mul_le_mul (by omega) hL60
          have hja : j < l.length := by rw [HL.out]; exact hjl
          obtain ⟨bq, oq, hbe, hbq, hcs⟩ := (hC.below hbel).resolve_left (by intro h0; rw [h0] at hja; simp at hja)
          first | subst hbe | (replace hbe := hbe.symm; simp only [Option.some.injEq, Addr.mk.injEq, and_true] at hbe; obtain ⟨rfl, rfl⟩ := hbe)
          obtain ⟨hq0, hq1⟩ := hcs j l[j] (List.getElem?_eq_getElem hja)
          have hin := hI l[j] (List.getElem_mem hja)
          obtain ⟨q0, hqe0⟩ : ∃ q, l[j].1 = q := ⟨_, rfl⟩
          obtain ⟨q1, hqe1⟩ : ∃ q, l[j].2 = q := ⟨_, rfl⟩
          unfold InInt at hin
          rw [hqe0, hqe1] at hin
          rw [hqe0] at hq0
          rw [hqe1] at hq1
          obtain ⟨pc, Hpc⟩ : ∃ pc : List Value, Hid (pc = [.int .i64 q0, .int .i64 q1]) := ⟨_, rfl⟩
          have hrg : wr2.rangeAt bq (oq + j * 2) pc := by
            rw [Hpc.out]
            intro a u hu
            match a, hu with
            | 0, hu => rw [← Option.some.inj hu]; exact hq0
            | 1, hu => rw [← Option.some.inj hu]; exact hq1
          have Hrg := Lib.hid hrg
          have hci : Hid ((Tryz.prog.info? 46).map (·.size) = some pc.length) := by rw [Hpc.out]; exact infoPair
          have hci2 : Hid ((Tryz.prog.info? 46).map (·.size) = some pc.toArray.size) := by rw [Hpc.out]; exact infoPair
          have hcz : Hid ((#[.int .i64 0, .int .i64 0] : Array Value).size = pc.toArray.size) := by show (#[.int .i64 0, .int .i64 0] : Array Value).size = pc.toArray.size; rw [Hpc.out]; rfl
          have hcone : Hid (pc.toArray.all (·.oneCell') = true) := by rw [Hpc.out]; exact all_oneCell_toArray (fun u hu => by simp only [List.mem_cons, List.not_mem_nil, or_false] at hu; rcases hu with rfl | rfl <;> rfl)
          have hbx : Below wr2.heap.size wr2 (wr2.alloc (.cells pc.toArray 46)) := (Below.refl _ _).alloc (Nat.le_refl _) _
          have hxx : (wr2.alloc (.cells pc.toArray 46)).heap[wr2.heap.size]? = some (.cells pc.toArray 46 (0, 0)) := heap_alloc_new wr2 _
          have hXx := hX.below hbx
          clear hcs hq0 hq1 hqe0 hqe1 hrg hX hbel
          go_upto_region 16 with (first
            | (refine wpList_alloc_arr rfl 46 rfl _ allocPair ?_)
            | (refine wpList_load_mid rfl 46 _ rfl bq (oq + j * 2) rfl pc _ Hrg.out Tryz.underlying46 rfl hci.out ?_)
            | (refine wpList_store_new rfl 46 _ _ rfl wr2.heap.size rfl pc.toArray rfl rfl 46 _ hci2.out hcz.out hcone.out ?_))
          generalize wr2.alloc (.cells pc.toArray 46) = wx at hbx hxx hXx ⊢
          obtain ⟨y, hy⟩ : ∃ y, wr2.heap.size = y := ⟨_, rfl⟩
          rw [hy] at hxx ⊢
          have c0 : wx.cell? ⟨y, 0, none⟩ = some (.int .i64 q0) := by rw [cell_of_row wx y 0 _ _ _ hxx, Hpc.out]; rfl
          have c1 : wx.cell? ⟨y, 1, none⟩ = some (.int .i64 q1) := by rw [cell_of_row wx y 1 _ _ _ hxx, Hpc.out]; rfl
          obtain ⟨s0, i0, r0, n1, n2, n3, n4, n5⟩ := many_mod q0 28 (by omega) (by omega) hin.1
          have n28 : ((28 : Nat) : Int) = 28 := rfl
          rw [n28] at n1 n2 n3
          have f1 : wrap64 (s0 + 28) = (r0 : Int) := (IntWalk.wrap64_in _ (by omega)).trans n2
          clear n2 n28
          clear hy hbx hxx Hrg hci hci2 hcz hcone
          go_upto_region 17 with (fail)
          clear c0 n1 n3 f1
          obtain ⟨pg, hpg⟩ : ∃ pg, p3 (UInt8.ofNat (q1 % 256).toNat) (UInt8.ofNat j) (UInt8.ofNat k) = pg := ⟨_, rfl⟩
          have hpgl : pg.length = 64 := by rw [← hpg]; exact p3_len _ _ _
          have hpg9 : at8 pg 9 = 0 := by rw [← hpg]; exact p3_nine _ _ _
          obtain ⟨pv, Hpv⟩ : ∃ pv : List Value, Hid (pv = pg.map cu8) := ⟨_, rfl⟩
          have hBp : Hid (Tryz.prog.built 37 [(0, .int .u8 (q1 % 256)), (1, .int .u8 (j : Int)), (2, .int .u8 (k : Int))] = some pv.toArray) := by
            rw [byte_of_int, byte_of_nat (show j < 256 by omega), byte_of_nat (show k < 256 by omega), Hpv.out, ← hpg]
            exact built_p3 _ _ _
          have hpi : Hid ((Tryz.prog.info? 37).map (·.size) = some pv.toArray.size) := by rw [Hpv.out]; exact pageInfo hpgl
          have hpz : Hid (zeros64.size = pv.toArray.size) := by rw [Hpv.out]; exact pageZ hpgl
          have hp1 : Hid (pv.toArray.all (·.oneCell') = true) := by rw [Hpv.out]; exact bytes_one _
          have hpV : pageV pg = .agg pv.toArray := by rw [Hpv.out]; rfl
          have hpO : pageO pg = .cells pv.toArray 37 (0, 0) := by rw [Hpv.out]; rfl
          have hXz := hXx.add (pageO pg)
          rw [hpO] at hXz
          have hpvl : pv.length = 64 := by rw [Hpv.out]; simp [hpgl]
          clear hpg hXx
          go_upto_region 18 with (first
            | (refine wpList_build3 (.tmp 57) (.tmp 59) (.tmp 61) rfl _ _ _ rfl rfl rfl _ hBp.out (by rfl) ?_)
            | (refine wpList_alloc_arr rfl 37 rfl _ alloc64 ?_)
            | (refine wpList_store_new rfl 37 _ _ rfl wx.heap.size rfl pv.toArray rfl rfl 37 _ hpi.out hpz.out hp1.out ?_))
          clear hBp c1
          generalize wx.alloc (.cells pv.toArray 37) = wy at hXz ⊢
          obtain ⟨z, hz⟩ : ∃ z, wx.heap.size = z := ⟨_, rfl⟩
          rw [hz] at hXz ⊢
          obtain ⟨bw, b', st, hS'⟩ := hS.step (i := i0) (by omega) n4 hpgl hpg9
          have hw := hXz.write hS.ok (i0 : Int) pg hpgl
          rw [st.w, hpV] at hw
          have Hw := Lib.hid hw
          have hzr := hXz.at_ (x := (z, .cells pv.toArray 37 (0, 0))) (by simp)
          have Hst := Lib.hid st; have HS' := Lib.hid hS'
          have Hlen := Lib.hid (show P.length = 28 from hS.len)
          clear hz hw hXz hS st hS' hpz
          go_wp2_with (first
            | (refine wpList_load_row rfl 37 _ rfl z rfl 37 pv.toArray (0, 0) _ hzr Tryz.underlying37 rfl hpi.out ?_)
            | (go_at_call 19; refine Hw.out.mono ?_))
          rintro e w6 ⟨v6, rfl, hE6, hX6⟩
          obtain rfl := ErrV.zero hE6
          have hc := hX6.commit Hst.out.okw Hst.out.atw
          rw [Hst.out.c] at hc
          have Hc := Lib.hid hc
          clear hc hX6 hE6 Hw hzr
          go_wp2_with (first
            | (go_at_call 22; refine Hc.out.mono ?_))
          rintro e w7 ⟨v7, rfl, hE7, hX7⟩
          obtain rfl := ErrV.zero hE7
          have hzr := hX7.at_ (x := (z, .cells pv.toArray 37 (0, 0))) (by simp)
          have hnr := hX7.at_ (x := (nb, nowO P)) (by simp)
          have hX7' := hX7.drop
          obtain ⟨nl, Hnl⟩ : ∃ nl : List Value, Hid (nl = nowC P) := ⟨_, rfl⟩
          have hnr2 : Hid (w7.heap[nb]? = some (.cells nl.toArray 45 (0, 0))) := by rw [Hnl.out]; exact hnr
          have hfit : Hid (i0 * 64 + pv.toArray.size ≤ nl.length) := by
            have e1 : nl.length = 64 * 28 := by rw [Hnl.out, nowC_len hP, Hlen.out]
            have e2 : pv.toArray.size = 64 := by rw [List.size_toArray, hpvl]
            have : i0 * 64 + pv.toArray.size ≤ nl.length := by rw [e1, e2]; omega
            exact this
          have Hone : Hid (∀ v ∈ pv.toArray.toList, v.oneCell' = true) := by
            have : ∀ v ∈ pv.toArray.toList, v.oneCell' = true := fun v hv => by
              have h1 := hp1.out
              rw [Array.all_eq_true'] at h1
              exact h1 v (by simpa using hv)
            exact this
          have hset : Hid (splice nl (i0 * 64) pv.toArray.toList = nowC (P.set i0 pg)) := by
            have := nowC_set hP (i := i0) (by rw [Hlen.out]; exact n4) hpgl
            rw [Hnl.out, Hpv.out]; exact this
          clear hE7 hX7 Hc hnr
          go_wp2_with (first
            | (refine wpList_load_row rfl 37 _ rfl z rfl 37 pv.toArray (0, 0) _ hzr Tryz.underlying37 rfl hpi.out ?_)
            | (refine wpList_store_into rfl 37 _ _ rfl nb (i0 * 64) pv.toArray rfl rfl nl 45 hnr2.out hpi.out hfit.out Hone.out ?_; intro w8 Hs8 Hg8))
          have hX8 := hX7'.set (o' := nowO (P.set i0 pg)) Hg8.out (by rw [Hs8.out, hset.out]; rfl)
          have hl8 := len64_set (i := i0) hP hpgl
          clear hX7' Hs8 Hg8 hnr2 hfit Hone hset hzr
          go_roundg (L - (j + 1))
          case measure => omega
          case rel => exact ⟨j + 1, b', P.set i0 pg, rfl, by omega, by go_num, hX8, HS'.out, hl8⟩
        · obtain rfl : j = L := by omega
          clear hjl
          have hS2 : St6 b P ((k + 1) * j) := by rw [Nat.succ_mul]; exact hS
          have HX2 := Lib.hid hX; have HS2 := Lib.hid hS2; have HP2 := Lib.hid hP
          clear hX hS hS2 hP
          go_wp2
          go_roundg (K - (k + 1))
          case measure => omega
          case rel => exact ⟨k + 1, b, P, rfl, by omega, by go_num, HX2.out, HS2.out, HP2.out⟩
    · obtain rfl : k = K := by omega
      have hkl : k * L ≤ 4 * 60 := Nat.mul_le_mul hK4 hL60
      have hnl : ¬ ((k : Int) < (iT : Int) + 1) := by omega
      obtain ⟨b1, hsy, hS1, ha1⟩ := hS.sync
      have hs := hX.sync hS.ok (by have := hS.ats; omega)
      rw [hsy] at hs
      have Hs := Lib.hid hs; have HS1 := Lib.hid hS1; have Ha1 := Lib.hid ha1
      clear hlt hs hX hS hS1 hsy ha1 hC hI
      go_wp2_with (first
        | (go_at_call 26; refine Hs.out.mono ?_))
      rintro e w6 ⟨v, rfl, hE, hX1⟩
      obtain rfl := ErrV.zero hE
      have HX1 := Lib.hid hX1
      clear hE hX1 Hs hnl
      go_wp2
      go_loopg [5, 7, 81] 3 (fun m d bb v wr => ∃ (r gd g : Nat) (b : Bk), m = 3 - r ∧ r ≤ 3 ∧ d = .pointer (some ⟨gd, 0, none⟩) ∧ bb = .pointer (some ⟨g, 0, none⟩) ∧ v = .int .i64 r ∧ OwnX b gd g [(nb, nowO P)] w wr ∧ St6 b P (k * L + r) ∧ b.S.ats = [])
      case atStart => exact ⟨0, gd, g, b1, rfl, by omega, rfl, rfl, rfl, HX1.out, HS1.out, Ha1.out⟩
      case round =>
        clear HX1 HS1 Ha1
        rename World => wr3
        obtain ⟨r, gd, g, b, rfl, hr, rfl, rfl, rfl, hX, hS, ha⟩ := hrel
        by_cases hr3 : r < 3
        · have hr3' : (r : Int) < 3 := by omega
          obtain ⟨nl, Hnl⟩ : ∃ nl : List Value, Hid (nl = nowC P) := ⟨_, rfl⟩
          have hnr := hX.at_ (x := (nb, nowO P)) (by simp)
          have hnr2 : wr3.heap[nb]? = some (.cells nl.toArray 45 (0, 0)) := by rw [Hnl.out]; exact hnr
          have hni : Hid ((Tryz.prog.info? 45).map (·.size) = some nl.toArray.size) := by
            rw [List.size_toArray, Hnl.out, nowC_len hP, hS.len]; exact infoNow
          have HX := Lib.hid hX; have HS := Lib.hid hS; have Ha := Lib.hid ha
          clear hX hS ha hnr
          go_wp2_with (first
            | (refine wpList_load_row rfl 45 _ rfl nb rfl 45 nl.toArray (0, 0) _ hnr2 Tryz.underlying45 rfl hni.out ?_))
          clear hnr2 hni
          go_loopg [84] 28 (fun m v wr => ∃ (j : Nat), m = 28 - j ∧ j ≤ 28 ∧ v = .int .i64 j ∧ OwnX b gd g [(nb, nowO P)] w wr)
          case atStart => exact ⟨0, rfl, by omega, rfl, HX.out⟩
          case round =>
            clear HX
            rename World => wr4
            obtain ⟨j, rfl, hj, rfl, hX⟩ := hrel
            by_cases hjl : j < 28
            · have hjl' : (j : Int) < 28 := by omega
              obtain ⟨pg, hpj, hpage⟩ := HS.out.page hjl
              have hpgl : pg.length = 64 := hP pg (List.mem_of_getElem? hpj)
              obtain ⟨pv, Hpv⟩ : ∃ pv : List Value, Hid (pv = pg.map cu8) := ⟨_, rfl⟩
              have hix : ∀ W : World, (Instr.index 45 (.agg nl.toArray) (.int .i64 (j : Int))).run Tryz.prog W = .ok (.agg pv.toArray) W := fun W => by
                rw [Hnl.out, Hpv.out]; exact run_index_now hP HS.out.len j hjl hpj W
              have hpi : Hid ((Tryz.prog.info? 37).map (·.size) = some pv.toArray.size) := by rw [Hpv.out]; exact pageInfo hpgl
              have hpz : Hid (zeros64.size = pv.toArray.size) := by rw [Hpv.out]; exact pageZ hpgl
              have hp1 : Hid (pv.toArray.all (·.oneCell') = true) := by rw [Hpv.out]; exact bytes_one _
              have hpvl : pv.length = 64 := by rw [Hpv.out]; simp [hpgl]
              have hpB : BP pv := ⟨pg, hpgl, Hpv.out⟩
              have hpV : pageV pg = .agg pv.toArray := by rw [Hpv.out]; rfl
              have hXa := hX.add (.cells pv.toArray 37 (0, 0))
              clear hX hpj
              go_upto_region 30 with (first
                | (refine wpList_alloc_arr rfl 37 rfl _ alloc64 ?_)
                | (refine wpList_store_new rfl 37 _ _ rfl wr4.heap.size rfl pv.toArray rfl rfl 37 _ hpi.out hpz.out hp1.out ?_))
              generalize wr4.alloc (.cells pv.toArray 37) = wa at hXa ⊢
              obtain ⟨k1, hk1⟩ : ∃ k1, wr4.heap.size = k1 := ⟨_, rfl⟩
              rw [hk1] at hXa ⊢
              have hrd := hXa.read HS.out.ok (j : Int)
              rw [hpage, hpV] at hrd
              have Hrd := Lib.hid hrd
              clear hrd hXa hk1 hix hpage hpV
              go_wp2_with (first
                | (go_at_call 24; refine Hrd.out.mono ?_))
              rintro e w7 ⟨v7, rfl, hE7, hX7, _⟩
              obtain rfl := ErrV.zero hE7
              have hXb := hX7.add (.cells pv.toArray 37 (0, 0))
              clear hE7 Hrd hX7
              go_upto_region 31 with (first
                | (refine wpList_alloc_arr rfl 37 rfl _ alloc64 ?_)
                | (refine wpList_store_new rfl 37 _ _ rfl w7.heap.size rfl pv.toArray rfl rfl 37 _ hpi.out hpz.out hp1.out ?_))
              generalize w7.alloc (.cells pv.toArray 37) = wb at hXb ⊢
              obtain ⟨k2, hk2⟩ : ∃ k2, w7.heap.size = k2 := ⟨_, rfl⟩
              rw [hk2] at hXb ⊢
              have hx1 := hXb.at_ (x := (k1, .cells pv.toArray 37 (0, 0))) (by simp)
              have hx2 := hXb.at_ (x := (k2, .cells pv.toArray 37 (0, 0))) (by simp)
              have HXc := Lib.hid (hXb.drop.drop)
              have hl1 := Lib.hid (run_loadAt_mid (P := Tryz.prog) wb k1 0 37 pv _ (fun j v hj => by rw [Nat.zero_add, cell_of_row wb k1 j _ _ _ hx1]; simpa using hj) Tryz.underlying37 rfl (by rw [hpvl]; exact info64))
              have hl2 := Lib.hid (run_loadAt_mid (P := Tryz.prog) wb k2 0 37 pv _ (fun j v hj => by rw [Nat.zero_add, cell_of_row wb k2 j _ _ _ hx2]; simpa using hj) Tryz.underlying37 rfl (by rw [hpvl]; exact info64))
              have hneq := hpB.neq
              have hsame := hpB.same
              clear hk2 hXb hx1 hx2 hpi hpz hp1
              go_wp2_with (first
                | (have _t := hl1; refine wpList_load_page _ rfl k1 0 rfl _ hl1.out (by rfl) ?_; clear hl1)
                | (have _t := hl2; refine wpList_load_page _ rfl k2 0 rfl _ hl2.out (by rfl) ?_; clear hl2))
              go_roundg (28 - (j + 1))
              case measure => omega
              case rel => exact ⟨j + 1, rfl, by omega, by go_num, HXc.out⟩
            · obtain rfl : j = 28 := by omega
              clear hjl
              have hS := HS.out
              obtain ⟨b', m0, rs, rm, hS'⟩ := hS.remount Ha.out (by omega)
              have hcr := hX.crash hS.ok.good (by rw [Ha.out]; simp)
              have Hcr := Lib.hid hcr
              have Hrm := Lib.hid rm; have HS' := Lib.hid hS'
              clear hcr hX hS rm hS'
              go_wp2_with (first
                | (go_at_call 27; refine Hcr.out.mono ?_))
              rintro e w9 ⟨gd2, rfl, hD9⟩
              have hmt := hD9.mount Hrm.out (by rw [HS.out.n, HS.out.firm]; omega) (by have := HS.out.gen; omega)
              rw [HS.out.n] at hmt
              have n100 : ((100 : Nat) : Int) = 100 := rfl
              rw [n100] at hmt
              have Hmt := Lib.hid hmt
              clear hmt hD9 Hcr n100
              go_wp2_with (first
                | (go_at_call 18; refine Hmt.out.mono ?_))
              rintro e w10 ⟨g2, rfl, hX10⟩
              have HX10 := Lib.hid hX10
              clear hX10 Hmt
              go_wp2
              go_roundg (3 - (r + 1))
              case measure => omega
              case rel => exact ⟨r + 1, gd2, g2, b', rfl, by omega, rfl, rfl, by go_num, HX10.out, HS'.out, Hrm.out.ats⟩
        · obtain rfl : r = 3 := by omega
          clear hr3
          have hbel := hX.bel
          clear hX hS ha
          go_wp2
          go_ret
          exact ⟨rfl, hbel⟩
end Go.Proofs.YticdanndfogjfaaGreatDoor
