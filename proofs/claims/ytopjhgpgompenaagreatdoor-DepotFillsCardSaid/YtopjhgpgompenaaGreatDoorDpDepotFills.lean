/-
  'DepotFills': its walk.
-/
import Derived.Test.YtopjhgpgompenaaGreatDoorDpFillsM
set_option linter.unusedSimpArgs false
set_option linter.unusedVariables false
namespace Go.Proofs.YtopjhgpgompenaaGreatDoor
open Go.RowKit Sh Go.Maps Go.Extern.Stop Go.Stop Go.Extern

theorem infoIntA : (Tryz.prog.info? 3).map (fun i => (i.zero, i.size, i.bytes)) = some (some (.int .i64 0), 1, 8) := by kernel_rfl
theorem u8_small {i : Nat} (h : i < 256) : IntKind.u8.wrap (i : Int) = (i : Int) ∧ (UInt8.ofNat i).toNat = i := by
  constructor
  · rw [IntKind.wrap_u8]; omega
  · rw [UInt8.toNat_ofNat']; omega
attribute [local irreducible] bk1 bk0
set_option maxRecDepth 100000 in
set_option maxHeartbeats 32000000 in
theorem depotFills_any (bI nI : Int) (hbI : -9223372036854775808 ≤ bI ∧ bI ≤ 9223372036854775807) (hnI : -9223372036854775808 ≤ nI ∧ nI ≤ 9223372036854775807) (w : World) (hL : Laid w) :
    Calls Tryz.prog 5 #[.int .i64 bI, .int .i64 nI] w (RetP (.bool true) w) := by
  have hpos := hL.pos
  obtain ⟨s1, km, r1, a1, a2, a3, a4⟩ := dp_mod bI 8 (by omega) (by omega)
  obtain ⟨s2, N, r2, b1, b2, b3, b4⟩ := dp_mod nI 40 (by omega) (by omega)
  have n8 : ((8 : Nat) : Int) = 8 := rfl
  have n40 : ((40 : Nat) : Int) = 40 := rfl
  rw [n8] at a1 a2 a3
  rw [n40] at b1 b2 b3
  obtain ⟨K, hKe⟩ : ∃ K, km + 1 = K := ⟨_, rfl⟩
  have hK1 : 1 ≤ K := by omega
  have hK8 : K ≤ 8 := by omega
  have hKI : (km : Int) + 1 = (K : Int) := by omega
  obtain ⟨hD0, hC0, ht0⟩ := de600 K (by omega)
  have HD0 := Lib.hid hD0; have HC0 := Lib.hid hC0; have Ht0 := Lib.hid ht0
  have Hfr := Lib.hid (fun (w1 : World) (hb1 : Below w.heap.size w w1) => fresh7_any K hK1 (by omega) w w1 hb1)
  have HKI := Lib.hid hKI
  have HL := Lib.hid hL
  obtain ⟨i0, hi0, hzz⟩ := Option.map_eq_some_iff.1 infoIntA
  simp only [Prod.mk.injEq] at hzz
  have Hi0 := Lib.hid hi0; have Hzz := Lib.hid hzz
  clear n8 n40 hD0 hC0 ht0 hKe hKI hL hi0 hzz hpos
  go_enter Tryz.func5, Tryz.ntmps5
  go_wp2_with (first
    | (go_at_call 14; refine (stands7_any _).mono ?_))
  rintro e w1 ⟨rfl, hb1⟩
  go_upto_region 4 with (fail)
  rw [HKI.out]
  have Hfr1 := Lib.hid (Hfr.out w1 hb1)
  clear a1 a2 a3 b1 b2 b3 Hfr hb1 HKI
  go_wp2_with (first
    | (go_at_call 26; refine Hfr1.out.mono ?_))
  rintro e w2 ⟨gd, g, x, rfl, hX0⟩
  have HX0 := Lib.hid hX0
  clear Hfr1 hX0
  go_wp2
  go_loopg [38, 7] N (fun m v sv wr => ∃ (i : Nat) (L : List Nat) (b : Bk) (hs : List (List UInt8)) (bl : Nat → List UInt8) (T : List (Nat × Obj)), m = N - i ∧ i ≤ N ∧ v = .int .i64 i ∧ L.length = min i (4 * K) ∧ OwnX b gd g T w wr ∧ SlT (x, depO g 3 K) T sv L w.heap.size ∧ De b 3 K hs bl ∧ Co b 600 i ∧ b.txn = [] ∧ Fill hs bl K L)
  case atStart => exact ⟨0, [], _, _, _, _, rfl, by omega, rfl, by simp, HX0.out, .inl ⟨rfl, rfl, rfl⟩, HD0.out, HC0.out, Ht0.out, Fill.zero K _⟩
  case round =>
    clear HX0 HD0 HC0 Ht0
    obtain ⟨i, L, b, hs, bl, T, rfl, hiN, rfl, hLl, hX, hSl, hD, hC, ht, hF⟩ := hrel
    by_cases hlt : i < N
    · have hlt' : (i : Int) < (N : Int) := by omega
      have w4K : IntKind.i64.wrap (4 * (K : Int)) = 4 * (K : Int) := IntWalk.i64_in _ (by omega)
      obtain ⟨hu8, hun⟩ := u8_small (show i < 256 by omega)
      obtain ⟨pv, Hpv⟩ : ∃ pv : List Value, Hid (pv = page2 (UInt8.ofNat i) 1) := ⟨_, rfl⟩
      have hpV : pageV (pg2 (UInt8.ofNat i) 1) = .agg pv.toArray := by rw [pg2_v, Hpv.out]
      have HB : Hid (Tryz.prog.built 28 [(0, .int .u8 (i : Int)), (1, .int .u8 1)] = some pv.toArray) := by
        have := built_two (UInt8.ofNat i) 1
        rw [cu8_nat, cu8_nat, hun] at this
        rw [Hpv.out]; exact this
      cases hr : roomL (-1) hs with
      | none =>
        have h4 : ¬ ((i : Int) < 4 * (K : Int)) := by have := hF.full.1 hr; omega
        have hb4 : decide ((i : Int) < 4 * (K : Int)) = false := decide_eq_false h4
        have hLi : L.length = min (i + 1) (4 * K) := by omega
        have hpt := hX.dPut_full hSl.mem hD (by omega) (by omega) (pg2_len (UInt8.ofNat i) 1) hr
        rw [hpV] at hpt
        have Hpt := Lib.hid hpt
        have HSl := Lib.hid hSl; have HD := Lib.hid hD; have HC := Lib.hid hC; have Ht := Lib.hid ht; have HF := Lib.hid hF; have HLi := Lib.hid hLi
        clear hpt hpV hX hSl hD hC ht hF hr hLl hLi
        go_wp2_with (first
          | (refine wpList_build2 (.tmp 44) (.const (.int .u8 1)) rfl _ _ rfl rfl _ HB.out (by rfl) ?_)
          | (go_at_call 15; refine Hpt.out.mono ?_))
        rintro e w3 ⟨v3, rfl, hE3, hX3⟩
        obtain ⟨t3, z3, rfl⟩ := hE3.held (by decide)
        have hnq := neq_held t3 z3
        have heq : ∀ W : World, (binOp .eql 25 (.iface t3 z3) .nilIface).run Tryz.prog W = .ok (.bool false) W := fun W => run_eql_held_nil W 25 _ _ Tryz.methodsError
        have Hnum := Lib.hid (num_any 20 _ w3 (HL.out.below HL.out.pos hX3.bel) hE3)
        have HX3 := Lib.hid hX3
        clear hX3 hE3 Hpt HB
        go_wp2_with (first
          | (go_at_call 24; refine Hnum.out.mono ?_))
        rintro e w4 ⟨rfl, hb4'⟩
        have hX4 := HX3.out.below hb4'
        have Hu := Lib.hid hX4.undo
        clear hb4' hX4 Hnum
        go_wp2_with (first
          | (go_at_call 27; refine Hu.out.mono ?_))
        rintro e w5 ⟨rfl, hX5⟩
        rw [txn_same Ht.out] at hX5
        have HX5 := Lib.hid hX5
        clear hX5 Hu hnq heq HX3
        go_wp2
        go_roundg (N - (i + 1))
        case measure => omega
        case rel => exact ⟨i + 1, L, b, hs, bl, T, rfl, by omega, by go_num, HLi.out, HX5.out, HSl.out, HD.out, ⟨by have := HC.out.gen; omega, by have := HC.out.ats; omega, HC.out.n, HC.out.firm⟩, Ht.out, HF.out⟩
      | some s =>
        have h4 : i < 4 * K := by
          have : ¬ L.length = 4 * K := fun e => by rw [hF.full.2 e] at hr; cases hr
          omega
        have h4' : (i : Int) < 4 * (K : Int) := by omega
        have hb4 : decide ((i : Int) < 4 * (K : Int)) = true := decide_eq_true h4'
        have hLe : L.length = i := by omega
        obtain ⟨t, hP, hpt⟩ := hX.dPut hSl.mem hD (by omega) (by omega) (pg2_len (UInt8.ofNat i) 1) hr (by rw [ht]; simp)
        rw [hpV] at hpt
        have Hpt := Lib.hid hpt
        have hF2 := hF.put hr
        rw [hLe] at hF2
        have hl2 : t.length ≤ 2 := by have := hP.tx.len; rw [ht] at this; simpa using this
        have HSl := Lib.hid hSl; have HP := Lib.hid hP; have HC := Lib.hid hC; have HF2 := Lib.hid hF2
        clear hpt hpV hX hSl hD hC ht hF hF2 hr hLl hP
        go_wp2_with (first
          | (refine wpList_build2 (.tmp 44) (.const (.int .u8 1)) rfl _ _ rfl rfl _ HB.out (by rfl) ?_)
          | (go_at_call 15; refine Hpt.out.mono ?_))
        rintro e w3 ⟨v3, rfl, hE3, hX3⟩
        obtain rfl := ErrV.zero hE3
        clear hE3 Hpt HB
        obtain ⟨ap, cp, rfl⟩ := HSl.out.form
        have hown := HSl.out.owns hX3
        have hBs : w.heap.size ≤ w3.heap.size := hX3.bel.size
        obtain ⟨B, hB⟩ : ∃ B, w.heap.size = B := ⟨_, rfl⟩
        obtain ⟨hq0, hq1, hq2⟩ := Hzz.out
        have hi0 := Hi0.out
        rw [hB] at hown hBs
        obtain ⟨J, hJ⟩ : ∃ J, L.length = J := ⟨_, rfl⟩
        rw [hJ] at hown ⊢
        have hJ40 : J < 40 := by omega
        go_wp2_with (at_builtin; refine wpList_append_lies _ rfl _ _ _ rfl B 3 i0 _ 1 8 Tryz.underlying32 hi0 hq0 hq1 hq2 rfl (by omega) _ J _ rfl (hown.alloc _) ⟨w3.heap.size, 0, none⟩ 1 1 [.int .i64 (s : Nat)] rfl rfl (World.news_of_block (cs := #[.int .i64 (s : Nat)]) (t := 3) (fr := (0, 0)) (heap_alloc_new w3 _)) (by simp [Value.oneCell']) (by omega) (by unfold maxLen; omega) (by omega) (by simp; omega) (w3.heap.size + 1) (by simp) ?_)
        intro q cap2 w4 hown4 hgr4 hat4 hlt4
        have hba : Below w3.heap.size w3 (w3.alloc (.cells #[.int .i64 (s : Nat)] 3)) := (Below.refl _ _).alloc (Nat.le_refl _) _
        have hX3a := hX3.below hba
        rw [← hB, ← hJ] at hown4
        rw [← hJ] at hgr4 hat4
        obtain ⟨T', hX4, hSl4⟩ := HSl.out.append hX3a (s := s) (q := q) (cap := cap2) hown4 hgr4 (hat4.imp id (fun h => by rw [h]; simp))
        obtain ⟨b', hD5, hC5, ht5, hcm⟩ := hX4.commDe HP.out.de (HC.out.txn t) (by omega) (by show t.length ≤ 4; omega)
        have Hcm := Lib.hid hcm
        have hLn : (L ++ [s]).length = J + 1 := by rw [List.length_append, hJ]; rfl
        rw [hLn] at hSl4
        have HSl4 := Lib.hid hSl4; have HD5 := Lib.hid hD5; have HC5 := Lib.hid hC5; have Ht5 := Lib.hid ht5
        have HLn := Lib.hid (show (L ++ [s]).length = min (i + 1) (4 * K) by rw [List.length_append, hLe]; simp; omega)
        clear hown hown4 hgr4 hat4 hlt4 hba hX3 hX3a hX4 hSl4 hcm hD5 hC5 ht5 HSl HP HC hi0 hq0 hq1 hq2 hBs hB hJ hLn
        go_wp2_with (first
          | (go_at_call 28; refine Hcm.out.mono ?_))
        rintro e w5 ⟨v5, rfl, hE5, hX5⟩
        obtain rfl := ErrV.zero hE5
        have HX5 := Lib.hid hX5
        clear hX5 hE5 Hcm
        go_wp2
        go_roundg (N - (i + 1))
        case measure => omega
        case rel => exact ⟨i + 1, L ++ [s], b', _, _, T', rfl, by omega, by go_num, HLn.out, HX5.out, HSl4.out, HD5.out, HC5.out, Ht5.out, HF2.out⟩
    · obtain rfl : i = N := by omega
      have hge : ¬ ((i : Int) < (i : Int)) := by omega
      obtain ⟨M, hM⟩ : ∃ M, L.length = M := ⟨_, rfl⟩
      have hM40 : M < 40 := by omega
      have hM32 : M ≤ 32 := by omega
      obtain ⟨ap, cp, rfl⟩ := hSl.form
      have HSl := Lib.hid hSl; have HD := Lib.hid hD; have HF := Lib.hid hF; have HX := Lib.hid hX; have Ht := Lib.hid ht; have HM := Lib.hid hM
      rw [hM]
      clear hSl hD hF hX ht hC hLl hM hlt
      go_wp2
      go_loopg [79] M (fun m v wr => ∃ k : Nat, m = M - k ∧ k ≤ M ∧ v = .int .i64 k ∧ OwnX b gd g T w wr)
      case atStart => exact ⟨0, rfl, by omega, rfl, HX.out⟩
      case round =>
        rename World => wq
        obtain ⟨k, rfl, hkM, rfl, hXq⟩ := hrel
        by_cases hlk : k < M
        · have hlk' : (k : Int) < (M : Int) := by omega
          obtain ⟨hu8, hun⟩ := u8_small (show k < 256 by omega)
          obtain ⟨s, hs'⟩ : ∃ s, L[k]? = some s := ⟨_, List.getElem?_eq_getElem (by rw [HM.out]; exact hlk)⟩
          obtain ⟨nb, cap, hv, hcell⟩ := HSl.out.cell hXq hs'
          rw [HM.out] at hv
          simp only [Value.slice.injEq] at hv
          obtain ⟨rfl, -, rfl⟩ := hv
          have hsm := List.mem_of_getElem? hs'
          have hs4 := HF.out.low s hsm
          have hlive := (HF.out.live s hs4).2 hsm
          have hbl := HF.out.blk k s hs'
          have hgt := hXq.dGet HSl.out.mem HD.out (by omega) (by omega) (s : Nat)
          rw [getOf_live hs4 hlive, hbl] at hgt
          obtain ⟨pv, Hpv⟩ : ∃ pv : List Value, Hid (pv = page2 (UInt8.ofNat k) 1) := ⟨_, rfl⟩
          have hpV : pageV (pg2 (UInt8.ofNat k) 1) = .agg pv.toArray := by rw [pg2_v, Hpv.out]
          have hBP : BP pv := by rw [Hpv.out]; exact page2_bytes _ _
          have HB : Hid (Tryz.prog.built 28 [(0, .int .u8 (k : Int)), (1, .int .u8 1)] = some pv.toArray) := by
            have := built_two (UInt8.ofNat k) 1
            rw [cu8_nat, cu8_nat, hun] at this
            rw [Hpv.out]; exact this
          have hgt' : Calls Tryz.prog 16 #[.pointer (some ⟨x, 0, none⟩), .int .i64 (s : Nat)] wq (TQ2 (.agg pv.toArray) 0 (fun w' => Below wq.heap.size wq w')) := hgt.mono fun e w' ⟨v, h1, h2, h3⟩ => ⟨v, by rw [h1, ← hpV], h2, h3⟩
          have Hgt := Lib.hid hgt'
          have HXq := Lib.hid hXq
          have hz1 : Hid ((Tryz.prog.info? 28).map (·.size) = some pv.toArray.size) := page_size hBP.page
          have hz2 : Hid (pv.toArray.all (·.oneCell') = true) := page_all hBP.page
          have hz3 : Hid (zeros64.size = pv.toArray.size) := by
            have : pv.toArray.size = 64 := by rw [List.size_toArray]; exact hBP.page.1
            rw [this]; exact (rfl : zeros64.size = 64)
          have hneq := fun W => hBP.neq W
          have h64 : pv.length = 64 := hBP.page.1
          clear hgt hgt' hpV hXq hs' hsm hs4 hlive hbl
          go_wp2_with (first
            | (go_at_call 16; refine Hgt.out.mono ?_))
          rintro e w3 ⟨v3, rfl, hE3, hb3⟩
          obtain rfl := ErrV.zero hE3
          have hX3 := HXq.out.below hb3
          clear hE3 hb3 Hgt HXq hcell
          go_upto_region 22 with (first
            | (refine wpList_alloc_arr rfl 28 rfl _ alloc64 ?_)
            | (refine wpList_store_new rfl 28 _ _ rfl w3.heap.size rfl pv.toArray rfl rfl 28 _ hz1.out hz3.out hz2.out ?_))
          have hba : Below w3.heap.size w3 (w3.alloc (.cells pv.toArray 28)) := (Below.refl _ _).alloc (Nat.le_refl _) _
          have hx1 : (w3.alloc (.cells pv.toArray 28)).heap[w3.heap.size]? = some (.cells pv.toArray 28 (0, 0)) := heap_alloc_new w3 _
          have hX4 := hX3.below hba
          generalize w3.alloc (.cells pv.toArray 28) = w4 at hba hx1 hX4 ⊢
          obtain ⟨y, hy⟩ : ∃ y, w3.heap.size = y := ⟨_, rfl⟩
          rw [hy] at hx1 ⊢
          have hl1 := Lib.hid (run_loadAt_mid (P := Tryz.prog) w4 y 0 28 pv _ (fun j v hj => by rw [Nat.zero_add, cell_of_row w4 y j _ _ _ hx1]; simpa using hj) Tryz.underlying28 rfl (by rw [h64]; exact info64))
          have HX4 := Lib.hid hX4
          clear hy hba hX3 hx1 hX4
          go_wp2_with (first
            | (have _t := hl1; refine wpList_load_page _ rfl y 0 rfl _ hl1.out (by rfl) ?_; clear hl1)
            | (have _t := HB; refine wpList_build2 (.tmp 95) (.const (.int .u8 1)) rfl _ _ rfl rfl _ HB.out (by rfl) ?_; clear HB))
          go_roundg (M - (k + 1))
          case measure => omega
          case rel => exact ⟨k + 1, rfl, by omega, by go_num, HX4.out⟩
        · obtain rfl : k = M := by omega
          have hge2 : ¬ ((k : Int) < (k : Int)) := by omega
          have HXq := Lib.hid hXq
          clear HX hXq hlk hkM
          go_wp2
          go_loopg [102] k (fun m v wr => ∃ (j : Nat) (b3 : Bk) (hs3 : List (List UInt8)), m = k - j ∧ j ≤ k ∧ v = .int .i64 j ∧ OwnX b3 gd g T w wr ∧ De b3 3 K hs3 bl ∧ Drops hs3 K L j ∧ b3.txn.length ≤ j)
          case atStart => exact ⟨0, b, hs, rfl, by omega, rfl, HXq.out, HD.out, Drops.zero HF.out, by rw [Ht.out]; simp⟩
          case round =>
            rename World => wz
            obtain ⟨j, b3, hs3, rfl, hjk, rfl, hXz, hDz, hDr, htz⟩ := hrel
            by_cases hlj : j < k
            · have hlj' : (j : Int) < (k : Int) := by omega
              obtain ⟨s, hs'⟩ : ∃ s, L[j]? = some s := ⟨_, List.getElem?_eq_getElem (by rw [HM.out]; exact hlj)⟩
              obtain ⟨nb, cap, hv, hcell⟩ := HSl.out.cell hXz hs'
              rw [HM.out] at hv
              simp only [Value.slice.injEq] at hv
              obtain ⟨rfl, -, rfl⟩ := hv
              obtain ⟨hlv, hs4, hDr2⟩ := hDr.next HF.out.nodup HF.out.low hs'
              obtain ⟨t, hP, hdr⟩ := hXz.dDrop HSl.out.mem hDz (by omega) (by omega) hs4 hlv (by omega)
              have hl2 : t.length ≤ j + 1 := by have := hP.tx.len; omega
              have Hdr := Lib.hid hdr; have HP := Lib.hid hP; have HDr2 := Lib.hid hDr2
              clear hdr hP hDr2 hXz hDz hDr htz hlv hs4 hs'
              go_wp2_with (first
                | (go_at_call 25; refine Hdr.out.mono ?_))
              rintro e w3 ⟨v3, rfl, hE3, hX3⟩
              obtain rfl := ErrV.zero hE3
              have HX3 := Lib.hid hX3
              clear hE3 hX3 Hdr hcell
              go_wp2
              go_roundg (k - (j + 1))
              case measure => omega
              case rel => exact ⟨j + 1, _, _, rfl, by omega, by go_num, HX3.out, HP.out.de, HDr2.out, hl2⟩
            · obtain rfl : j = k := by omega
              have hge3 : ¬ ((j : Int) < (j : Int)) := by omega
              rw [← HM.out] at hDr
              obtain ⟨e1, e2, e3⟩ := hDr.done
              have hct := hXz.dCount HSl.out.mem hDz (by omega) (by omega)
              rw [e1, e2, e3] at hct
              have Hct := Lib.hid hct
              have Hbel := Lib.hid hXz.bel
              have w4K : IntKind.i64.wrap (4 * (K : Int)) = ((4 * K : Nat) : Int) := by rw [IntWalk.i64_in _ (by omega)]; omega
              clear hct hXz hDz hDr htz e1 e2 e3
              go_wp2_with (first
                | (go_at_call 20; refine Hct.out.mono ?_))
              rintro e w3 ⟨rfl, hb3⟩
              have Hfin := Lib.hid (Hbel.out.trans (hb3.mono Hbel.out.size))
              clear hb3 Hct
              go_wp2
              go_ret
              exact ⟨rfl, Hfin.out⟩
end Go.Proofs.YtopjhgpgompenaaGreatDoor
