/-
  'DepotCounts': its walk.
-/
import Derived.Test.YtopjhgpgompenaaGreatDoorDpFillsM
import Derived.Test.YtopjhgpgompenaaGreatDoorDpWorst
import Derived.Test.YtopjhgpgompenaaGreatDoorDpOpen
set_option linter.unusedSimpArgs false
set_option linter.unusedVariables false
namespace Go.Proofs.YtopjhgpgompenaaGreatDoor
open Go.RowKit Sh Go.Maps Go.Extern.Stop Go.Stop Go.Extern

theorem infoC7 : (Tryz.prog.info? 54).map (·.size) = some 3 := by kernel_rfl
theorem allocC7 (w : World) : (Instr.alloc 54 true (.tuple #[])).run Tryz.prog w = .ok (.pointer (some ⟨w.heap.size, 0, none⟩)) (w.alloc (.cells #[.int .i64 0, .int .i64 0, .int .u8 0] 54)) := by kernel_rfl
theorem range7 {w : World} {b o : Nat} {pv : List Value} {k s : Int} {c : UInt8} (h : pv = [.int .i64 k, .int .i64 s, cu8 c]) (e0 : w.cell? ⟨b, o, none⟩ = some (.int .i64 k)) (e1 : w.cell? ⟨b, o + 1, none⟩ = some (.int .i64 s)) (e2 : w.cell? ⟨b, o + 2, none⟩ = some (cu8 c)) : w.rangeAt b o pv := by
  subst h
  intro j v hj
  match j with
  | 0 => simp at hj; subst hj; simpa using e0
  | 1 => simp at hj; subst hj; exact e1
  | 2 => simp at hj; subst hj; exact e2
  | j + 3 => simp at hj
section
variable {b : Bk} {gd g first n x : Nat} {T : List (Nat × Obj)} {w0 w : World} {hs : List (List UInt8)} {bl : Nat → List UInt8}
/-- Drop, of whatever slot. -/
theorem OwnX.dDrop_any (h : OwnX b gd g T w0 w) (hT : (x, depO g first n) ∈ T) (hD : De b first n hs bl) (hf : first ≤ 2000) (hn : n ≤ 64) (i : Int) (ht : b.txn.length < 60) :
    ∃ k t hs', De { b with txn := t } first n hs' bl ∧ Tx b t first (first + 5 * n) 1 ∧ Calls Tryz.prog 25 #[.pointer (some ⟨x, 0, none⟩), .int .i64 i] w (TQ k (fun w' => OwnX { b with txn := t } gd g T w0 w')) := by
  by_cases h0 : (getOf hs bl n i).2 = 0
  · unfold getOf at h0
    split at h0
    · exact absurd h0 (by decide)
    · rename_i hi
      split at h0
      · rename_i hl
        obtain ⟨s, rfl⟩ : ∃ s : Nat, i = (s : Int) := ⟨i.toNat, by omega⟩
        rw [Int.toNat_natCast] at hl
        obtain ⟨t, hP, hc⟩ := h.dDrop hT hD hf hn (s := s) (by omega) hl ht
        exact ⟨0, t, _, hP.de, hP.tx, hc⟩
      · exact absurd h0 (by decide)
  · exact ⟨_, b.txn, hs, hD, (Tx.refl b _ _).mono (by omega), h.dDrop_no hT hD hf hn i h0⟩
/-- Move, of whatever slot: there is no room, or .. -/
theorem OwnX.dMove_any (h : OwnX b gd g T w0 w) (hT : (x, depO g first n) ∈ T) (hD : De b first n hs bl) (hf : first ≤ 2000) (hn : n ≤ 64) (i : Int) (ht : b.txn.length ≤ 57) :
    Calls Tryz.prog 17 #[.pointer (some ⟨x, 0, none⟩), .int .i64 i] w (TQ2 (.int .i64 0) 20 (fun w' => OwnX b gd g T w0 w')) ∨
    ∃ r k t hs' bl', k ≠ 20 ∧ De { b with txn := t } first n hs' bl' ∧ Tx b t first (first + 5 * n) 3 ∧ Calls Tryz.prog 17 #[.pointer (some ⟨x, 0, none⟩), .int .i64 i] w (TQ2 (.int .i64 r) k (fun w' => OwnX { b with txn := t } gd g T w0 w')) := by
  by_cases h0 : (getOf hs bl n i).2 = 0
  · unfold getOf at h0
    split at h0
    · exact absurd h0 (by decide)
    · rename_i hi
      split at h0
      · rename_i hl
        obtain ⟨s, rfl⟩ : ∃ s : Nat, i = (s : Int) := ⟨i.toNat, by omega⟩
        rw [Int.toNat_natCast] at hl
        cases hr : roomL ((s / 4 : Nat) : Int) hs with
        | none => exact .inl (h.dMove_full hT hD hf hn (by omega) hl hr)
        | some r =>
          obtain ⟨t, hP, hc⟩ := h.dMove hT hD hf hn (s := s) (by omega) hl hr ht
          exact .inr ⟨_, 0, t, _, _, by decide, hP.de, hP.tx, hc⟩
      · exact absurd h0 (by decide)
  · refine .inr ⟨_, _, b.txn, hs, bl, ?_, hD, (Tx.refl b _ _).mono (by omega), h.dMove_no hT hD hf hn i h0⟩
    unfold getOf
    split
    · exact fun h => absurd (show (1 : Int) = 20 from h) (by decide)
    · split
      · exact fun h => absurd (show (0 : Int) = 20 from h) (by decide)
      · exact fun h => absurd (show (23 : Int) = 20 from h) (by decide)
end
attribute [local irreducible] bk1 bk0
set_option maxRecDepth 100000 in
theorem depotCounts_long (bp : Option Addr) (N cap : Nat) (h : 300 < N) (w : World) :
    Calls Tryz.prog 4 #[.slice bp N cap] w (RetP (.bool true) w) := by
  have g3 : (300 : Int) < (N : Int) := by omega
  clear h
  go_enter Tryz.func4, Tryz.ntmps4
  go_wp2_with (first
    | (go_at_call 14; refine (stands7_any _).mono ?_))
  rintro e w1 ⟨rfl, hb1⟩
  have Hb1 := Lib.hid hb1
  clear hb1
  go_wp2
  go_ret
  exact ⟨rfl, Hb1.out⟩
set_option maxRecDepth 100000 in
set_option maxHeartbeats 64000000 in
theorem depotCounts_ok (bp : Option Addr) (cs : List (Int × Int × UInt8)) (cap : Nat) (hle : cs.length ≤ 300) (w : World) (hL : Laid w) (hC : TriplesAt w.heap.size w bp cs) :
    Calls Tryz.prog 4 #[.slice bp cs.length cap] w (RetP (.bool true) w) := by
  obtain ⟨N, hNe⟩ : ∃ N, cs.length = N := ⟨_, rfl⟩
  have HNe := Lib.hid hNe
  rw [hNe] at hle ⊢
  obtain ⟨hD0, hC0, ht0⟩ := de600 3 (by omega)
  have HD0 := Lib.hid hD0; have HC0 := Lib.hid hC0; have Ht0 := Lib.hid ht0
  have Hfr0 : Hid (∀ (w1 : World) (_ : Below w.heap.size w w1), Calls Tryz.prog 26 #[.int .i64 3] w1 (DFreshP 3 w)) := Lib.hid (fun (w1 : World) (hb1 : Below w.heap.size w w1) => fresh7_any 3 (by omega) (by omega) w w1 hb1)
  have HC := Lib.hid hC; have HL := Lib.hid hL
  have g3 : ¬ (300 < (N : Int)) := by omega
  clear hD0 hC0 ht0 hNe hC hL
  go_enter Tryz.func4, Tryz.ntmps4
  go_wp2_with (first
    | (go_at_call 14; refine (stands7_any _).mono ?_))
  rintro e w1 ⟨rfl, hb1⟩
  have Hfr := Lib.hid (Hfr0.out w1 hb1)
  clear hb1 Hfr0
  go_wp2_with (first
    | (go_at_call 26; refine Hfr.out.mono ?_))
  rintro e w2 ⟨gd, g, x, rfl, hX0⟩
  have HX0 := Lib.hid hX0
  have hT : (x, depO g 3 3) ∈ [(x, depO g 3 3)] := by simp
  clear Hfr hX0 g3
  go_wp2
  go_loopg [31] N (fun m v wr => ∃ (i : Nat) (b : Bk) (hs : List (List UInt8)) (bl : Nat → List UInt8), m = N - i ∧ i ≤ N ∧ v = .int .i64 i ∧ OwnX b gd g [(x, depO g 3 3)] w wr ∧ De b 3 3 hs bl ∧ Co b 600 i ∧ b.txn = [])
  case atStart => exact ⟨0, _, _, _, rfl, by omega, rfl, HX0.out, HD0.out, HC0.out, Ht0.out⟩
  case round =>
    clear HX0 HD0 HC0 Ht0
    obtain ⟨i, b, hs, bl, rfl, hiN, rfl, hX, hD, hCo, ht⟩ := hrel
    by_cases hlt : i < N
    case neg =>
      have hlt' : ¬ ((i : Int) < (N : Int)) := by omega
      have Hb := Lib.hid hX.bel
      clear hX hD hCo ht hlt
      go_wp2
      go_ret
      exact ⟨rfl, Hb.out⟩
    have hlt' : (i : Int) < (N : Int) := by omega
    have hka : i < cs.length := by rw [HNe.out]; exact hlt
    obtain ⟨bq, oq, hbe, hbq, hcs⟩ := (HC.out.below hX.bel).resolve_left (by intro h0; rw [h0] at hka; simp at hka)
    subst hbe
    obtain ⟨⟨kd, sl, wh⟩, hq⟩ : ∃ q, cs[i] = q := ⟨_, rfl⟩
    obtain ⟨e0, e1, e2⟩ := hcs i (kd, sl, wh) (by rw [List.getElem?_eq_getElem hka, hq])
    obtain ⟨pv, Hpv⟩ : ∃ pv : List Value, Hid (pv = [.int .i64 kd, .int .i64 sl, cu8 wh]) := ⟨_, rfl⟩
    have Hrg : Hid (wr.rangeAt bq (oq + i * 3) pv) := Lib.hid (range7 Hpv.out e0 e1 e2)
    have hpl : Hid (pv.length = 3) := by rw [Hpv.out]; rfl
    have hpi : Hid ((Tryz.prog.info? 54).map (·.size) = some pv.length) := by rw [hpl.out]; exact infoC7
    have hpi2 : Hid ((Tryz.prog.info? 54).map (·.size) = some pv.toArray.size) := by rw [List.size_toArray, hpl.out]; exact infoC7
    have hpz : Hid ((#[.int .i64 0, .int .i64 0, .int .u8 0] : Array Value).size = pv.toArray.size) := Lib.hid (by show 3 = pv.toArray.size; rw [List.size_toArray, hpl.out])
    have hp1 : Hid (pv.toArray.all (·.oneCell') = true) := by rw [Hpv.out]; exact all_oneCell_toArray (fun u hu => by simp only [List.mem_cons, List.not_mem_nil, or_false] at hu; rcases hu with rfl | rfl | rfl <;> rfl)
    have hba : Below wr.heap.size wr (wr.alloc (.cells pv.toArray 54)) := (Below.refl _ _).alloc (Nat.le_refl _) _
    have hx1 : (wr.alloc (.cells pv.toArray 54)).heap[wr.heap.size]? = some (.cells pv.toArray 54 (0, 0)) := heap_alloc_new wr _
    have HX1 := Lib.hid (hX.below hba); have HD := Lib.hid hD; have HCo := Lib.hid hCo; have Ht := Lib.hid ht
    clear hX hD hCo ht hcs hq e0 e1 e2 hlt hka hba
    go_upto_region 9 with (first
      | (refine wpList_load_mid rfl 54 _ rfl bq (oq + i * 3) rfl pv _ Hrg.out Tryz.underlying54 rfl hpi.out ?_; clear hpi)
      | (refine wpList_alloc_arr rfl 54 rfl _ allocC7 ?_)
      | (refine wpList_store_new rfl 54 _ _ rfl wr.heap.size rfl pv.toArray rfl rfl 54 _ hpi2.out hpz.out hp1.out ?_))
    have hX4 := HX1.out
    clear HX1 hpi2 hpz hp1 Hrg
    generalize wr.alloc (.cells pv.toArray 54) = w4 at hx1 hX4 ⊢
    obtain ⟨y, hy⟩ : ∃ y, wr.heap.size = y := ⟨_, rfl⟩
    rw [hy] at hx1 ⊢
    have ck0 : w4.cell? ⟨y, 0, none⟩ = some (.int .i64 kd) := by rw [cell_of_row w4 y 0 _ _ _ hx1, Hpv.out]; rfl
    have ck1 : w4.cell? ⟨y, 1, none⟩ = some (.int .i64 sl) := by rw [cell_of_row w4 y 1 _ _ _ hx1, Hpv.out]; rfl
    have ck2 : w4.cell? ⟨y, 2, none⟩ = some (.int .u8 (wh.toNat : Int)) := by rw [cell_of_row w4 y 2 _ _ _ hx1, Hpv.out, ← cu8_nat]; rfl
    clear hy hx1 Hpv hpl
    by_cases h0 : kd = 0
    · subst h0
      obtain ⟨p1, Hp1⟩ : ∃ p1 : List Value, Hid (p1 = page1 wh) := ⟨_, rfl⟩
      have hpV : pageV (pg1 wh) = .agg p1.toArray := by rw [pg1_v, Hp1.out]
      have HB : Hid (Tryz.prog.built 28 [(0, .int .u8 (wh.toNat : Int))] = some p1.toArray) := by
        have := built_one wh
        rw [cu8_nat] at this
        rw [Hp1.out]; exact this
      clear ck1
      cases hr : roomL (-1) hs with
      | none =>
        have hpt := hX4.dPut_full hT HD.out (by omega) (by omega) (pg1_len wh) hr
        rw [hpV] at hpt
        have Hpt := Lib.hid hpt
        clear hpt hpV hX4 hr
        go_wp2_with (first
          | (refine wpList_build1 (.tmp 42) rfl _ rfl _ HB.out (by rfl) ?_)
          | (go_at_call 15; refine Hpt.out.mono ?_))
        rintro e w9 ⟨v9, rfl, hE9, hX9⟩
        obtain ⟨t9, z9, rfl⟩ := hE9.held (by decide)
        have hnq := neq_held t9 z9
        have Hu := Lib.hid hX9.undo
        clear hE9 hX9 Hpt HB ck0 ck2
        go_wp2_with (first
          | (go_at_call 27; refine Hu.out.mono ?_))
        rintro e wt ⟨rfl, hXt⟩
        rw [txn_same Ht.out] at hXt
        have hDt := HD.out; have hCt := HCo.out
        have hlt4 : b.txn.length ≤ 4 := by rw [Ht.out]; simp
        obtain ⟨hs5, hhs5⟩ : ∃ hs5, hs = hs5 := ⟨_, rfl⟩
        rw [hhs5] at hDt
        clear Hu hnq HD HCo Ht hhs5
        obtain ⟨b5, hD5, hC5, ht5, hcm⟩ := hXt.commDe hDt hCt (by omega) hlt4
        have Hcm := Lib.hid hcm; have HD5 := Lib.hid hD5; have HC5 := Lib.hid hC5; have Ht5 := Lib.hid ht5
        clear hcm hD5 hC5 ht5 hXt hDt hCt hlt4
        go_wp2_with (first
          | (go_at_call 28; refine Hcm.out.mono ?_))
        rintro e w5 ⟨v5, rfl, hE5, hX5⟩
        obtain rfl := ErrV.zero hE5
        have hct := hX5.dCount hT HD5.out (by omega) (by omega)
        have htot := cntA_total HD5.out.hd
        rw [HD5.out.len] at htot
        have hwz := worst_zero (hs := hs5)
        have hwb := worst_box (hs := hs5) (by rw [HD5.out.len]; omega)
        rw [HD5.out.len] at hwb
        obtain ⟨a, ha⟩ : ∃ a, cntA 1 hs5 = a := ⟨_, rfl⟩
        obtain ⟨d, hd⟩ : ∃ d, cntA 2 hs5 = d := ⟨_, rfl⟩
        obtain ⟨f, hf⟩ : ∃ f, cntA 0 hs5 = f := ⟨_, rfl⟩
        rw [ha, hd, hf] at hct
        rw [ha, hd, hf] at htot
        rw [hd] at hwz
        have Hct := Lib.hid hct; have HX5 := Lib.hid hX5
        clear hct hX5 hE5 Hcm ha hd hf
        go_wp2_with (first
          | (go_at_call 20; refine Hct.out.mono ?_))
        rintro e w6 ⟨rfl, hb6⟩
        have hX6 := HX5.out.below hb6
        have hwo := hX6.dWorst hT HD5.out (by omega) (by omega)
        obtain ⟨wo, hwoe⟩ : ∃ wo, (worstL hs5).1 = wo := ⟨_, rfl⟩
        obtain ⟨wm, hwme⟩ : ∃ wm, (worstL hs5).2 = wm := ⟨_, rfl⟩
        rw [hwoe, hwme] at hwo
        rw [hwoe, hwme] at hwb
        rw [hwme] at hwz
        have Hwo := Lib.hid hwo; have HX6 := Lib.hid hX6
        have hwb1 := hwb.1
        have Hwb := Lib.hid hwb.2; have Hwz := Lib.hid hwz
        clear hwo hX6 hb6 Hct HX5 hwoe hwme hwb hwz
        go_wp2_with (first
          | (go_at_call 19; refine Hwo.out.mono ?_))
        rintro e w7 ⟨v7, rfl, hE7, hb7⟩
        obtain rfl := ErrV.zero hE7
        have hX7 := HX6.out.below hb7
        have hsl := hX7.dSlots hT HD5.out (by omega) (by omega) hwb1
        have hcell := HD5.out.hd _ (getD_mem (hs := hs5) (k := wo) (by rw [HD5.out.len]; exact hwb1)).1
        have hlen := slotsH_len (base := wo * 4) hcell.len 4 (by omega)
        rw [List.take_of_length_le (l := hs5.getD wo []) (by rw [hcell.len]; omega)] at hlen
        obtain ⟨SL, hSL⟩ : ∃ SL, slotsH (wo * 4) (hs5.getD wo []) 4 = SL := ⟨_, rfl⟩
        rw [hSL] at hsl hlen
        have hpos2 : wm ≠ 0 → SL.length ≠ 0 := fun h0 h1 => by
          have h2 := Hwb.out
          rw [if_neg h0] at h2
          rw [h1] at hlen
          have h3 := hcell.norm hlen.symm
          rw [h3] at h2
          exact h0 h2
        have Hsl := Lib.hid hsl; have HX7 := Lib.hid hX7
        have Hpos2 := Lib.hid hpos2
        clear hsl hX7 hb7 hE7 Hwo HX6 hcell hlen hSL hpos2
        go_wp2_with (first
          | (go_at_call 18; refine Hsl.out.mono ?_))
        rintro e w8 ⟨ap, cp, v8, rfl, hE8, _, hb8⟩
        obtain rfl := ErrV.zero hE8
        have HX8 := Lib.hid (HX7.out.below hb8)
        have hpos2 := Hpos2.out
        obtain ⟨Q, hQ⟩ : ∃ Q, SL.length = Q := ⟨_, rfl⟩
        rw [hQ] at hpos2 ⊢
        have ws1 : IntKind.i64.wrap ((a : Int) + (d : Int)) = (a : Int) + (d : Int) := IntWalk.i64_in _ (by omega)
        have ws2 : IntKind.i64.wrap ((a : Int) + (d : Int) + (f : Int)) = 12 := by rw [IntWalk.i64_in _ (by omega)]; omega
        clear hb8 hE8 Hsl HX7 hQ
        by_cases h0 : wm = 0
        · have hd0 := Hwz.out.1 h0
          have k1 : decide ((0 : Int) < (wm : Int)) = false := decide_eq_false (by omega)
          have k1b : ¬ ((0 : Int) < (wm : Int)) := by omega
          have k3 : ((wm : Int) == 0) = true := beq_iff_eq.2 (by omega)
          have k4 : ((d : Int) == 0) = true := beq_iff_eq.2 (by omega)
          clear hpos2 Hwz Hwb htot hd0 h0
          go_wp2
          go_roundg (N - (i + 1))
          case measure => omega
          case rel => exact ⟨i + 1, b5, _, _, rfl, by omega, by go_num, HX8.out, HD5.out, HC5.out, Ht5.out⟩
        · have hq := hpos2 h0
          have hd0 : d ≠ 0 := fun e => h0 (Hwz.out.2 e)
          have k1 : (0 : Int) < (wm : Int) := by omega
          have k2 : ((Q : Int) == 0) = false := by simpa using hq
          have k3 : ((wm : Int) == 0) = false := by simpa using h0
          have k4 : ((d : Int) == 0) = false := by simpa using hd0
          clear hpos2 Hwz Hwb htot hq hd0 h0
          go_wp2
          go_roundg (N - (i + 1))
          case measure => omega
          case rel => exact ⟨i + 1, b5, _, _, rfl, by omega, by go_num, HX8.out, HD5.out, HC5.out, Ht5.out⟩
      | some s =>
        obtain ⟨t, hP, hpt⟩ := hX4.dPut hT HD.out (by omega) (by omega) (pg1_len wh) hr (by rw [Ht.out]; simp)
        rw [hpV] at hpt
        have Hpt := Lib.hid hpt
        have hDt := hP.de
        have hCt := HCo.out.txn t
        have hlt4 : t.length ≤ 4 := by have := hP.tx.len; rw [Ht.out] at this; simp at this; omega
        obtain ⟨hs5, hhs5⟩ : ∃ hs5, markL hs s 1 = hs5 := ⟨_, rfl⟩
        rw [hhs5] at hDt
        have HDt := Lib.hid hDt; have HCt := Lib.hid hCt
        clear hpt hpV hX4 hr hP hhs5 hDt hCt HD HCo Ht
        go_wp2_with (first
          | (refine wpList_build1 (.tmp 42) rfl _ rfl _ HB.out (by rfl) ?_)
          | (go_at_call 15; refine Hpt.out.mono ?_))
        rintro e wt ⟨v9, rfl, hE9, hXt⟩
        obtain rfl := ErrV.zero hE9
        have hDt := HDt.out; have hCt := HCt.out
        clear hE9 Hpt HB ck0 ck2 HDt HCt
        obtain ⟨b5, hD5, hC5, ht5, hcm⟩ := hXt.commDe hDt hCt (by omega) hlt4
        have Hcm := Lib.hid hcm; have HD5 := Lib.hid hD5; have HC5 := Lib.hid hC5; have Ht5 := Lib.hid ht5
        clear hcm hD5 hC5 ht5 hXt hDt hCt hlt4
        go_wp2_with (first
          | (go_at_call 28; refine Hcm.out.mono ?_))
        rintro e w5 ⟨v5, rfl, hE5, hX5⟩
        obtain rfl := ErrV.zero hE5
        have hct := hX5.dCount hT HD5.out (by omega) (by omega)
        have htot := cntA_total HD5.out.hd
        rw [HD5.out.len] at htot
        have hwz := worst_zero (hs := hs5)
        have hwb := worst_box (hs := hs5) (by rw [HD5.out.len]; omega)
        rw [HD5.out.len] at hwb
        obtain ⟨a, ha⟩ : ∃ a, cntA 1 hs5 = a := ⟨_, rfl⟩
        obtain ⟨d, hd⟩ : ∃ d, cntA 2 hs5 = d := ⟨_, rfl⟩
        obtain ⟨f, hf⟩ : ∃ f, cntA 0 hs5 = f := ⟨_, rfl⟩
        rw [ha, hd, hf] at hct
        rw [ha, hd, hf] at htot
        rw [hd] at hwz
        have Hct := Lib.hid hct; have HX5 := Lib.hid hX5
        clear hct hX5 hE5 Hcm ha hd hf
        go_wp2_with (first
          | (go_at_call 20; refine Hct.out.mono ?_))
        rintro e w6 ⟨rfl, hb6⟩
        have hX6 := HX5.out.below hb6
        have hwo := hX6.dWorst hT HD5.out (by omega) (by omega)
        obtain ⟨wo, hwoe⟩ : ∃ wo, (worstL hs5).1 = wo := ⟨_, rfl⟩
        obtain ⟨wm, hwme⟩ : ∃ wm, (worstL hs5).2 = wm := ⟨_, rfl⟩
        rw [hwoe, hwme] at hwo
        rw [hwoe, hwme] at hwb
        rw [hwme] at hwz
        have Hwo := Lib.hid hwo; have HX6 := Lib.hid hX6
        have hwb1 := hwb.1
        have Hwb := Lib.hid hwb.2; have Hwz := Lib.hid hwz
        clear hwo hX6 hb6 Hct HX5 hwoe hwme hwb hwz
        go_wp2_with (first
          | (go_at_call 19; refine Hwo.out.mono ?_))
        rintro e w7 ⟨v7, rfl, hE7, hb7⟩
        obtain rfl := ErrV.zero hE7
        have hX7 := HX6.out.below hb7
        have hsl := hX7.dSlots hT HD5.out (by omega) (by omega) hwb1
        have hcell := HD5.out.hd _ (getD_mem (hs := hs5) (k := wo) (by rw [HD5.out.len]; exact hwb1)).1
        have hlen := slotsH_len (base := wo * 4) hcell.len 4 (by omega)
        rw [List.take_of_length_le (l := hs5.getD wo []) (by rw [hcell.len]; omega)] at hlen
        obtain ⟨SL, hSL⟩ : ∃ SL, slotsH (wo * 4) (hs5.getD wo []) 4 = SL := ⟨_, rfl⟩
        rw [hSL] at hsl hlen
        have hpos2 : wm ≠ 0 → SL.length ≠ 0 := fun h0 h1 => by
          have h2 := Hwb.out
          rw [if_neg h0] at h2
          rw [h1] at hlen
          have h3 := hcell.norm hlen.symm
          rw [h3] at h2
          exact h0 h2
        have Hsl := Lib.hid hsl; have HX7 := Lib.hid hX7
        have Hpos2 := Lib.hid hpos2
        clear hsl hX7 hb7 hE7 Hwo HX6 hcell hlen hSL hpos2
        go_wp2_with (first
          | (go_at_call 18; refine Hsl.out.mono ?_))
        rintro e w8 ⟨ap, cp, v8, rfl, hE8, _, hb8⟩
        obtain rfl := ErrV.zero hE8
        have HX8 := Lib.hid (HX7.out.below hb8)
        have hpos2 := Hpos2.out
        obtain ⟨Q, hQ⟩ : ∃ Q, SL.length = Q := ⟨_, rfl⟩
        rw [hQ] at hpos2 ⊢
        have ws1 : IntKind.i64.wrap ((a : Int) + (d : Int)) = (a : Int) + (d : Int) := IntWalk.i64_in _ (by omega)
        have ws2 : IntKind.i64.wrap ((a : Int) + (d : Int) + (f : Int)) = 12 := by rw [IntWalk.i64_in _ (by omega)]; omega
        clear hb8 hE8 Hsl HX7 hQ
        by_cases h0 : wm = 0
        · have hd0 := Hwz.out.1 h0
          have k1 : decide ((0 : Int) < (wm : Int)) = false := decide_eq_false (by omega)
          have k1b : ¬ ((0 : Int) < (wm : Int)) := by omega
          have k3 : ((wm : Int) == 0) = true := beq_iff_eq.2 (by omega)
          have k4 : ((d : Int) == 0) = true := beq_iff_eq.2 (by omega)
          clear hpos2 Hwz Hwb htot hd0 h0
          go_wp2
          go_roundg (N - (i + 1))
          case measure => omega
          case rel => exact ⟨i + 1, b5, _, _, rfl, by omega, by go_num, HX8.out, HD5.out, HC5.out, Ht5.out⟩
        · have hq := hpos2 h0
          have hd0 : d ≠ 0 := fun e => h0 (Hwz.out.2 e)
          have k1 : (0 : Int) < (wm : Int) := by omega
          have k2 : ((Q : Int) == 0) = false := by simpa using hq
          have k3 : ((wm : Int) == 0) = false := by simpa using h0
          have k4 : ((d : Int) == 0) = false := by simpa using hd0
          clear hpos2 Hwz Hwb htot hq hd0 h0
          go_wp2
          go_roundg (N - (i + 1))
          case measure => omega
          case rel => exact ⟨i + 1, b5, _, _, rfl, by omega, by go_num, HX8.out, HD5.out, HC5.out, Ht5.out⟩
    have hk0 : (kd == 0) = false := by simpa using h0
    clear ck2
    by_cases h1 : kd = 1
    · subst h1
      obtain ⟨k, t, hs5, hDt, hx, hdr⟩ := hX4.dDrop_any hT HD.out (by omega) (by omega) sl (by rw [Ht.out]; simp)
      have hCt := HCo.out.txn t
      have hlt4 : t.length ≤ 4 := by have := hx.len; rw [Ht.out] at this; simp at this; omega
      have Hdr := Lib.hid hdr; have HDt := Lib.hid hDt; have HCt := Lib.hid hCt
      clear hdr hx hDt hCt hX4 HD HCo Ht h0
      go_wp2_with (first
        | (go_at_call 25; refine Hdr.out.mono ?_))
      rintro e wt ⟨v9, rfl, hE9, hXt⟩
      have hDt := HDt.out; have hCt := HCt.out
      clear hE9 Hdr ck0 ck1 HDt HCt
      obtain ⟨b5, hD5, hC5, ht5, hcm⟩ := hXt.commDe hDt hCt (by omega) hlt4
      have Hcm := Lib.hid hcm; have HD5 := Lib.hid hD5; have HC5 := Lib.hid hC5; have Ht5 := Lib.hid ht5
      clear hcm hD5 hC5 ht5 hXt hDt hCt hlt4
      go_wp2_with (first
        | (go_at_call 28; refine Hcm.out.mono ?_))
      rintro e w5 ⟨v5, rfl, hE5, hX5⟩
      obtain rfl := ErrV.zero hE5
      have hct := hX5.dCount hT HD5.out (by omega) (by omega)
      have htot := cntA_total HD5.out.hd
      rw [HD5.out.len] at htot
      have hwz := worst_zero (hs := hs5)
      have hwb := worst_box (hs := hs5) (by rw [HD5.out.len]; omega)
      rw [HD5.out.len] at hwb
      obtain ⟨a, ha⟩ : ∃ a, cntA 1 hs5 = a := ⟨_, rfl⟩
      obtain ⟨d, hd⟩ : ∃ d, cntA 2 hs5 = d := ⟨_, rfl⟩
      obtain ⟨f, hf⟩ : ∃ f, cntA 0 hs5 = f := ⟨_, rfl⟩
      rw [ha, hd, hf] at hct
      rw [ha, hd, hf] at htot
      rw [hd] at hwz
      have Hct := Lib.hid hct; have HX5 := Lib.hid hX5
      clear hct hX5 hE5 Hcm ha hd hf
      go_wp2_with (first
        | (go_at_call 20; refine Hct.out.mono ?_))
      rintro e w6 ⟨rfl, hb6⟩
      have hX6 := HX5.out.below hb6
      have hwo := hX6.dWorst hT HD5.out (by omega) (by omega)
      obtain ⟨wo, hwoe⟩ : ∃ wo, (worstL hs5).1 = wo := ⟨_, rfl⟩
      obtain ⟨wm, hwme⟩ : ∃ wm, (worstL hs5).2 = wm := ⟨_, rfl⟩
      rw [hwoe, hwme] at hwo
      rw [hwoe, hwme] at hwb
      rw [hwme] at hwz
      have Hwo := Lib.hid hwo; have HX6 := Lib.hid hX6
      have hwb1 := hwb.1
      have Hwb := Lib.hid hwb.2; have Hwz := Lib.hid hwz
      clear hwo hX6 hb6 Hct HX5 hwoe hwme hwb hwz
      go_wp2_with (first
        | (go_at_call 19; refine Hwo.out.mono ?_))
      rintro e w7 ⟨v7, rfl, hE7, hb7⟩
      obtain rfl := ErrV.zero hE7
      have hX7 := HX6.out.below hb7
      have hsl := hX7.dSlots hT HD5.out (by omega) (by omega) hwb1
      have hcell := HD5.out.hd _ (getD_mem (hs := hs5) (k := wo) (by rw [HD5.out.len]; exact hwb1)).1
      have hlen := slotsH_len (base := wo * 4) hcell.len 4 (by omega)
      rw [List.take_of_length_le (l := hs5.getD wo []) (by rw [hcell.len]; omega)] at hlen
      obtain ⟨SL, hSL⟩ : ∃ SL, slotsH (wo * 4) (hs5.getD wo []) 4 = SL := ⟨_, rfl⟩
      rw [hSL] at hsl hlen
      have hpos2 : wm ≠ 0 → SL.length ≠ 0 := fun h0 h1 => by
        have h2 := Hwb.out
        rw [if_neg h0] at h2
        rw [h1] at hlen
        have h3 := hcell.norm hlen.symm
        rw [h3] at h2
        exact h0 h2
      have Hsl := Lib.hid hsl; have HX7 := Lib.hid hX7
      have Hpos2 := Lib.hid hpos2
      clear hsl hX7 hb7 hE7 Hwo HX6 hcell hlen hSL hpos2
      go_wp2_with (first
        | (go_at_call 18; refine Hsl.out.mono ?_))
      rintro e w8 ⟨ap, cp, v8, rfl, hE8, _, hb8⟩
      obtain rfl := ErrV.zero hE8
      have HX8 := Lib.hid (HX7.out.below hb8)
      have hpos2 := Hpos2.out
      obtain ⟨Q, hQ⟩ : ∃ Q, SL.length = Q := ⟨_, rfl⟩
      rw [hQ] at hpos2 ⊢
      have ws1 : IntKind.i64.wrap ((a : Int) + (d : Int)) = (a : Int) + (d : Int) := IntWalk.i64_in _ (by omega)
      have ws2 : IntKind.i64.wrap ((a : Int) + (d : Int) + (f : Int)) = 12 := by rw [IntWalk.i64_in _ (by omega)]; omega
      clear hb8 hE8 Hsl HX7 hQ
      by_cases h0 : wm = 0
      · have hd0 := Hwz.out.1 h0
        have k1 : decide ((0 : Int) < (wm : Int)) = false := decide_eq_false (by omega)
        have k1b : ¬ ((0 : Int) < (wm : Int)) := by omega
        have k3 : ((wm : Int) == 0) = true := beq_iff_eq.2 (by omega)
        have k4 : ((d : Int) == 0) = true := beq_iff_eq.2 (by omega)
        clear hpos2 Hwz Hwb htot hd0 h0
        go_wp2
        go_roundg (N - (i + 1))
        case measure => omega
        case rel => exact ⟨i + 1, b5, _, _, rfl, by omega, by go_num, HX8.out, HD5.out, HC5.out, Ht5.out⟩
      · have hq := hpos2 h0
        have hd0 : d ≠ 0 := fun e => h0 (Hwz.out.2 e)
        have k1 : (0 : Int) < (wm : Int) := by omega
        have k2 : ((Q : Int) == 0) = false := by simpa using hq
        have k3 : ((wm : Int) == 0) = false := by simpa using h0
        have k4 : ((d : Int) == 0) = false := by simpa using hd0
        clear hpos2 Hwz Hwb htot hq hd0 h0
        go_wp2
        go_roundg (N - (i + 1))
        case measure => omega
        case rel => exact ⟨i + 1, b5, _, _, rfl, by omega, by go_num, HX8.out, HD5.out, HC5.out, Ht5.out⟩
    have hk1 : (kd == 1) = false := by simpa using h1
    by_cases h2 : kd = 2
    · subst h2
      rcases hX4.dMove_any hT HD.out (by omega) (by omega) sl (by rw [Ht.out]; simp) with hmv | ⟨r, k, t, hs5, bl5, hk20, hDt, hx, hmv⟩
      · have Hmv := Lib.hid hmv
        clear hmv hX4 h0 h1
        go_wp2_with (first
          | (go_at_call 17; refine Hmv.out.mono ?_))
        rintro e w9 ⟨v9, rfl, hE9, hX9⟩
        have Hnum := Lib.hid (num_any 20 _ w9 (HL.out.below HL.out.pos hX9.bel) hE9)
        have HX9 := Lib.hid hX9
        clear hE9 hX9 Hmv ck0 ck1
        go_wp2_with (first
          | (go_at_call 24; refine Hnum.out.mono ?_))
        rintro e wa ⟨rfl, hba⟩
        have Hu := Lib.hid (HX9.out.below hba).undo
        clear hba Hnum HX9
        go_wp2_with (first
          | (go_at_call 27; refine Hu.out.mono ?_))
        rintro e wt ⟨rfl, hXt⟩
        rw [txn_same Ht.out] at hXt
        have hDt := HD.out; have hCt := HCo.out
        have hlt4 : b.txn.length ≤ 4 := by rw [Ht.out]; simp
        obtain ⟨hs5, hhs5⟩ : ∃ hs5, hs = hs5 := ⟨_, rfl⟩
        rw [hhs5] at hDt
        clear Hu HD HCo Ht hhs5
        obtain ⟨b5, hD5, hC5, ht5, hcm⟩ := hXt.commDe hDt hCt (by omega) hlt4
        have Hcm := Lib.hid hcm; have HD5 := Lib.hid hD5; have HC5 := Lib.hid hC5; have Ht5 := Lib.hid ht5
        clear hcm hD5 hC5 ht5 hXt hDt hCt hlt4
        go_wp2_with (first
          | (go_at_call 28; refine Hcm.out.mono ?_))
        rintro e w5 ⟨v5, rfl, hE5, hX5⟩
        obtain rfl := ErrV.zero hE5
        have hct := hX5.dCount hT HD5.out (by omega) (by omega)
        have htot := cntA_total HD5.out.hd
        rw [HD5.out.len] at htot
        have hwz := worst_zero (hs := hs5)
        have hwb := worst_box (hs := hs5) (by rw [HD5.out.len]; omega)
        rw [HD5.out.len] at hwb
        obtain ⟨a, ha⟩ : ∃ a, cntA 1 hs5 = a := ⟨_, rfl⟩
        obtain ⟨d, hd⟩ : ∃ d, cntA 2 hs5 = d := ⟨_, rfl⟩
        obtain ⟨f, hf⟩ : ∃ f, cntA 0 hs5 = f := ⟨_, rfl⟩
        rw [ha, hd, hf] at hct
        rw [ha, hd, hf] at htot
        rw [hd] at hwz
        have Hct := Lib.hid hct; have HX5 := Lib.hid hX5
        clear hct hX5 hE5 Hcm ha hd hf
        go_wp2_with (first
          | (go_at_call 20; refine Hct.out.mono ?_))
        rintro e w6 ⟨rfl, hb6⟩
        have hX6 := HX5.out.below hb6
        have hwo := hX6.dWorst hT HD5.out (by omega) (by omega)
        obtain ⟨wo, hwoe⟩ : ∃ wo, (worstL hs5).1 = wo := ⟨_, rfl⟩
        obtain ⟨wm, hwme⟩ : ∃ wm, (worstL hs5).2 = wm := ⟨_, rfl⟩
        rw [hwoe, hwme] at hwo
        rw [hwoe, hwme] at hwb
        rw [hwme] at hwz
        have Hwo := Lib.hid hwo; have HX6 := Lib.hid hX6
        have hwb1 := hwb.1
        have Hwb := Lib.hid hwb.2; have Hwz := Lib.hid hwz
        clear hwo hX6 hb6 Hct HX5 hwoe hwme hwb hwz
        go_wp2_with (first
          | (go_at_call 19; refine Hwo.out.mono ?_))
        rintro e w7 ⟨v7, rfl, hE7, hb7⟩
        obtain rfl := ErrV.zero hE7
        have hX7 := HX6.out.below hb7
        have hsl := hX7.dSlots hT HD5.out (by omega) (by omega) hwb1
        have hcell := HD5.out.hd _ (getD_mem (hs := hs5) (k := wo) (by rw [HD5.out.len]; exact hwb1)).1
        have hlen := slotsH_len (base := wo * 4) hcell.len 4 (by omega)
        rw [List.take_of_length_le (l := hs5.getD wo []) (by rw [hcell.len]; omega)] at hlen
        obtain ⟨SL, hSL⟩ : ∃ SL, slotsH (wo * 4) (hs5.getD wo []) 4 = SL := ⟨_, rfl⟩
        rw [hSL] at hsl hlen
        have hpos2 : wm ≠ 0 → SL.length ≠ 0 := fun h0 h1 => by
          have h2 := Hwb.out
          rw [if_neg h0] at h2
          rw [h1] at hlen
          have h3 := hcell.norm hlen.symm
          rw [h3] at h2
          exact h0 h2
        have Hsl := Lib.hid hsl; have HX7 := Lib.hid hX7
        have Hpos2 := Lib.hid hpos2
        clear hsl hX7 hb7 hE7 Hwo HX6 hcell hlen hSL hpos2
        go_wp2_with (first
          | (go_at_call 18; refine Hsl.out.mono ?_))
        rintro e w8 ⟨ap, cp, v8, rfl, hE8, _, hb8⟩
        obtain rfl := ErrV.zero hE8
        have HX8 := Lib.hid (HX7.out.below hb8)
        have hpos2 := Hpos2.out
        obtain ⟨Q, hQ⟩ : ∃ Q, SL.length = Q := ⟨_, rfl⟩
        rw [hQ] at hpos2 ⊢
        have ws1 : IntKind.i64.wrap ((a : Int) + (d : Int)) = (a : Int) + (d : Int) := IntWalk.i64_in _ (by omega)
        have ws2 : IntKind.i64.wrap ((a : Int) + (d : Int) + (f : Int)) = 12 := by rw [IntWalk.i64_in _ (by omega)]; omega
        clear hb8 hE8 Hsl HX7 hQ
        by_cases h0 : wm = 0
        · have hd0 := Hwz.out.1 h0
          have k1 : decide ((0 : Int) < (wm : Int)) = false := decide_eq_false (by omega)
          have k1b : ¬ ((0 : Int) < (wm : Int)) := by omega
          have k3 : ((wm : Int) == 0) = true := beq_iff_eq.2 (by omega)
          have k4 : ((d : Int) == 0) = true := beq_iff_eq.2 (by omega)
          clear hpos2 Hwz Hwb htot hd0 h0
          go_wp2
          go_roundg (N - (i + 1))
          case measure => omega
          case rel => exact ⟨i + 1, b5, _, _, rfl, by omega, by go_num, HX8.out, HD5.out, HC5.out, Ht5.out⟩
        · have hq := hpos2 h0
          have hd0 : d ≠ 0 := fun e => h0 (Hwz.out.2 e)
          have k1 : (0 : Int) < (wm : Int) := by omega
          have k2 : ((Q : Int) == 0) = false := by simpa using hq
          have k3 : ((wm : Int) == 0) = false := by simpa using h0
          have k4 : ((d : Int) == 0) = false := by simpa using hd0
          clear hpos2 Hwz Hwb htot hq hd0 h0
          go_wp2
          go_roundg (N - (i + 1))
          case measure => omega
          case rel => exact ⟨i + 1, b5, _, _, rfl, by omega, by go_num, HX8.out, HD5.out, HC5.out, Ht5.out⟩
      · have hCt := HCo.out.txn t
        have hlt4 : t.length ≤ 4 := by have := hx.len; rw [Ht.out] at this; simp at this; omega
        have Hmv := Lib.hid hmv; have HDt := Lib.hid hDt; have HCt := Lib.hid hCt
        have hk20b : (k == 20) = false := by simpa using hk20
        clear hmv hx hDt hCt hX4 HD HCo Ht h0 h1
        go_wp2_with (first
          | (go_at_call 17; refine Hmv.out.mono ?_))
        rintro e w9 ⟨v9, rfl, hE9, hX9⟩
        have Hnum := Lib.hid (num_any k _ w9 (HL.out.below HL.out.pos hX9.bel) hE9)
        have HX9 := Lib.hid hX9
        clear hE9 hX9 Hmv ck0 ck1
        go_wp2_with (first
          | (go_at_call 24; refine Hnum.out.mono ?_))
        rintro e wt ⟨rfl, hba⟩
        have hXt := HX9.out.below hba
        have hDt := HDt.out; have hCt := HCt.out
        clear hba Hnum HX9 HDt HCt hk20
        obtain ⟨b5, hD5, hC5, ht5, hcm⟩ := hXt.commDe hDt hCt (by omega) hlt4
        have Hcm := Lib.hid hcm; have HD5 := Lib.hid hD5; have HC5 := Lib.hid hC5; have Ht5 := Lib.hid ht5
        clear hcm hD5 hC5 ht5 hXt hDt hCt hlt4
        go_wp2_with (first
          | (go_at_call 28; refine Hcm.out.mono ?_))
        rintro e w5 ⟨v5, rfl, hE5, hX5⟩
        obtain rfl := ErrV.zero hE5
        have hct := hX5.dCount hT HD5.out (by omega) (by omega)
        have htot := cntA_total HD5.out.hd
        rw [HD5.out.len] at htot
        have hwz := worst_zero (hs := hs5)
        have hwb := worst_box (hs := hs5) (by rw [HD5.out.len]; omega)
        rw [HD5.out.len] at hwb
        obtain ⟨a, ha⟩ : ∃ a, cntA 1 hs5 = a := ⟨_, rfl⟩
        obtain ⟨d, hd⟩ : ∃ d, cntA 2 hs5 = d := ⟨_, rfl⟩
        obtain ⟨f, hf⟩ : ∃ f, cntA 0 hs5 = f := ⟨_, rfl⟩
        rw [ha, hd, hf] at hct
        rw [ha, hd, hf] at htot
        rw [hd] at hwz
        have Hct := Lib.hid hct; have HX5 := Lib.hid hX5
        clear hct hX5 hE5 Hcm ha hd hf
        go_wp2_with (first
          | (go_at_call 20; refine Hct.out.mono ?_))
        rintro e w6 ⟨rfl, hb6⟩
        have hX6 := HX5.out.below hb6
        have hwo := hX6.dWorst hT HD5.out (by omega) (by omega)
        obtain ⟨wo, hwoe⟩ : ∃ wo, (worstL hs5).1 = wo := ⟨_, rfl⟩
        obtain ⟨wm, hwme⟩ : ∃ wm, (worstL hs5).2 = wm := ⟨_, rfl⟩
        rw [hwoe, hwme] at hwo
        rw [hwoe, hwme] at hwb
        rw [hwme] at hwz
        have Hwo := Lib.hid hwo; have HX6 := Lib.hid hX6
        have hwb1 := hwb.1
        have Hwb := Lib.hid hwb.2; have Hwz := Lib.hid hwz
        clear hwo hX6 hb6 Hct HX5 hwoe hwme hwb hwz
        go_wp2_with (first
          | (go_at_call 19; refine Hwo.out.mono ?_))
        rintro e w7 ⟨v7, rfl, hE7, hb7⟩
        obtain rfl := ErrV.zero hE7
        have hX7 := HX6.out.below hb7
        have hsl := hX7.dSlots hT HD5.out (by omega) (by omega) hwb1
        have hcell := HD5.out.hd _ (getD_mem (hs := hs5) (k := wo) (by rw [HD5.out.len]; exact hwb1)).1
        have hlen := slotsH_len (base := wo * 4) hcell.len 4 (by omega)
        rw [List.take_of_length_le (l := hs5.getD wo []) (by rw [hcell.len]; omega)] at hlen
        obtain ⟨SL, hSL⟩ : ∃ SL, slotsH (wo * 4) (hs5.getD wo []) 4 = SL := ⟨_, rfl⟩
        rw [hSL] at hsl hlen
        have hpos2 : wm ≠ 0 → SL.length ≠ 0 := fun h0 h1 => by
          have h2 := Hwb.out
          rw [if_neg h0] at h2
          rw [h1] at hlen
          have h3 := hcell.norm hlen.symm
          rw [h3] at h2
          exact h0 h2
        have Hsl := Lib.hid hsl; have HX7 := Lib.hid hX7
        have Hpos2 := Lib.hid hpos2
        clear hsl hX7 hb7 hE7 Hwo HX6 hcell hlen hSL hpos2
        go_wp2_with (first
          | (go_at_call 18; refine Hsl.out.mono ?_))
        rintro e w8 ⟨ap, cp, v8, rfl, hE8, _, hb8⟩
        obtain rfl := ErrV.zero hE8
        have HX8 := Lib.hid (HX7.out.below hb8)
        have hpos2 := Hpos2.out
        obtain ⟨Q, hQ⟩ : ∃ Q, SL.length = Q := ⟨_, rfl⟩
        rw [hQ] at hpos2 ⊢
        have ws1 : IntKind.i64.wrap ((a : Int) + (d : Int)) = (a : Int) + (d : Int) := IntWalk.i64_in _ (by omega)
        have ws2 : IntKind.i64.wrap ((a : Int) + (d : Int) + (f : Int)) = 12 := by rw [IntWalk.i64_in _ (by omega)]; omega
        clear hb8 hE8 Hsl HX7 hQ
        by_cases h0 : wm = 0
        · have hd0 := Hwz.out.1 h0
          have k1 : decide ((0 : Int) < (wm : Int)) = false := decide_eq_false (by omega)
          have k1b : ¬ ((0 : Int) < (wm : Int)) := by omega
          have k3 : ((wm : Int) == 0) = true := beq_iff_eq.2 (by omega)
          have k4 : ((d : Int) == 0) = true := beq_iff_eq.2 (by omega)
          clear hpos2 Hwz Hwb htot hd0 h0
          go_wp2
          go_roundg (N - (i + 1))
          case measure => omega
          case rel => exact ⟨i + 1, b5, _, _, rfl, by omega, by go_num, HX8.out, HD5.out, HC5.out, Ht5.out⟩
        · have hq := hpos2 h0
          have hd0 : d ≠ 0 := fun e => h0 (Hwz.out.2 e)
          have k1 : (0 : Int) < (wm : Int) := by omega
          have k2 : ((Q : Int) == 0) = false := by simpa using hq
          have k3 : ((wm : Int) == 0) = false := by simpa using h0
          have k4 : ((d : Int) == 0) = false := by simpa using hd0
          clear hpos2 Hwz Hwb htot hq hd0 h0
          go_wp2
          go_roundg (N - (i + 1))
          case measure => omega
          case rel => exact ⟨i + 1, b5, _, _, rfl, by omega, by go_num, HX8.out, HD5.out, HC5.out, Ht5.out⟩
    have hk2 : (kd == 2) = false := by simpa using h2
    have hXt := hX4; have hDt := HD.out; have hCt := HCo.out
    have hlt4 : b.txn.length ≤ 4 := by rw [Ht.out]; simp
    obtain ⟨hs5, hhs5⟩ : ∃ hs5, hs = hs5 := ⟨_, rfl⟩
    rw [hhs5] at hDt
    clear hX4 HD HCo Ht hhs5 h0 h1 h2
    obtain ⟨b5, hD5, hC5, ht5, hcm⟩ := hXt.commDe hDt hCt (by omega) hlt4
    have Hcm := Lib.hid hcm; have HD5 := Lib.hid hD5; have HC5 := Lib.hid hC5; have Ht5 := Lib.hid ht5
    clear hcm hD5 hC5 ht5 hXt hDt hCt hlt4
    go_wp2_with (first
      | (go_at_call 28; refine Hcm.out.mono ?_))
    rintro e w5 ⟨v5, rfl, hE5, hX5⟩
    obtain rfl := ErrV.zero hE5
    have hct := hX5.dCount hT HD5.out (by omega) (by omega)
    have htot := cntA_total HD5.out.hd
    rw [HD5.out.len] at htot
    have hwz := worst_zero (hs := hs5)
    have hwb := worst_box (hs := hs5) (by rw [HD5.out.len]; omega)
    rw [HD5.out.len] at hwb
    obtain ⟨a, ha⟩ : ∃ a, cntA 1 hs5 = a := ⟨_, rfl⟩
    obtain ⟨d, hd⟩ : ∃ d, cntA 2 hs5 = d := ⟨_, rfl⟩
    obtain ⟨f, hf⟩ : ∃ f, cntA 0 hs5 = f := ⟨_, rfl⟩
    rw [ha, hd, hf] at hct
    rw [ha, hd, hf] at htot
    rw [hd] at hwz
    have Hct := Lib.hid hct; have HX5 := Lib.hid hX5
    clear hct hX5 hE5 Hcm ha hd hf
    go_wp2_with (first
      | (go_at_call 20; refine Hct.out.mono ?_))
    rintro e w6 ⟨rfl, hb6⟩
    have hX6 := HX5.out.below hb6
    have hwo := hX6.dWorst hT HD5.out (by omega) (by omega)
    obtain ⟨wo, hwoe⟩ : ∃ wo, (worstL hs5).1 = wo := ⟨_, rfl⟩
    obtain ⟨wm, hwme⟩ : ∃ wm, (worstL hs5).2 = wm := ⟨_, rfl⟩
    rw [hwoe, hwme] at hwo
    rw [hwoe, hwme] at hwb
    rw [hwme] at hwz
    have Hwo := Lib.hid hwo; have HX6 := Lib.hid hX6
    have hwb1 := hwb.1
    have Hwb := Lib.hid hwb.2; have Hwz := Lib.hid hwz
    clear hwo hX6 hb6 Hct HX5 hwoe hwme hwb hwz
    go_wp2_with (first
      | (go_at_call 19; refine Hwo.out.mono ?_))
    rintro e w7 ⟨v7, rfl, hE7, hb7⟩
    obtain rfl := ErrV.zero hE7
    have hX7 := HX6.out.below hb7
    have hsl := hX7.dSlots hT HD5.out (by omega) (by omega) hwb1
    have hcell := HD5.out.hd _ (getD_mem (hs := hs5) (k := wo) (by rw [HD5.out.len]; exact hwb1)).1
    have hlen := slotsH_len (base := wo * 4) hcell.len 4 (by omega)
    rw [List.take_of_length_le (l := hs5.getD wo []) (by rw [hcell.len]; omega)] at hlen
    obtain ⟨SL, hSL⟩ : ∃ SL, slotsH (wo * 4) (hs5.getD wo []) 4 = SL := ⟨_, rfl⟩
    rw [hSL] at hsl hlen
    have hpos2 : wm ≠ 0 → SL.length ≠ 0 := fun h0 h1 => by
      have h2 := Hwb.out
      rw [if_neg h0] at h2
      rw [h1] at hlen
      have h3 := hcell.norm hlen.symm
      rw [h3] at h2
      exact h0 h2
    have Hsl := Lib.hid hsl; have HX7 := Lib.hid hX7
    have Hpos2 := Lib.hid hpos2
    clear hsl hX7 hb7 hE7 Hwo HX6 hcell hlen hSL hpos2
    go_wp2_with (first
      | (go_at_call 18; refine Hsl.out.mono ?_))
    rintro e w8 ⟨ap, cp, v8, rfl, hE8, _, hb8⟩
    obtain rfl := ErrV.zero hE8
    have HX8 := Lib.hid (HX7.out.below hb8)
    have hpos2 := Hpos2.out
    obtain ⟨Q, hQ⟩ : ∃ Q, SL.length = Q := ⟨_, rfl⟩
    rw [hQ] at hpos2 ⊢
    have ws1 : IntKind.i64.wrap ((a : Int) + (d : Int)) = (a : Int) + (d : Int) := IntWalk.i64_in _ (by omega)
    have ws2 : IntKind.i64.wrap ((a : Int) + (d : Int) + (f : Int)) = 12 := by rw [IntWalk.i64_in _ (by omega)]; omega
    clear hb8 hE8 Hsl HX7 hQ
    by_cases h0 : wm = 0
    · have hd0 := Hwz.out.1 h0
      have k1 : decide ((0 : Int) < (wm : Int)) = false := decide_eq_false (by omega)
      have k1b : ¬ ((0 : Int) < (wm : Int)) := by omega
      have k3 : ((wm : Int) == 0) = true := beq_iff_eq.2 (by omega)
      have k4 : ((d : Int) == 0) = true := beq_iff_eq.2 (by omega)
      clear hpos2 Hwz Hwb htot hd0 h0
      go_wp2
      go_roundg (N - (i + 1))
      case measure => omega
      case rel => exact ⟨i + 1, b5, _, _, rfl, by omega, by go_num, HX8.out, HD5.out, HC5.out, Ht5.out⟩
    · have hq := hpos2 h0
      have hd0 : d ≠ 0 := fun e => h0 (Hwz.out.2 e)
      have k1 : (0 : Int) < (wm : Int) := by omega
      have k2 : ((Q : Int) == 0) = false := by simpa using hq
      have k3 : ((wm : Int) == 0) = false := by simpa using h0
      have k4 : ((d : Int) == 0) = false := by simpa using hd0
      clear hpos2 Hwz Hwb htot hq hd0 h0
      go_wp2
      go_roundg (N - (i + 1))
      case measure => omega
      case rel => exact ⟨i + 1, b5, _, _, rfl, by omega, by go_num, HX8.out, HD5.out, HC5.out, Ht5.out⟩
theorem depotCounts_any (bp : Option Addr) (cs : List (Int × Int × UInt8)) (cap : Nat) (w : World) (hC : TriplesAt w.heap.size w bp cs) (hL : Laid w) :
    Calls Tryz.prog 4 #[.slice bp cs.length cap] w (RetP (.bool true) w) := by
  by_cases h3 : 300 < cs.length
  · exact depotCounts_long bp _ cap h3 w
  · exact depotCounts_ok bp cs cap (by omega) w hL hC
end Go.Proofs.YtopjhgpgompenaaGreatDoor
