/-
  Chain: what is summed in opening a ring of an image.
-/
import Derived.Test.YtegdlpllljccgaaDoorLwChn
set_option linter.unusedSimpArgs false
set_option linter.unusedVariables false
namespace Go.Proofs.YtegdlpllljccgaaDoor
open Go.RowKit Sh

def ChainP (r : List (List UInt8) × Mk) (w : World) (e : Ending) (w' : World) : Prop :=
  ∃ bp c, e = .returned (.tuple #[.slice bp r.1.length c, .agg (markCells r.2).toArray]) ∧ StrsAt w'.heap.size w' bp r.1 ∧ (bp = none → r.1.length = 0 ∧ c = 0) ∧ Below w.heap.size w w'
theorem chainAll_stops {n : Nat} {pg : Nat → List UInt8} {f free : Nat} {m : Mk} (hb : begins pg free m) (hh : ¬ holds pg free m) (hf : free ≤ f) : chainAll n pg f free m = ([rawText pg m], m) := by
  have h3 := hb.2.2.2
  have h4 := takes_pos (kOf pg m)
  obtain ⟨f, rfl⟩ : ∃ g, f = g + 1 := ⟨f - 1, by omega⟩
  rw [chainAll, if_pos hb, if_neg hh]
theorem chainAll_goes {n : Nat} {pg : Nat → List UInt8} {f free : Nat} {m : Mk} (hh : holds pg free m) (hf : free ≤ f) :
    chainAll n pg f free m = (rawText pg m :: (chainAll n pg f (free - takes (kOf pg m)) (behind n m (kOf pg m) (dig (rawText pg m)))).1, (chainAll n pg f (free - takes (kOf pg m)) (behind n m (kOf pg m) (dig (rawText pg m)))).2) := by
  have h3 := hh.1.2.2.2
  have h4 := takes_pos (kOf pg m)
  obtain ⟨f, rfl⟩ : ∃ g, f = g + 1 := ⟨f - 1, by omega⟩
  conv => lhs; rw [chainAll, if_pos hh.1, if_pos hh]
  rw [chainAll_rounds n pg f (f + 1) _ _ (by omega) (by omega)]
section
variable {w : World}
set_option maxRecDepth 100000 in
set_option maxHeartbeats 8000000 in
/-- Chain. -/
theorem chain_any (bI cap : Nat) (img : List (List UInt8)) (first n : Nat) (m : Mk) (hI : ImgAt bI img w) (hn1 : 0 < n) (hn2 : n ≤ 4096) (hin : first + n ≤ img.length) (hlen : img.length ≤ 100000) (hpl : m.place < n) (hnum : m.num < 18446744073709551616) (hl : m.last.length = 32) :
    Calls Tryd.prog 52 #[.slice (some ⟨bI, 0, none⟩) img.length cap, .int .i64 first, .int .i64 n, .agg (markCells m).toArray] w (ChainP (chainAll n (pgOf img first n) n n m) w) := by
  obtain ⟨IL, hIL⟩ : ∃ IL, img.length = IL := ⟨_, rfl⟩
  have hpg := fun i => (hI.page hin hn1 i).1
  have Hpage := Lib.hid (fun (W : World) (hW : Below w.heap.size w W) i => range_keep (hI.page hin hn1 i).2 (hW.block bI hI.1))
  obtain ⟨pg, Hpg⟩ : ∃ pg, Hid (pg = pgOf img first n) := ⟨_, rfl⟩
  rw [← Hpg.out] at hpg Hpage ⊢
  rw [hIL] at hin hlen ⊢
  have HP64 := Lib.hid hpg
  have hbI := hI.1
  obtain ⟨R, HR⟩ : ∃ R, Hid (R = chainAll n pg n n m) := ⟨_, rfl⟩
  rw [← HR.out]
  clear hpg hI hIL Hpg
  obtain ⟨mv, Hmv⟩ : ∃ mv : List Value, Hid (mv = markCells m) := ⟨_, rfl⟩
  rw [← Hmv.out]
  have hbA := ((Below.refl w.heap.size w).alloc (Nat.le_refl _) (.cells mv.toArray 46))
  have hxA : (w.alloc (.cells mv.toArray 46)).heap[w.heap.size]? = some (.cells mv.toArray 46 (0, 0)) := heap_alloc_new w _
  have hbB := hbA.alloc hbA.size (.cells zeroMkA 46)
  have hrB : ((w.alloc (.cells mv.toArray 46)).alloc (.cells zeroMkA 46)).heap[w.heap.size + 1]? = some (.cells zeroMkA 46 (0, 0)) := by
    have := heap_alloc_new (w.alloc (.cells mv.toArray 46)) (.cells zeroMkA 46)
    simpa using this
  have hxB : ((w.alloc (.cells mv.toArray 46)).alloc (.cells zeroMkA 46)).heap[w.heap.size]? = some (.cells mv.toArray 46 (0, 0)) := by
    rw [Below.heap_alloc _ _ _ (by simp)]; exact hxA
  have hxB := hxB.trans (show some (Obj.cells mv.toArray 46 (0, 0)) = some (.cells (markCells m).toArray 46 (0, 0)) by rw [Hmv.out])
  have hW0 : ChW w.heap.size m (.slice none 0 0) [] w ((w.alloc (.cells mv.toArray 46)).alloc (.cells zeroMkA 46)) := ⟨hxB, hrB, World.ownsRow_nil _ _ _ _, hbB⟩
  clear hbA hxA hbB hrB hxB
  go_enter Tryd.func52, Tryd.ntmps52
  go_wp2_with (first
    | (refine wpList_alloc_arr rfl 46 rfl _ allocMk ?_))
  try simp only [World.size_alloc]
  generalize (w.alloc (.cells mv.toArray 46)).alloc (.cells zeroMkA 46) = wa at hW0 ⊢
  obtain ⟨x, hx⟩ : ∃ x, w.heap.size = x := ⟨_, rfl⟩
  rw [hx] at hW0 ⊢
  have Hx := Lib.hid hx
  clear hx
  go_loopg [10, 11] n (fun gg lv fr wr => ∃ (free : Nat) (mm : Mk) (ts : List (List UInt8)), free ≤ n ∧ gg = free ∧ fr = .int .i64 free ∧ mm.place < n ∧ mm.num < 18446744073709551616 ∧ mm.last.length = 32 ∧ Hid (R = (ts ++ (chainAll n pg n free mm).1, (chainAll n pg n free mm).2)) ∧ ts.length + free ≤ n ∧ ChW x mm lv ts w wr)
  case atStart => exact ⟨n, m, [], by omega, rfl, rfl, hpl, hnum, hl, HR, by simp, hW0⟩
  case round =>
    clear hW0 hpl hnum hl
    obtain ⟨free, mm, ts, hfr, rfl, rfl, hpl, hnum, hl, HC, htl, hW⟩ := hrel
    have hbel : Below w.heap.size w wr := by rw [Hx.out]; exact hW.bel
    obtain ⟨q, hq⟩ : ∃ q : Nat, first + mm.place = q := ⟨_, rfl⟩
    have hqI : q < IL := by omega
    have Hr := Hpage.out wr hbel mm.place
    rw [Nat.mod_eq_of_lt hpl, hq] at Hr
    obtain ⟨p, Hp⟩ : ∃ p, Hid (p = pg mm.place) := ⟨_, rfl⟩
    rw [← Hp.out] at Hr
    have hp64 : p.length = 64 := by rw [Hp.out]; exact HP64.out _
    obtain ⟨pv, Hpv⟩ : ∃ pv : List Value, Hid (pv = p.map cu8) := ⟨_, rfl⟩
    rw [← Hpv.out] at Hr
    have hpvl : pv.length = 64 := by rw [Hpv.out, List.length_map, hp64]
    have hcell := Lib.hid (run_loadAt_mid (P := Tryd.prog) wr bI (q * 64) 63 pv _ Hr Tryd.underlying63 rfl (by rw [hpvl]; exact info64))
    have hpi : Hid ((Tryd.prog.info? 63).map (·.size) = some pv.toArray.size) := by rw [List.size_toArray, hpvl]; exact info64
    have hpz : Hid (zeros64.size = pv.toArray.size) := by rw [show pv.toArray.size = 64 from by rw [List.size_toArray, hpvl]]; exact (rfl : zeros64.size = 64)
    have hp1 : Hid (pv.toArray.all (·.oneCell') = true) := by rw [Hpv.out]; exact bytes_one _
    have cpl : wr.cell? ⟨x, 0, none⟩ = some (.int .i64 mm.place) := by rw [cell_of_row wr x _ _ _ _ hW.box]; rfl
    have wq : IntKind.i64.wrap ((first : Int) + (mm.place : Int)) = (q : Int) := by rw [IntWalk.i64_in _ (by omega)]; omega
    have hqI' : (q : Int) < (IL : Int) := by omega
    have hxl := hW.lt
    have HW := Lib.hid hW; have Hbel := Lib.hid hbel
    clear Hr hq hW hbel hpvl
    go_upto_region 4 with (first
      | (refine wpList_load_page _ rfl bI (q * 64) rfl _ hcell.out (by rfl) ?_)
      | (refine wpList_alloc_arr rfl 63 rfl _ alloc64 ?_)
      | (refine wpList_store_new rfl 63 _ _ rfl wr.heap.size rfl pv.toArray rfl rfl 63 _ hpi.out hpz.out hp1.out ?_))
    have hb1 : Below wr.heap.size wr (wr.alloc (.cells pv.toArray 63)) := (Below.refl _ _).alloc (Nat.le_refl _) _
    have hx1 : (wr.alloc (.cells pv.toArray 63)).heap[wr.heap.size]? = some (.cells pv.toArray 63 (0, 0)) := heap_alloc_new wr _
    have HW1 := Lib.hid (HW.out.below hb1)
    have Hbel1 := Lib.hid (Hbel.out.trans (hb1.mono Hbel.out.size))
    generalize wr.alloc (.cells pv.toArray 63) = w1 at hb1 hx1 HW1 Hbel1 ⊢
    have hlo := (HW.out.own.lt : _)
    have Hlo := Lib.hid hlo
    obtain ⟨xp, hxp⟩ : ∃ xp, wr.heap.size = xp := ⟨_, rfl⟩
    rw [hxp] at hx1 Hlo hxl ⊢
    have hxp1 : xp < w1.heap.size := (Array.getElem?_eq_some_iff.1 hx1).1
    clear hlo hb1 hpz hcell HW Hbel hxp cpl hqI' wq
    obtain ⟨b0, hb0⟩ : ∃ b0, (at8 p 0).toNat = b0 := ⟨_, rfl⟩
    obtain ⟨k, hk⟩ : ∃ k, (at8 p 9).toNat = k := ⟨_, rfl⟩
    have hb0l : b0 < 256 := by rw [← hb0]; exact (at8 p 0).toNat_lt
    have hkl : k < 256 := by rw [← hk]; exact (at8 p 9).toNat_lt
    have hpc : ∀ (W : World) (hW : W.heap[xp]? = some (.cells pv.toArray 63 (0, 0))) (j : Nat), j < 64 → W.cell? ⟨xp, j, none⟩ = some (cu8 (at8 p j)) := fun W hW j hj => by
      rw [cell_of_row W xp j _ _ _ hW, List.getElem?_toArray, Hpv.out, List.getElem?_map, List.getElem?_eq_getElem (show j < p.length by omega)]; simp [at8, List.getD_eq_getElem?_getD, List.getElem?_eq_getElem (show j < p.length by omega)]
    have Hpc := Lib.hid hpc
    have c0 : w1.cell? ⟨xp, 0, none⟩ = some (.int .u8 b0) := by rw [hpc w1 hx1 0 (by omega), ← hb0]; rfl
    have c9 : w1.cell? ⟨xp, 9, none⟩ = some (.int .u8 k) := by rw [hpc w1 hx1 9 (by omega), ← hk]; rfl
    have hB8 : ∀ (W : World) (hW : W.heap[xp]? = some (.cells pv.toArray 63 (0, 0))), Bytes W.heap.size W (some ⟨xp, 1, none⟩) 8 63 ((p.drop 1).take 8) := fun W hW =>
      ⟨by simp [hp64], by omega, by unfold maxLen; omega, .inr ⟨xp, 1, rfl, (Array.getElem?_eq_some_iff.1 hW).1, fun j hj => by
        rw [hpc W hW (1 + j) (by omega)]
        simp [at8, List.getElem?_take_of_lt hj, List.getElem?_drop, Nat.add_comm]⟩⟩
    obtain ⟨N8, hN8⟩ : ∃ N8, numFrom ((p.drop 1).take 8) 0 = N8 := ⟨_, rfl⟩
    have hnumc : ∀ (W : World) (hW : W.heap[xp]? = some (.cells pv.toArray 63 (0, 0))), Calls Tryd.prog 67 #[.slice (some ⟨xp, 1, none⟩) 8 63] W fun e w' => e = .returned (.int .u64 N8) ∧ w' = W := fun W hW => by
      rw [← hN8]; exact rnumber_any _ (by simp [hp64]) _ W _ _ (hB8 W hW)
    obtain ⟨T, hT⟩ : ∃ T, takes k = T := ⟨_, rfl⟩
    have htk : ∀ W, Calls Tryd.prog 21 #[.int .i64 k] W fun e w' => e = .returned (.int .i64 T) ∧ w' = W := fun W => by rw [← hT]; exact rtakes_any k (by omega) W
    have hbeg : begins pg gk mm ↔ b0 = 84 ∧ N8 = mm.num ∧ 1 ≤ k ∧ k ≤ 60 ∧ T ≤ gk := by
      unfold begins kOf
      rw [← Hp.out, hk, hT]
      have := head_iff hp64 hnum
      rw [hk, hN8] at this
      rw [this]
      have e : at8 p 0 = 84 ↔ b0 = 84 := by
        rw [← hb0]
        constructor
        · intro h; rw [h]; rfl
        · intro h; exact UInt8.toNat_inj.1 h
      rw [e]
      constructor
      · rintro ⟨⟨h1, h2⟩, h3⟩; exact ⟨h1, h2, h3⟩
      · rintro ⟨h1, h2, h3⟩; exact ⟨⟨h1, h2⟩, h3⟩
    have Hbeg := Lib.hid hbeg; have Hnumc := Lib.hid hnumc; have HB8 := Lib.hid hB8; have Htk := Lib.hid htk; have HT := Lib.hid hT; have Hk := Lib.hid hk
    clear hpc hb0 hk hB8 hN8 hnumc hT htk hbeg
    go_upto_region 5 with (fail)
    clear c9
    have hb1 : Below w1.heap.size w1 { w1 with drawn := w1.drawn + 1 } := ⟨rfl, rfl, rfl, Nat.le_refl _, fun _ _ => rfl⟩
    have hcase : (b0 ≠ 84) ∨ (b0 = 84 ∧ N8 ≠ mm.num) ∨ (b0 = 84 ∧ N8 = mm.num ∧ k < 1) ∨ (b0 = 84 ∧ N8 = mm.num ∧ 1 ≤ k ∧ 60 < k) ∨ (b0 = 84 ∧ N8 = mm.num ∧ 1 ≤ k ∧ k ≤ 60 ∧ gk < T) ∨ (b0 = 84 ∧ N8 = mm.num ∧ 1 ≤ k ∧ k ≤ 60 ∧ T ≤ gk) := by omega
    have c0d : ({ w1 with drawn := w1.drawn + 1 } : World).cell? ⟨xp, 0, none⟩ = some (.int .u8 b0) := c0
    have hx1d : ({ w1 with drawn := w1.drawn + 1 } : World).heap[xp]? = some (.cells pv.toArray 63 (0, 0)) := hx1
    have cnd : ({ w1 with drawn := w1.drawn + 1 } : World).cell? ⟨x, 1, none⟩ = some (.int .u64 mm.num) := by rw [cell_of_row _ x 1 _ _ _ (show ({ w1 with drawn := w1.drawn + 1 } : World).heap[x]? = _ from HW1.out.box)]; rfl
    have HWd := Lib.hid (HW1.out.below hb1)
    have hbd := Hbel1.out.trans (hb1.mono Hbel1.out.size)
    refine wp_region_still_lit (by kernel_rfl) (by kernel_rfl) ?_
    obtain ⟨wd, hdr⟩ : ∃ wd : World, ({ w1 with drawn := w1.drawn + 1 } : World) = wd := ⟨_, rfl⟩
    rw [hdr] at c0d hx1d cnd HWd hbd ⊢
    have Hcall := Lib.hid (Hnumc.out wd hx1d)
    clear hdr c0 hx1 HW1 Hbel1 hb1 hxp1
    rcases hcase with h0 | ⟨rfl, h1⟩ | ⟨rfl, rfl, h2⟩ | ⟨rfl, rfl, h3, h4⟩ | ⟨rfl, rfl, h3, h4, h5⟩ | ⟨rfl, rfl, h3, h4, h5⟩
    case' inl =>
      have hnb : ¬ begins pg gk mm := fun h => by have := Hbeg.out.1 h; omega
      have h0' : ¬ (b0 : Int) = 84 := by omega
      iterate 24 still_step
      refine wpStill_nil ?_
      go_wp2
    case' inr.inl =>
      have hnb : ¬ begins pg gk mm := fun h => h1 (Hbeg.out.1 h).2.1
      have h0' : ¬ ((N8 : Nat) : Int) = ((mm.num : Nat) : Int) := by omega
      iterate 5 still_step
      still_call (Hcall.out)
      iterate 18 still_step
      refine wpStill_nil ?_
      go_wp2
    case' inr.inr.inl =>
      have hnb : ¬ begins pg gk mm := fun h => by have := Hbeg.out.1 h; omega
      have h0' : (k : Int) < 1 := by omega
      iterate 5 still_step
      still_call (Hcall.out)
      iterate 18 still_step
      refine wpStill_nil ?_
      go_wp2
    case' inr.inr.inr.inl =>
      have hnb : ¬ begins pg gk mm := fun h => by have := Hbeg.out.1 h; omega
      have h0' : ¬ (k : Int) < 1 := by omega
      have h1' : (60 : Int) < k := by omega
      iterate 5 still_step
      still_call (Hcall.out)
      iterate 18 still_step
      refine wpStill_nil ?_
      go_wp2
    case' inr.inr.inr.inr.inl =>
      have hnb : ¬ begins pg gk mm := fun h => by have := Hbeg.out.1 h; omega
      have h0' : ¬ (k : Int) < 1 := by omega
      have h1' : ¬ (60 : Int) < k := by omega
      have h2' : (gk : Int) < T := by omega
      iterate 5 still_step
      still_call (Hcall.out)
      iterate 14 still_step
      still_call (Htk.out wd)
      iterate 3 still_step
      refine wpStill_nil ?_
      go_wp2
    case' inr.inr.inr.inr.inr =>
      have hyb : begins pg gk mm := Hbeg.out.2 ⟨rfl, rfl, h3, h4, h5⟩
      have h5' : ¬ (gk : Int) < T := by omega
      have h4' : ¬ (60 : Int) < k := by omega
      have h3' : ¬ (k : Int) < 1 := by omega
      iterate 5 still_step
      still_call (Hcall.out)
      iterate 14 still_step
      still_call (Htk.out wd)
      iterate 3 still_step
      refine wpStill_nil ?_
      clear h5' h4' h3' Hcall Hbeg Hnumc c0d cnd HB8
      go_wp2
      -- the text's beginning
      obtain ⟨tx, Htx⟩ : ∃ tx, Hid (tx = mm.last ++ p.take 10) := ⟨_, rfl⟩
      have hlast : ∀ W : World, Below wd.heap.size wd W → Bytes W.heap.size W (some ⟨x, 2, none⟩) 32 32 mm.last := fun W hW => by
        have hb := (HWd.out.below hW).box
        refine ⟨hl, Nat.le_refl _, by unfold maxLen; omega, .inr ⟨x, 2, rfl, (Array.getElem?_eq_some_iff.1 hb).1, fun j hj => ?_⟩⟩
        rw [cell_of_row W x _ _ _ _ hb, List.getElem?_toArray]
        simp only [markCells]
        rw [Nat.add_comm 2 j, List.getElem?_cons_succ, List.getElem?_cons_succ, List.getElem?_map, List.getElem?_eq_getElem (show j < mm.last.length by omega)]
        simp [at8, List.getD_eq_getElem?_getD, List.getElem?_eq_getElem (show j < mm.last.length by omega)]
      have hten : ∀ W : World, Below wd.heap.size wd W → Bytes W.heap.size W (some ⟨xp, 0, none⟩) 10 64 (p.take 10) := fun W hW => by
        have hx := (hW.block xp (Array.getElem?_eq_some_iff.1 hx1d).1).trans hx1d
        refine ⟨by simp [hp64], by omega, by unfold maxLen; omega, .inr ⟨xp, 0, rfl, (Array.getElem?_eq_some_iff.1 hx).1, fun j hj => ?_⟩⟩
        rw [Nat.zero_add, Hpc.out W hx j (by omega)]
        simp [at8, List.getElem?_take_of_lt hj]
      have Hlast := Lib.hid hlast; have Hten := Lib.hid hten
      clear hlast hten
      refine wp_region_held (S := fun w' => Below wd.heap.size wd w') (by kernel_rfl) ?_
      have hb2 : Below wd.heap.size wd { wd with drawn := wd.drawn + 1 } := ⟨rfl, rfl, rfl, Nat.le_refl _, fun _ _ => rfl⟩
      obtain ⟨wg, hdr⟩ : ∃ wg : World, ({ wd with drawn := wd.drawn + 1 } : World) = wg := ⟨_, rfl⟩
      rw [hdr] at hb2 ⊢
      clear hdr
      have hO2 : OwnB wd (.slice none 0 0) 0 [] wg := OwnB.start hb2
      refine wpAnyH_take (i := 0) (v := .pointer (some ⟨x, 2, none⟩)) rfl (by kernel_rfl) (by kernel_rfl) (by kernel_rfl) (fun _ _ _ h => h) (Or.inl ⟨by rfl, ?_⟩) hb2 ?_
      · intro w' _; go_simp
      try simp only [List.getElem_toArray, List.getElem_cons_succ, List.getElem_cons_zero, Act.put, List.setIfInBounds_toArray, List.set]
      refine wpAnyH_take (i := 1) (v := .slice (some ⟨x, 2, none⟩) 32 32) rfl (by kernel_rfl) (by kernel_rfl) (by kernel_rfl) (fun _ _ _ h => h) (Or.inl ⟨by rfl, ?_⟩) hb2 ?_
      · intro w' _; go_simp
      try simp only [List.getElem_toArray, List.getElem_cons_succ, List.getElem_cons_zero, Act.put, List.setIfInBounds_toArray, List.set]
      refine wpAnyH_take (i := 3) (v := .slice (some ⟨xp, 0, none⟩) 10 64) rfl (by kernel_rfl) (by kernel_rfl) (by kernel_rfl) (fun _ _ _ h => h) (Or.inl ⟨by rfl, ?_⟩) hb2 ?_
      · intro w' _; go_simp
      try simp only [List.getElem_toArray, List.getElem_cons_succ, List.getElem_cons_zero, Act.put, List.setIfInBounds_toArray, List.set]
      refine wpAnyH_oneR 2 _ rfl (by kernel_rfl) (by rfl) (fun K hK => ?_)
      refine wp_joinB wd wg _ _ rfl _ 0 [] rfl hO2 _ _ 32 32 mm.last rfl (Hlast.out wg hb2) 32 rfl (by omega) ?_
      intro v3 w3 HO3
      refine hK _ _ HO3.out.below ?_
      clear hK K
      try simp only [List.getElem_toArray, List.getElem_cons_succ, List.getElem_cons_zero, Act.put, List.setIfInBounds_toArray, List.set]
      refine wpAnyH_oneR 4 _ rfl (by kernel_rfl) (by rfl) (fun K hK => ?_)
      refine wp_joinB wd w3 _ _ rfl v3 32 _ rfl HO3.out _ _ 10 64 (p.take 10) rfl (Hten.out w3 HO3.out.below) 42 rfl (by omega) ?_
      intro v4 w4 HO4
      refine hK _ _ HO4.out.below ?_
      clear hK K
      try simp only [List.getElem_toArray, List.getElem_cons_succ, List.getElem_cons_zero, Act.put, List.setIfInBounds_toArray, List.set]
      refine wpAnyH_take (i := 5) (v := v4) rfl (by kernel_rfl) (by kernel_rfl) (by kernel_rfl) (fun _ _ _ h => h) (Or.inl ⟨by rfl, ?_⟩) HO4.out.below ?_
      · intro w' _; go_simp
      try simp only [List.getElem_toArray, List.getElem_cons_succ, List.getElem_cons_zero, Act.put, List.setIfInBounds_toArray, List.set]
      refine wpAnyH_done (by kernel_rfl) ?_ _
      rw [List.nil_append, ← Htx.out] at HO4
      clear HO3 hO2 Hlast Hten hb2
      have hrl : (rest pg mm.place k).length + 1 = T := by have := HT.out; unfold rest; rw [List.length_map, List.length_range]; have := takes_pos k; omega
      obtain ⟨rs, Hrs⟩ : ∃ rs, Hid (rs = rest pg mm.place k) := ⟨_, rfl⟩
      rw [← Hrs.out] at hrl
      have hrget : ∀ c, c + 1 < T → rs.getD c [] = pg (mm.place + (c + 1)) := fun c hc => by
        rw [Hrs.out]; unfold rest
        have hT2 := HT.out
        rw [List.getD_eq_getElem?_getD, List.getElem?_map, List.getElem?_range (by omega)]
        simp [Nat.add_comm 1 c]
      have hr64 : ∀ p ∈ rs, p.length = 64 := fun p hp => by
        rw [Hrs.out] at hp; unfold rest at hp
        obtain ⟨_, _, rfl⟩ := List.mem_map.1 hp
        exact HP64.out _
      have Hrget := Lib.hid hrget; have Hrl := Lib.hid hrl; have Hr64 := Lib.hid hr64
      have hT65 : T ≤ 65 := by have := HT.out; unfold takes at this; omega
      have hT3 : 3 ≤ T := by have := HT.out; unfold takes at this; omega
      have Hbd := Lib.hid hbd; have Hx1d := Lib.hid hx1d
      have hn0 : ¬ n = 0 := by omega
      have hO0 : OwnB wd v4 (42 + 64 * 0) (tx ++ (rs.take 0).flatten) w4 := by rw [List.take_zero, List.flatten_nil, List.append_nil]; exact HO4.out
      clear hrget hrl hr64 hbd hx1d HO4
      go_wp2
      go_loopg [14, 15] T (fun gg al i wr => ∃ c : Nat, c + 1 ≤ T ∧ gg = T - c ∧ i = .int .i64 ((c + 1 : Nat) : Int) ∧ OwnB wd al (42 + 64 * c) (tx ++ (rs.take c).flatten) wr)
      case atStart => exact ⟨0, by omega, by omega, rfl, hO0⟩
      case round =>
        clear hO0
        obtain ⟨c, hc, rfl, rfl, hO⟩ := hrel
        by_cases hlt : c + 1 < T
        · have hlt' : ((c + 1 : Nat) : Int) < T := by omega
          obtain ⟨j, hj⟩ : ∃ j, c + 1 = j := ⟨_, rfl⟩
          obtain ⟨s, hs⟩ : ∃ s, mm.place + j = s := ⟨_, rfl⟩
          obtain ⟨r, hr⟩ : ∃ r, s % n = r := ⟨_, rfl⟩
          obtain ⟨q2, hq2⟩ : ∃ q2, first + r = q2 := ⟨_, rfl⟩
          have hrn : r < n := by rw [← hr]; exact Nat.mod_lt _ hn1
          have hpgc := Hrget.out c hlt
          rw [hj, hs] at hpgc
          obtain ⟨pq, Hpq⟩ : ∃ pq, Hid (pq = rs.getD c []) := ⟨_, rfl⟩
          have hpq64 : pq.length = 64 := by rw [Hpq.out, hpgc]; exact HP64.out _
          have hbw := Hbd.out.trans (hO.below.mono Hbd.out.size)
          have hrng := Hpage.out wr hbw s
          rw [hr, hq2, ← hpgc, ← Hpq.out] at hrng
          obtain ⟨qv, Hqv⟩ : ∃ qv : List Value, Hid (qv = pq.map cu8) := ⟨_, rfl⟩
          rw [← Hqv.out] at hrng
          have hqvl : qv.length = 64 := by rw [Hqv.out, List.length_map, hpq64]
          have hcell := Lib.hid (run_loadAt_mid (P := Tryd.prog) wr bI (q2 * 64) 63 qv _ hrng Tryd.underlying63 rfl (by rw [hqvl]; exact info64))
          have hqi : Hid ((Tryd.prog.info? 63).map (·.size) = some qv.toArray.size) := by rw [List.size_toArray, hqvl]; exact info64
          have hqz : Hid (zeros64.size = qv.toArray.size) := by rw [show qv.toArray.size = 64 from by rw [List.size_toArray, hqvl]]; exact (rfl : zeros64.size = 64)
          have hq1 : Hid (qv.toArray.all (·.oneCell') = true) := by rw [Hqv.out]; exact bytes_one _
          have cpl : wr.cell? ⟨x, 0, none⟩ = some (.int .i64 mm.place) := by rw [cell_of_row wr x _ _ _ _ (HWd.out.below hO.below).box]; rfl
          have w2 : IntKind.i64.wrap ((mm.place : Int) + (j : Int)) = (s : Int) := by rw [IntWalk.i64_in _ (by omega)]; omega
          have w4 : (s : Int) % (n : Int) = (r : Int) := by rw [← hr]; omega
          have w5 : (s : Int).tmod (n : Int) = (r : Int) := by rw [Int.tmod_eq_emod_of_nonneg (by omega), w4]
          have w6 : IntKind.i64.wrap ((first : Int) + (r : Int)) = (q2 : Int) := by rw [IntWalk.i64_in _ (by omega)]; omega
          have hq2I : q2 < IL := by omega
          rw [hj] at hlt' ⊢
          have HO := Lib.hid hO
          clear hrng hpgc hqvl hbw hO
          have hone := fun W => Htk.out W
          go_upto_region 12 with (first
            | (go_at_call 21; refine (hone _).mono ?_; rintro e w' ⟨rfl, rfl⟩)
            | (refine wpList_load_page _ rfl bI (q2 * 64) rfl _ hcell.out (by rfl) ?_)
            | (refine wpList_alloc_arr rfl 63 rfl _ alloc64 ?_)
            | (refine wpList_store_new rfl 63 _ _ rfl w'.heap.size rfl qv.toArray rfl rfl 63 _ hqi.out hqz.out hq1.out ?_))
          have hb1 : Below w'.heap.size w' (w'.alloc (.cells qv.toArray 63)) := (Below.refl _ _).alloc (Nat.le_refl _) _
          have hy1 : (w'.alloc (.cells qv.toArray 63)).heap[w'.heap.size]? = some (.cells qv.toArray 63 (0, 0)) := heap_alloc_new w' _
          have hO1 := HO.out.keep hb1
          generalize w'.alloc (.cells qv.toArray 63) = wy at hb1 hy1 hO1 ⊢
          obtain ⟨y, hy⟩ : ∃ y, w'.heap.size = y := ⟨_, rfl⟩
          rw [hy] at hy1 ⊢
          have hBy : Bytes wy.heap.size wy (some ⟨y, 0, none⟩) 64 64 pq := ⟨hpq64, Nat.le_refl _, by unfold maxLen; omega, .inr ⟨y, 0, rfl, (Array.getElem?_eq_some_iff.1 hy1).1, fun i hi => by
            rw [Nat.zero_add, cell_of_row wy y i _ _ _ hy1, List.getElem?_toArray, Hqv.out, List.getElem?_map, List.getElem?_eq_getElem (show i < pq.length by omega)]
            simp [at8, List.getD_eq_getElem?_getD, List.getElem?_eq_getElem (show i < pq.length by omega)]⟩⟩
          clear hcell hqi hqz hq1 cpl w2 w4 w5 w6 HO hy hy1 hb1
          go_wp2_with (first
            | (refine wpList_joinB wd wy rfl _ _ rfl _ _ _ rfl hO1 _ _ 64 64 pq rfl hBy (42 + 64 * (c + 1)) (by omega) (by omega) ?_; intro v5 w5 HO5))
          go_roundg (T - (c + 1))
          case measure => omega
          case rel =>
            refine ⟨c + 1, by omega, by omega, by go_num, ?_⟩
            have e : tx ++ (rs.take (c + 1)).flatten = tx ++ (rs.take c).flatten ++ pq := by rw [take_flat (by have := Hrl.out; omega), ← Hpq.out, List.append_assoc]
            rw [e]; exact HO5.out
        · obtain rfl : T = c + 1 := by omega
          have hlt' : ¬ ((c + 1 : Nat) : Int) < ((c + 1 : Nat) : Int) := by omega
          obtain ⟨TT, hTT⟩ : ∃ TT, c + 1 = TT := ⟨_, rfl⟩
          have htake : rs.take c = rs := List.take_of_length_le (by have := Hrl.out; omega)
          rw [htake] at hO
          have hraw : tx ++ rs.flatten = rawText pg mm := by
            unfold rawText kOf
            rw [Htx.out, ← Hp.out, Hk.out, ← Hrs.out, List.append_assoc]
          rw [hraw] at hO
          obtain ⟨txt, Htxt⟩ : ∃ txt, Hid (txt = rawText pg mm) := ⟨_, rfl⟩
          rw [← Htxt.out] at hO
          obtain ⟨bp, cp, rfl, hB⟩ := hO.bytes
          obtain ⟨LT, hLT⟩ : ∃ LT, 42 + 64 * c = LT := ⟨_, rfl⟩
          have hLT1 : 42 ≤ LT ∧ LT ≤ 4200 := by omega
          rw [hLT] at hB hO ⊢
          rw [hTT] at hlt' hT65 hT3 Htk h5 HT ⊢
          have hone := fun W => Htk.out W
          have htxl : txt.length = LT := hB.hlen
          have HWr := Lib.hid (HWd.out.below hO.below)
          have HO := Lib.hid hO; have HB := Lib.hid hB
          obtain ⟨i, hi, hzz⟩ := Option.map_eq_some_iff.1 infoStr
          simp only [Prod.mk.injEq] at hzz
          have Hi := Lib.hid (And.intro hi hzz)
          have hsz1 : ts.length ≤ 4096 := by omega
          have hxw : x + 2 ≤ wr.heap.size := HWr.out.lt
          obtain ⟨sv, Hsv⟩ : ∃ sv, Hid (sv = strV txt) := ⟨_, rfl⟩
          have hcell : ∀ (W : World) (j : Nat) (u : Value), [Value.string sv][j]? = some u → (W.alloc (.cells #[.string sv] 9)).cell? ((⟨W.heap.size, 0, none⟩ : Addr).add j) = some u := fun W j u hu => by
            match j with
            | 0 =>
              obtain rfl : Value.string sv = u := by simpa using hu
              exact cell_of_row _ W.heap.size _ _ _ _ (heap_alloc_new W _)
            | j + 1 => simp at hu
          have hownS := HWr.out.own.alloc (.cells #[.string sv] 9)
          have Hcell := Lib.hid hcell; have HownS := Lib.hid hownS
          clear hcell hownS hi hzz hTT hLT htake hraw hO hB
          go_upto_region 14 with (first
            | (go_at_call 21; refine (hone _).mono ?_; rintro e w' ⟨rfl, rfl⟩)
            | (refine wpList_conv_back rfl _ rfl HB.out (by omega) rfl sv Hsv.out ?_)
            | (refine wpList_append_any rfl _ _ 118 rfl (x + 2) 9 i _ 1 16 Tryd.underlying118 Hi.out.1 Hi.out.2.1 Hi.out.2.2.1 Hi.out.2.2.2 rfl (by omega) _ ts.length (strsC ts) rfl HownS.out (some ⟨w'.heap.size, 0, none⟩) 1 1 [Value.string sv] rfl (fun e => by cases e) rfl (fun ad he j u hu => by cases he; exact Hcell.out w' j u hu) (fun u hu => by rw [List.mem_singleton.1 hu]; rfl) (by unfold maxLen; omega) (by omega) (Nat.le_trans hxw (by simp)) ?_; intro v6 w6 hown6 hg6))
          have hgB : w'.grownBy w6 u10.ownBlock := grownBy_trans (World.grownBy_alloc w' (.cells #[.string sv] 9) u10.ownBlock) hg6
          have hu10 : ∀ j, u10.ownBlock = some j → j < xp := fun j hj => (Hlo.out j hj).2
          have hW6 : ChW x mm v6 (ts ++ [txt]) w w6 := HWr.out.add (by rw [← Hsv.out]; exact hown6) hgB
          have hbd6 : Below w.heap.size w w6 := by rw [Hx.out]; exact hW6.bel
          have hB6 : Bytes w'.heap.size w6 bp LT cp txt := HB.out.turned (Nat.le_refl _) hgB (fun b o hb e => by
            have h1 := hu10 b e
            have h2 := HO.out.own.lt b (by rw [hb]; rfl)
            have h3 := (Array.getElem?_eq_some_iff.1 Hx1d.out).1
            omega)
          have hx6 : w6.heap[xp]? = some (.cells pv.toArray 63 (0, 0)) := by
            have h3 := (Array.getElem?_eq_some_iff.1 Hx1d.out).1
            have h4 := HO.out.below.size
            rw [hgB.block xp (by omega) (fun e => by have := hu10 xp e.symm; omega), HO.out.below.block xp h3]
            exact Hx1d.out
          have hB7 := hB6.mono hgB.size
          have hsum := rsum_any bp LT cp txt w6 hB7 (by omega)
          obtain ⟨dv, Hdv⟩ : ∃ dv : Array Value, Hid (dv = ((dig txt).map cu8).toArray) := ⟨_, rfl⟩
          rw [← Hdv.out] at hsum
          have hdi : Hid ((Tryd.prog.info? 23).map (·.size) = some dv.size) := by rw [Hdv.out]; exact (by kernel_rfl : (Tryd.prog.info? 23).map (·.size) = some 32)
          have hdz : Hid (z32.toArray.size = dv.size) := by rw [Hdv.out]; exact (rfl : z32.toArray.size = 32)
          have hd1 : Hid (dv.all (·.oneCell') = true) := by rw [Hdv.out]; exact bytes_one _
          clear hB6 hB7 hgB hg6 hown6 HB HO HownS Hcell HWr Hi Hsv hlt' hxw
          go_wp2_with (go_at_call 54; refine hsum.mono ?_)
          rintro e w7 ⟨rv, hrv, rfl, hb7⟩
          obtain rfl := hrv.out
          have hW7 := hW6.below hb7
          have hx7 := (hb7.block xp (Array.getElem?_eq_some_iff.1 hx6).1).trans hx6
          have hbd7 := hbd6.trans (hb7.mono hbd6.size)
          clear hrv hb7 hW6 hx6 hbd6 hsum
          go_upto_region 15 with (first
            | (refine wpList_alloc_arr rfl 23 rfl _ alloc32 ?_)
            | (refine wpList_store_new rfl 23 _ _ rfl w7.heap.size rfl rv rfl rfl 23 _ hdi.out hdz.out hd1.out ?_))
          have hb8 : Below w7.heap.size w7 (w7.alloc (.cells rv 23)) := (Below.refl _ _).alloc (Nat.le_refl _) _
          have hy8 : (w7.alloc (.cells rv 23)).heap[w7.heap.size]? = some (.cells rv 23 (0, 0)) := heap_alloc_new w7 _
          have hW8 := hW7.below hb8
          have hx8 := (hb8.block xp (Array.getElem?_eq_some_iff.1 hx7).1).trans hx7
          have hbd8 := hbd7.trans (hb8.mono hbd7.size)
          generalize w7.alloc (.cells rv 23) = w8 at hb8 hy8 hW8 hx8 hbd8 ⊢
          obtain ⟨y, hy⟩ : ∃ y, w7.heap.size = y := ⟨_, rfl⟩
          rw [hy] at hy8 ⊢
          clear hy hb8 hW7 hx7 hbd7 hdz hd1
          -- the digests
          refine wp_region_still_lit (by kernel_rfl) (by kernel_rfl) ?_
          have hb9 : Below w8.heap.size w8 { w8 with drawn := w8.drawn + 1 } := ⟨rfl, rfl, rfl, Nat.le_refl _, fun _ _ => rfl⟩
          have hW9 := hW8.below hb9
          have hbd9 := hbd8.trans (hb9.mono hbd8.size)
          have hx9 : ({ w8 with drawn := w8.drawn + 1 } : World).heap[xp]? = some (.cells pv.toArray 63 (0, 0)) := hx8
          have hy9 : ({ w8 with drawn := w8.drawn + 1 } : World).heap[y]? = some (.cells rv 23 (0, 0)) := hy8
          obtain ⟨w9, hdr⟩ : ∃ w9 : World, ({ w8 with drawn := w8.drawn + 1 } : World) = w9 := ⟨_, rfl⟩
          rw [hdr] at hW9 hbd9 hx9 hy9 ⊢
          clear hdr hb9 hW8 hx8 hy8 hbd8
          have hBs : Bytes w9.heap.size w9 (some ⟨y, 0, none⟩) 32 32 (dig txt) := ⟨rfl, Nat.le_refl _, by unfold maxLen; omega, .inr ⟨y, 0, rfl, (Array.getElem?_eq_some_iff.1 hy9).1, fun j hj => by
            rw [Nat.zero_add, cell_of_row w9 y j _ _ _ hy9, Hdv.out, List.getElem?_toArray, List.getElem?_map, List.getElem?_eq_getElem (show j < (dig txt).length from hj)]
            simp [at8, List.getD_eq_getElem?_getD, List.getElem?_eq_getElem (show j < (dig txt).length from hj)]⟩⟩
          have hBp : Bytes w9.heap.size w9 (some ⟨xp, 10, none⟩) 32 54 ((p.drop 10).take 32) := ⟨by simp [hp64], by omega, by unfold maxLen; omega, .inr ⟨xp, 10, rfl, (Array.getElem?_eq_some_iff.1 hx9).1, fun j hj => by
            rw [Hpc.out w9 hx9 (10 + j) (by omega)]
            simp [at8, List.getElem?_take_of_lt hj, List.getElem?_drop, Nat.add_comm]⟩⟩
          obtain ⟨s1, Hs1⟩ : ∃ s1, Hid (s1 = strV (dig txt)) := ⟨_, rfl⟩
          obtain ⟨s2, Hs2⟩ : ∃ s2, Hid (s2 = strV ((p.drop 10).take 32)) := ⟨_, rfl⟩
          have HC1 := Lib.hid (str_of_bytes w9 hBs (by omega))
          have HC2 := Lib.hid (str_of_bytes w9 hBp (by omega))
          rw [← Hs1.out] at HC1
          rw [← Hs2.out] at HC2
          obtain ⟨eb, heb⟩ : ∃ eb : Bool, (s1.toList == s2.toList) = eb := ⟨_, rfl⟩
          have Heb : Hid (eb = true ↔ dig txt = (p.drop 10).take 32) := by
            show eb = true ↔ _
            rw [← heb, beq_iff_eq, ByteArray.toList_eq, ByteArray.toList_eq, Hs1.out, Hs2.out]
            simp [strV]
          clear hBs hBp Hs1 Hs2
          still_step
          refine wpStill_val rfl (v := .string s1) ?_ ?_
          · unfold execOp
            rw [Sem.run_bind]
            exact (congrArg (fun r : Result Value => r.andThen fun v w' => (pure (Next.value v) : Sem Next).run Tryd.prog w') HC1.out).trans rfl
          still_step
          refine wpStill_val rfl (v := .string s2) ?_ ?_
          · unfold execOp
            rw [Sem.run_bind]
            exact (congrArg (fun r : Result Value => r.andThen fun v w' => (pure (Next.value v) : Sem Next).run Tryd.prog w') HC2.out).trans rfl
          still_step
          refine wpStill_nil ?_
          clear HC1 HC2 heb
          have hhold : holds pg gk mm ↔ eb = true := by
            rw [Heb.out]
            unfold holds
            rw [← Htxt.out, ← Hp.out]
            exact ⟨fun h => h.2, fun h => ⟨hyb, h⟩⟩
          have hkO : kOf pg mm = k := by unfold kOf; rw [← Hp.out]; exact Hk.out
          cases eb with
          | false =>
            have hR := HC.out
            rw [chainAll_stops hyb (fun h => by have := hhold.1 h; cases this) hfr, ← Htxt.out] at hR
            clear hhold hone Htk
            go_wp2
            obtain ⟨mmv, Hmmv⟩ : ∃ mmv : List Value, Hid (mmv = markCells mm) := ⟨_, rfl⟩
            have hmml : mmv.length = 34 := by rw [Hmmv.out]; simp [markCells, hl]
            have hbx := hW9.box
            rw [← Hmmv.out] at hbx
            have hWd2 : ChW x mm v6 (ts ++ [txt]) w ({ w9 with drawn := w9.drawn + 1 } : World) := hW9.below ⟨rfl, rfl, rfl, Nat.le_refl _, fun _ _ => rfl⟩
            have hbd2 : Below w.heap.size w ({ w9 with drawn := w9.drawn + 1 } : World) := hbd9.trans (Below.mono ⟨rfl, rfl, rfl, Nat.le_refl _, fun _ _ => rfl⟩ hbd9.size)
            have hbx2 : ({ w9 with drawn := w9.drawn + 1 } : World).heap[x]? = some (.cells mmv.toArray 46 (0, 0)) := hbx
            refine wp_region_still_tail 3 (by kernel_rfl) (by kernel_rfl) ?_
            obtain ⟨we, hde⟩ : ∃ we : World, ({ w9 with drawn := w9.drawn + 1 } : World) = we := ⟨_, rfl⟩
            rw [hde] at hWd2 hbd2 hbx2 ⊢
            have HLm : Hid ((loadVar 46 ⟨x, 0, none⟩).run Tryd.prog we = .ok (.agg mmv.toArray) we) :=
              run_loadAt_mid (P := Tryd.prog) we x 0 46 mmv _ (fun j v hj => by rw [Nat.zero_add, cell_of_row we x j _ _ _ hbx2]; simpa using hj) Tryd.underlying46 rfl (by rw [hmml]; kernel_rfl)
            have hmi : Hid ((Tryd.prog.info? 46).map (·.size) = some mmv.toArray.size) := by rw [List.size_toArray, hmml]; exact (by kernel_rfl : (Tryd.prog.info? 46).map (·.size) = some 34)
            have hmz : Hid (zeroMkA.size = mmv.toArray.size) := by rw [show mmv.toArray.size = 34 from by rw [List.size_toArray, hmml]]; exact (rfl : zeroMkA.size = 34)
            have hm1 : Hid (mmv.toArray.all (·.oneCell') = true) := by rw [Hmmv.out]; exact all_oneCell_toArray (mark_one mm)
            clear hde hbx hbx2 hmml
            simp only [List.take_succ_cons, List.take_zero, List.drop_succ_cons, List.drop_zero]
            still_step
            refine wpStill_val rfl (v := .agg mmv.toArray) ?_ ?_
            · unfold execOp
              rw [Sem.run_bind]
              exact (congrArg (fun r : Result Value => r.andThen fun v w' => (pure (Next.value v) : Sem Next).run Tryd.prog w') HLm.out).trans rfl
            still_step
            refine wpStill_nil ?_
            go_wp2_with (first
              | (refine wpList_store_row rfl 46 _ _ rfl (x + 1) mmv.toArray rfl rfl 46 zeroMkA hWd2.res hmi.out hmz.out hm1.out ?_))
            have hres3 : (we.setRow (x + 1) mmv.toArray).heap[x + 1]? = some (.cells mmv.toArray 46 (0, 0)) := setRow_heap _ _ _ _ _ _ hWd2.res
            have hg3 : we.grownBy (we.setRow (x + 1) mmv.toArray) (some (x + 1)) := ⟨rfl, rfl, rfl, by simp, fun k _ hne => setRow_other we (x + 1) k _ (fun e => hne (by rw [e]))⟩
            have hown3 := hWd2.own.kept hg3 (by
              cases hv : v6.ownBlock with
              | none => exact .inl rfl
              | some j => exact .inr (fun e => by have := (hWd2.own.lt j hv).1; simp only [Option.some.injEq] at e; omega))
            have hbd3 : Below w.heap.size w (we.setRow (x + 1) mmv.toArray) := below_setRow hbd2 (by have := Hx.out; omega) _
            generalize we.setRow (x + 1) mmv.toArray = wf at hres3 hown3 hbd3 ⊢
            obtain ⟨bp2, c, rfl, hl2, hS, h0⟩ := strs_of_own hown3
            rw [hR]
            refine bodyPost_ret (v := .tuple #[.slice bp2 (ts ++ [txt]).length c, .agg mmv.toArray]) ?_ rfl ⟨bp2, c, by rw [Hmmv.out], hS, h0, hbd3⟩
            exact results_tmp_cell_row (ty := 46) rfl _ _ (x + 1) 46 _ (0, 0) _ rfl hres3 Tryd.underlying46 rfl hmi.out _ rfl
          | true =>
            have hR := HC.out
            rw [chainAll_goes (hhold.2 rfl) hfr, ← Htxt.out, hkO, HT.out] at hR
            have HR9 := Lib.hid hR
            obtain ⟨s, hs⟩ : ∃ s, mm.place + TT = s := ⟨_, rfl⟩
            obtain ⟨r, hr⟩ : ∃ r, s % n = r := ⟨_, rfl⟩
            obtain ⟨N, hN⟩ : ∃ N, (mm.num + 1) % 18446744073709551616 = N := ⟨_, rfl⟩
            have hm2 : behind n mm k (dig txt) = ⟨r, N, dig txt⟩ := by unfold behind; rw [HT.out, hs, hr, hN]
            have hrn : r < n := by rw [← hr]; exact Nat.mod_lt _ hn1
            have hNl : N < 18446744073709551616 := by rw [← hN]; exact Nat.mod_lt _ (by omega)
            rw [hm2] at HR9
            have w1 : IntKind.i64.wrap ((mm.place : Int) + (TT : Int)) = (s : Int) := by rw [IntWalk.i64_in _ (by omega)]; omega
            have w1b : IntKind.i64.wrap (s : Int) = (s : Int) := IntWalk.i64_in _ (by omega)
            have w4 : (s : Int) % (n : Int) = (r : Int) := by rw [← hr]; omega
            have w5 : (s : Int).tmod (n : Int) = (r : Int) := by rw [Int.tmod_eq_emod_of_nonneg (by omega), w4]
            have w5b : IntKind.i64.wrap (r : Int) = (r : Int) := IntWalk.i64_in _ (by omega)
            have wN : IntKind.u64.wrap ((mm.num : Int) + 1) = (N : Int) := by rw [IntKind.wrap_u64, ← hN]; omega
            have wNb : IntKind.u64.wrap (N : Int) = (N : Int) := by rw [IntKind.wrap_u64]; omega
            have wS : IntKind.i64.wrap ((gk : Int) - (TT : Int)) = ((gk - TT : Nat) : Int) := by rw [IntWalk.i64_in _ (by omega)]; omega
            obtain ⟨fr2, hfr2⟩ : ∃ fr2, gk - TT = fr2 := ⟨_, rfl⟩
            rw [hfr2] at wS HR9
            obtain ⟨mc, Hmc⟩ : ∃ mc : List Value, Hid (mc = markCells ⟨r, N, dig txt⟩) := ⟨_, rfl⟩
            have hmcl : mc.length = 34 := by rw [Hmc.out]; simp [markCells, dig_len]
            have HB := Lib.hid (built_mark ⟨r, N, dig txt⟩ (dig_len _))
            rw [← Hmc.out] at HB
            have hci : Hid ((Tryd.prog.info? 46).map (·.size) = some mc.toArray.size) := by rw [List.size_toArray, hmcl]; exact (by kernel_rfl : (Tryd.prog.info? 46).map (·.size) = some 34)
            have hcz : Hid ((markCells mm).toArray.size = mc.toArray.size) := by rw [List.size_toArray, List.size_toArray, hmcl]; show (markCells mm).length = 34; simp [markCells, hl]
            have hc1 : Hid (mc.toArray.all (·.oneCell') = true) := by rw [Hmc.out]; exact all_oneCell_toArray (mark_one _)
            clear hhold hR hs hr hN hmcl hm2
            go_wp2
            refine wp_region_still_tail 12 (by kernel_rfl) (by kernel_rfl) ?_
            have hb9 : Below w9.heap.size w9 { w9 with drawn := w9.drawn + 1 } := ⟨rfl, rfl, rfl, Nat.le_refl _, fun _ _ => rfl⟩
            have hWa := hW9.below hb9
            have hya : ({ w9 with drawn := w9.drawn + 1 } : World).heap[y]? = some (.cells rv 23 (0, 0)) := hy9
            obtain ⟨wz, hdr⟩ : ∃ wz : World, ({ w9 with drawn := w9.drawn + 1 } : World) = wz := ⟨_, rfl⟩
            rw [hdr] at hWa hya ⊢
            clear hdr hb9 hW9 hy9 hbd9 hx9
            have cpl : wz.cell? ⟨x, 0, none⟩ = some (.int .i64 mm.place) := by rw [cell_of_row wz x _ _ _ _ hWa.box]; rfl
            have cnm : wz.cell? ⟨x, 1, none⟩ = some (.int .u64 mm.num) := by rw [cell_of_row wz x _ _ _ _ hWa.box]; rfl
            have HL := Lib.hid (run_loadAt_mid (P := Tryd.prog) wz y 0 23 rv.toList _ (fun j v hj => by rw [Nat.zero_add, cell_of_row wz y j _ _ _ hya]; simpa using hj) Tryd.underlying23 rfl (by rw [Array.length_toList]; exact hdi.out))
            simp only [List.take_succ_cons, List.take_zero, List.drop_succ_cons, List.drop_zero]
            iterate 3 still_step
            still_call (hone wz)
            iterate 6 still_step
            refine wpStill_val rfl (v := .agg rv) ?_ ?_
            · unfold execOp
              rw [Sem.run_bind]
              exact (congrArg (fun r : Result Value => r.andThen fun v w' => (pure (Next.value v) : Sem Next).run Tryd.prog w') HL.out).trans rfl
            refine wpStill_val rfl (v := .agg mc.toArray) ?_ ?_
            · exact exec_build wz rfl (Eq.trans (congrArg (Program.built _ _) (by simp [Act.eval, Act.put]; exact Hdv.out)) HB.out)
            refine wpStill_nil ?_
            have HWz := Lib.hid hWa
            have hbW : Below wz.heap.size wz wz := Below.refl _ _
            clear hWa hya HL HB cpl cnm hdi Hdv
            go_wp2_with (first
              | (refine wpList_store_row rfl 46 _ _ rfl x mc.toArray rfl rfl 46 (markCells mm).toArray HWz.out.box hci.out hcz.out hc1.out ?_)
              | (go_at_call 21; refine (hone _).mono ?_; rintro e w' ⟨rfl, rfl⟩))
            have hg3 : wz.grownBy (wz.setRow x mc.toArray) (some x) := ⟨rfl, rfl, rfl, by simp, fun k _ hne => setRow_other wz x k _ (fun e => hne (by rw [e]))⟩
            have hown3 := HWz.out.own.kept hg3 (by
              cases hv : v6.ownBlock with
              | none => exact .inl rfl
              | some j => exact .inr (fun e => by have := (HWz.out.own.lt j hv).1; simp only [Option.some.injEq] at e; omega))
            have hlz := HWz.out.lt
            have hWf : ChW x ⟨r, N, dig txt⟩ v6 (ts ++ [txt]) w (wz.setRow x mc.toArray) :=
              ⟨by rw [← Hmc.out]; exact setRow_heap _ _ _ _ _ _ HWz.out.box, (hg3.block (x + 1) (by omega) (by simp)).trans HWz.out.res, hown3, below_setRow HWz.out.bel (Nat.le_refl _) _⟩
            go_roundg fr2
            case measure => omega
            case rel => exact ⟨fr2, ⟨r, N, dig txt⟩, ts ++ [txt], by omega, rfl, by go_num, hrn, hNl, dig_len _, by show R = _; rw [HR9.out, List.append_assoc]; rfl, by simp; omega, hWf⟩
    -- what is left: nothing begins here
    all_goals
      have hR := HC.out
      rw [chainAll_stop hnb, List.append_nil] at hR
      obtain ⟨mmv, Hmmv⟩ : ∃ mmv : List Value, Hid (mmv = markCells mm) := ⟨_, rfl⟩
      have hmml : mmv.length = 34 := by rw [Hmmv.out]; simp [markCells, hl]
      have hbx := HWd.out.box
      rw [← Hmmv.out] at hbx
      have hWd2 : ChW x mm u10 ts w ({ wd with drawn := wd.drawn + 1 } : World) := HWd.out.below ⟨rfl, rfl, rfl, Nat.le_refl _, fun _ _ => rfl⟩
      have hbd2 : Below w.heap.size w ({ wd with drawn := wd.drawn + 1 } : World) := hbd.trans (Below.mono ⟨rfl, rfl, rfl, Nat.le_refl _, fun _ _ => rfl⟩ hbd.size)
      have hbx2 : ({ wd with drawn := wd.drawn + 1 } : World).heap[x]? = some (.cells mmv.toArray 46 (0, 0)) := hbx
      refine wp_region_still_tail 3 (by kernel_rfl) (by kernel_rfl) ?_
      obtain ⟨we, hde⟩ : ∃ we : World, ({ wd with drawn := wd.drawn + 1 } : World) = we := ⟨_, rfl⟩
      rw [hde] at hWd2 hbd2 hbx2 ⊢
      have HLm : Hid ((loadVar 46 ⟨x, 0, none⟩).run Tryd.prog we = .ok (.agg mmv.toArray) we) :=
        run_loadAt_mid (P := Tryd.prog) we x 0 46 mmv _ (fun j v hj => by rw [Nat.zero_add, cell_of_row we x j _ _ _ hbx2]; simpa using hj) Tryd.underlying46 rfl (by rw [hmml]; kernel_rfl)
      have hmi : Hid ((Tryd.prog.info? 46).map (·.size) = some mmv.toArray.size) := by rw [List.size_toArray, hmml]; exact (by kernel_rfl : (Tryd.prog.info? 46).map (·.size) = some 34)
      have hmz : Hid (zeroMkA.size = mmv.toArray.size) := by rw [show mmv.toArray.size = 34 from by rw [List.size_toArray, hmml]]; exact (rfl : zeroMkA.size = 34)
      have hm1 : Hid (mmv.toArray.all (·.oneCell') = true) := by rw [Hmmv.out]; exact all_oneCell_toArray (mark_one mm)
      clear hde hbx hbx2 HWd hbd Hcall hmml
      simp only [List.take_succ_cons, List.take_zero, List.drop_succ_cons, List.drop_zero]
      still_step
      refine wpStill_val rfl (v := .agg mmv.toArray) ?_ ?_
      · unfold execOp
        rw [Sem.run_bind]
        exact (congrArg (fun r : Result Value => r.andThen fun v w' => (pure (Next.value v) : Sem Next).run Tryd.prog w') HLm.out).trans rfl
      still_step
      refine wpStill_nil ?_
      go_wp2_with (first
        | (refine wpList_store_row rfl 46 _ _ rfl (x + 1) mmv.toArray rfl rfl 46 zeroMkA hWd2.res hmi.out hmz.out hm1.out ?_))
      have hres3 : (we.setRow (x + 1) mmv.toArray).heap[x + 1]? = some (.cells mmv.toArray 46 (0, 0)) := setRow_heap _ _ _ _ _ _ hWd2.res
      have hg3 : we.grownBy (we.setRow (x + 1) mmv.toArray) (some (x + 1)) := ⟨rfl, rfl, rfl, by simp, fun k _ hne => setRow_other we (x + 1) k _ (fun e => hne (by rw [e]))⟩
      have hown3 := hWd2.own.kept hg3 (by
        cases hv : u10.ownBlock with
        | none => exact .inl rfl
        | some j => exact .inr (fun e => by have := (hWd2.own.lt j hv).1; simp only [Option.some.injEq] at e; omega))
      have hbd3 : Below w.heap.size w (we.setRow (x + 1) mmv.toArray) := below_setRow hbd2 (by have := Hx.out; omega) _
      generalize we.setRow (x + 1) mmv.toArray = wf at hres3 hown3 hbd3 ⊢
      obtain ⟨bp, c, rfl, hl2, hS, h0⟩ := strs_of_own hown3
      refine bodyPost_ret (v := .tuple #[.slice bp ts.length c, .agg mmv.toArray]) ?_ rfl ⟨bp, c, by rw [Hmmv.out], hS, h0, hbd3⟩
      exact results_tmp_cell_row (ty := 46) rfl _ _ (x + 1) 46 _ (0, 0) _ rfl hres3 Tryd.underlying46 rfl hmi.out _ rfl
end
end Go.Proofs.YtegdlpllljccgaaDoor
