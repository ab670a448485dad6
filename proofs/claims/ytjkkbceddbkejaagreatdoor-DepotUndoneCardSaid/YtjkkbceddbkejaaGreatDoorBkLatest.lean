/-
  Package pages: latest.
-/
import Derived.Test.YtjkkbceddbkejaaGreatDoorBkTitle
import Derived.Test.YtjkkbceddbkejaaGreatDoorBkOk
set_option linter.unusedSimpArgs false
set_option linter.unusedVariables false
namespace Go.Proofs.YtjkkbceddbkejaaGreatDoor
open Go.RowKit Sh Go.Extern.Stop Go.Stop Go.Extern

theorem eqIn64 (l1 l2 : List UInt8) (h1 : l1.length = 64) (h2 : l2.length = 64) (W : World) : (Op.equalIn 10000 33 (.agg (l1.map cu8).toArray) (.agg (l2.map cu8).toArray)).run Tryz.prog W = .ok (decide (l1 = l2)) W :=
  run_items (P := Tryz.prog) 33 5 64 Tryz.underlying33 Tryz.underlying5 (by kernel_rfl) l1 l2 h1 h2 W
structure LtW (x r y : Nat) (rr : Nat × Mk) (w wr : World) : Prop where
  res : wr.heap[r]? = some (.cells zMark.toArray 156 (0, 0))
  mkA : wr.heap[y]? = some (.cells (markCells rr.2).toArray 156 (0, 0))
  bel : Below x w wr
theorem LtW.lt {x r y : Nat} {rr : Nat × Mk} {w wr : World} (h : LtW x r y rr w wr) : r < wr.heap.size ∧ y < wr.heap.size := ⟨(Array.getElem?_eq_some_iff.1 h.res).1, (Array.getElem?_eq_some_iff.1 h.mkA).1⟩
theorem LtW.below {x r y : Nat} {rr : Nat × Mk} {w wr w' : World} (h : LtW x r y rr w wr) (hx : x ≤ r) (hb : Below wr.heap.size wr w') : LtW x r y rr w w' := by
  obtain ⟨h1, h2⟩ := h.lt
  exact ⟨(hb.block r h1).trans h.res, (hb.block y h2).trans h.mkA, h.bel.trans (hb.mono (by omega))⟩
def LatestP (rr : Nat × Mk) (n : Int) (w : World) (e : Ending) (w' : World) : Prop := ∃ v, e = .returned (.tuple #[.int .u64 rr.1, .agg (markCells rr.2).toArray, v]) ∧ ErrV w' n v ∧ Below w.heap.size w w'
theorem markInfo {m : Mk} (h : m.last.length = 32) : Hid ((Tryz.prog.info? 156).map (·.size) = some (markCells m).toArray.size) := by
  have e : (markCells m).toArray.size = 34 := by simp [markCells, h]
  rw [e]; exact infoPMark
theorem markSize {m m' : Mk} (h : m.last.length = 32) (h' : m'.last.length = 32) : Hid ((markCells m').toArray.size = (markCells m).toArray.size) := by
  have e : (markCells m').toArray.size = (markCells m).toArray.size := by simp [markCells, h, h']
  exact e
theorem markOne (m : Mk) : Hid ((markCells m).toArray.all (·.oneCell') = true) := all_oneCell_toArray (mark_one m)
section
variable {S : St} {F : Nat → Prop} {gd : Nat} {w : World}
set_option maxRecDepth 100000 in
set_option maxHeartbeats 8000000 in
/-- latest, of a disk that is on. -/
theorem latest_on (hD : PD S F gd w) (hB : Byt S) (ho : S.off = false) (hf : 2 ≤ S.firm.length) : Calls Tryz.prog 85 #[.pointer (some ⟨gd, 0, none⟩)] w (LatestP (latestB (imgB S)) 0 w) := by
  have hb2 : Below w.heap.size w ((w.alloc (.cells zMark.toArray 156)).alloc (.cells zMark.toArray 156)) := ((Below.refl _ _).alloc (Nat.le_refl _) _).alloc (by simp) _
  have hr2 : ((w.alloc (.cells zMark.toArray 156)).alloc (.cells zMark.toArray 156)).heap[w.heap.size]? = some (.cells zMark.toArray 156 (0, 0)) := by
    rw [Below.heap_alloc _ _ _ (by simp)]; exact heap_alloc_new _ _
  have hy2 : ((w.alloc (.cells zMark.toArray 156)).alloc (.cells zMark.toArray 156)).heap[w.heap.size + 1]? = some (.cells zMark.toArray 156 (0, 0)) := by
    have := heap_alloc_new (w.alloc (.cells zMark.toArray 156)) (.cells zMark.toArray 156)
    simpa using this
  obtain ⟨zm, Hzm⟩ : ∃ zm : Array Value, Hid (zm = zMark.toArray) := ⟨_, rfl⟩
  have halm : ∀ w : World, (Instr.alloc 156 true (.tuple #[])).run Tryz.prog w = .ok (.pointer (some ⟨w.heap.size, 0, none⟩)) (w.alloc (.cells zm 156)) := by rw [Hzm.out]; exact allocMark
  rw [← Hzm.out] at hb2 hr2 hy2
  go_enter Tryz.func85, Tryz.ntmps85
  go_upto_region 3 with (first
    | (refine wpList_alloc_arr rfl 156 rfl _ halm ?_))
  try simp only [World.size_alloc]
  generalize (w.alloc (.cells zm 156)).alloc (.cells zm 156) = wa at hb2 hr2 hy2 ⊢
  obtain ⟨y, hy⟩ : ∃ y, w.heap.size + 1 = y := ⟨_, rfl⟩
  obtain ⟨r, hr⟩ : ∃ r, w.heap.size = r := ⟨_, rfl⟩
  rw [hy] at hy2 ⊢
  rw [hr] at hr2 hb2 ⊢
  have hry : r < y := by omega
  have Hr := Lib.hid hr
  clear hy hr
  rw [Hzm.out] at hr2 hy2
  have hW0 : LtW r r y (0, ⟨0, 0, List.replicate 32 0⟩) w wa := ⟨hr2, hy2, hb2⟩
  have hrr0 : (0 : Nat) < 18446744073709551616 ∧ (0 : Nat) < 18446744073709551616 ∧ (0 : Nat) < 65536 ∧ (List.replicate 32 (0 : UInt8)).length = 32 := by simp
  clear hb2 hr2 hy2
  go_wp2
  go_loopg [12, 5] 2 (fun gg i g wr => ∃ (k : Nat) (rr : Nat × Mk), k ≤ 2 ∧ gg = 2 - k ∧ i = .int .i64 k ∧ g = .int .u64 (rr.1 : Nat) ∧ LtW r r y rr w wr ∧ (rr.1 < 18446744073709551616 ∧ rr.2.num < 18446744073709551616 ∧ rr.2.place < 65536 ∧ rr.2.last.length = 32) ∧
    Hid (rr = if k = 0 then (0, ⟨0, 0, List.replicate 32 0⟩) else if k = 1 then laterB ((imgB S).getD 0 []) (0, ⟨0, 0, List.replicate 32 0⟩) else latestB (imgB S)))
  case atStart => exact ⟨0, (0, ⟨0, 0, List.replicate 32 0⟩), by omega, rfl, rfl, rfl, hW0, hrr0, rfl⟩
  case round =>
    clear hW0 hrr0
    obtain ⟨k, rr, hk, rfl, rfl, rfl, hW, hrr, Hrr⟩ := hrel
    obtain ⟨g, m⟩ := rr
    by_cases hlt : k < 2
    · have hlt' : (k : Int) < 2 := by omega
      obtain ⟨p, Hp⟩ : ∃ p, Hid (p = (imgB S).getD k []) := ⟨_, rfl⟩
      have hp : p.length = 64 := by rw [Hp.out]; exact (imgB_get hB (show k < S.firm.length by omega)).2
      have hnext : Hid (∀ r2 : Nat × Mk, r2 = laterB p (g, m) → r2 = if k + 1 = 0 then (0, ⟨0, 0, List.replicate 32 0⟩) else if k + 1 = 1 then laterB ((imgB S).getD 0 []) (0, ⟨0, 0, List.replicate 32 0⟩) else latestB (imgB S)) := by
        intro r2 h2
        have e := Hrr.out
        rw [h2, e, Hp.out]
        rcases Nat.lt_or_ge k 1 with h0 | h0
        · obtain rfl : k = 0 := by omega
          rfl
        · obtain rfl : k = 1 := by omega
          rfl
      have hrd := pd_read (hD.below (by have := hW.bel; rw [← Hr.out] at this; exact this)) (k : Int)
      rw [img_read hB ho (show k < S.firm.length by omega), ← Hp.out] at hrd
      obtain ⟨pv, Hpv⟩ : ∃ pv : List Value, Hid (pv = p.map cu8) := ⟨_, rfl⟩
      have hpvl : pv.length = 64 := by rw [Hpv.out, List.length_map, hp]
      rw [← Hpv.out] at hrd
      have Hrd := Lib.hid hrd
      have hpi : Hid ((Tryz.prog.info? 33).map (·.size) = some pv.toArray.size) := by rw [List.size_toArray, hpvl]; exact info64
      have hpz : Hid (zeros64.size = pv.toArray.size) := by
        have e : pv.toArray.size = 64 := by rw [List.size_toArray, hpvl]
        rw [e]; exact (rfl : zeros64.size = 64)
      have hp1 : Hid (pv.toArray.all (·.oneCell') = true) := by rw [Hpv.out]; exact bytes_one _
      clear hrd Hrr
      go_wp2_with (first
        | (go_at_call 111; refine Hrd.out.mono ?_))
      rintro e w3 ⟨ev, rfl, hE3, hb3⟩
      obtain rfl := ErrV.zero hE3
      have hW3 := hW.below (Nat.le_refl _) hb3
      clear Hrd hW hE3 hb3
      -- the page
      go_upto_region 7 with (first
        | (refine wpList_alloc_arr rfl 33 rfl _ alloc64 ?_)
        | (refine wpList_store_new rfl 33 _ _ rfl w3.heap.size rfl pv.toArray rfl rfl 33 _ hpi.out hpz.out hp1.out ?_))
      have hb4 : Below w3.heap.size w3 (w3.alloc (.cells pv.toArray 33)) := (Below.refl _ _).alloc (Nat.le_refl _) _
      have hx4 : (w3.alloc (.cells pv.toArray 33)).heap[w3.heap.size]? = some (.cells pv.toArray 33 (0, 0)) := heap_alloc_new w3 _
      have hW4 := hW3.below (Nat.le_refl _) hb4
      generalize w3.alloc (.cells pv.toArray 33) = w4 at hb4 hx4 hW4 ⊢
      obtain ⟨x, hx⟩ : ∃ x, w3.heap.size = x := ⟨_, rfl⟩
      rw [hx] at hx4 ⊢
      clear hb4 hW3 hx
      have Htd := Lib.hid (told_any p hp w4)
      have hpV : pageV p = .agg pv.toArray := by rw [Hpv.out]; rfl
      rw [hpV] at Htd
      obtain ⟨G, hG⟩ : ∃ G, (toldB p).1 = G := ⟨_, rfl⟩
      obtain ⟨m2, hm2⟩ : ∃ m2, (toldB p).2 = m2 := ⟨_, rfl⟩
      have hto := told_ok hp
      unfold ToldP at Htd
      rw [hG, hm2] at Htd hto
      obtain ⟨mv, Hmv⟩ : ∃ mv : List Value, Hid (mv = markCells m2) := ⟨_, rfl⟩
      rw [← Hmv.out] at Htd
      have hmi : Hid ((Tryz.prog.info? 156).map (·.size) = some mv.toArray.size) := by rw [Hmv.out]; exact markInfo hto.2.2.2
      have hmz : Hid (zm.size = mv.toArray.size) := by rw [Hmv.out, Hzm.out]; exact markSize hto.2.2.2 (List.length_replicate)
      have hm1 : Hid (mv.toArray.all (·.oneCell') = true) := by rw [Hmv.out]; exact markOne m2
      go_wp2_with (first
        | (refine wpList_load_row rfl 33 _ rfl x rfl 33 pv.toArray (0, 0) _ hx4 Tryz.underlying33 rfl hpi.out ?_)
        | (go_at_call 112; refine Htd.out.mono ?_))
      rintro e w5 ⟨rfl, hb5⟩
      have hW5 := hW4.below (Nat.le_refl _) hb5
      have hx5 := (hb5.block x (Array.getElem?_eq_some_iff.1 hx4).1).trans hx4
      clear Htd hW4 hx4 hb5 hpV
      go_upto_region 10 with (first
        | (refine wpList_alloc_arr rfl 156 rfl _ halm ?_)
        | (refine wpList_store_new rfl 156 _ _ rfl w5.heap.size rfl mv.toArray rfl rfl 156 _ hmi.out hmz.out hm1.out ?_))
      have hb6 : Below w5.heap.size w5 (w5.alloc (.cells mv.toArray 156)) := (Below.refl _ _).alloc (Nat.le_refl _) _
      have hu6 : (w5.alloc (.cells mv.toArray 156)).heap[w5.heap.size]? = some (.cells mv.toArray 156 (0, 0)) := heap_alloc_new w5 _
      have hW6 := hW5.below (Nat.le_refl _) hb6
      have hx6 := (hb6.block x (Array.getElem?_eq_some_iff.1 hx5).1).trans hx5
      generalize w5.alloc (.cells mv.toArray 156) = w6 at hb6 hu6 hW6 hx6 ⊢
      obtain ⟨u, hu⟩ : ∃ u, w5.heap.size = u := ⟨_, rfl⟩
      rw [hu] at hu6 ⊢
      clear hb6 hW5 hx5 hu hpz hp1 hmz
      have HG := Lib.hid hG; have Hm2 := Lib.hid hm2
      have hg64 := hrr.1; have hG64 := hto.1
      clear hG hm2
      by_cases hgt : g < G
      · have hgt' : (g : Int) < (G : Int) := by omega
        obtain ⟨bb, Hbb⟩ : ∃ bb : Bool, Hid (bb = decide (p = titleB G m2)) := ⟨_, rfl⟩
        obtain ⟨tv, Htv⟩ : ∃ tv : List Value, Hid (tv = (titleB G m2).map cu8) := ⟨_, rfl⟩
        have heq : ∀ W : World, (Op.equalIn 10000 33 (.agg pv.toArray) (.agg tv.toArray)).run Tryz.prog W = .ok bb W := fun W => by
          rw [Hpv.out, Htv.out, Hbb.out]; exact eqIn64 p (titleB G m2) hp (titleB_len hto.2.2.2) W
        have Hti := Lib.hid (fun W => title_any G m2 hto.2.2.2 hto.2.2.1 W)
        unfold TitleP at Hti
        have htV : pageV (titleB G m2) = .agg tv.toArray := by rw [Htv.out]; rfl
        rw [htV, ← Hmv.out] at Hti
        have hxl : x < w6.heap.size := (Array.getElem?_eq_some_iff.1 hx6).1
        have hul : u < w6.heap.size := (Array.getElem?_eq_some_iff.1 hu6).1
        refine wp_region_held (S := fun w' => Below w6.heap.size w6 w') (by kernel_rfl) ?_
        have hb7 : Below w6.heap.size w6 { w6 with drawn := w6.drawn + 1 } := ⟨rfl, rfl, rfl, Nat.le_refl _, fun _ _ => rfl⟩
        obtain ⟨wd, hdr⟩ : ∃ wd : World, ({ w6 with drawn := w6.drawn + 1 } : World) = wd := ⟨_, rfl⟩
        rw [hdr] at hb7 ⊢
        have Hl1 := Lib.hid (fun W (hW : Below w6.heap.size w6 W) => run_loadAt_mid (P := Tryz.prog) W x 0 33 pv _ (fun j v hj => by rw [Nat.zero_add, cell_of_row W x j _ _ _ ((hW.block x hxl).trans hx6)]; simpa using hj) Tryz.underlying33 rfl (by rw [hpvl]; exact info64))
        have Hl2 := Lib.hid (fun W (hW : Below w6.heap.size w6 W) => run_loadAt_mid (P := Tryz.prog) W u 0 156 mv _ (fun j v hj => by rw [Nat.zero_add, cell_of_row W u j _ _ _ ((hW.block u hul).trans hu6)]; simpa using hj) Tryz.underlying156 rfl (by have := hmi.out; rwa [List.size_toArray] at this))
        clear hdr htV hD
        refine wpAnyH_take (i := 0) (v := .int .u64 (G : Nat)) rfl (by kernel_rfl) (by kernel_rfl) (by kernel_rfl) (fun _ _ _ h => h) (Or.inl ⟨by rfl, ?_⟩) hb7 ?_
        · intro w' _; go_simp
        try simp only [List.getElem_toArray, List.getElem_cons_succ, List.getElem_cons_zero, Act.put, List.setIfInBounds_toArray, List.set]
        refine wpAnyH_take (i := 1) (v := .int .u64 (g : Nat)) rfl (by kernel_rfl) (by kernel_rfl) (by kernel_rfl) (fun _ _ _ h => h) (Or.inl ⟨by rfl, ?_⟩) hb7 ?_
        · intro w' _; go_simp
        try simp only [List.getElem_toArray, List.getElem_cons_succ, List.getElem_cons_zero, Act.put, List.setIfInBounds_toArray, List.set]
        refine wpAnyH_take (i := 2) (v := .bool true) rfl (by kernel_rfl) (by kernel_rfl) (by kernel_rfl) (fun _ _ _ h => h) (Or.inl ⟨by rfl, ?_⟩) hb7 ?_
        · intro w' _; go_simp
        try simp only [List.getElem_toArray, List.getElem_cons_succ, List.getElem_cons_zero, Act.put, List.setIfInBounds_toArray, List.set]
        refine wpAnyH_take (i := 3) (v := .bool true) rfl (by kernel_rfl) (by kernel_rfl) (by kernel_rfl) (fun _ _ _ h => h) (Or.inl ⟨by rfl, ?_⟩) hb7 ?_
        · intro w' _; go_simp
        try simp only [List.getElem_toArray, List.getElem_cons_succ, List.getElem_cons_zero, Act.put, List.setIfInBounds_toArray, List.set]
        refine wpAnyH_take (i := 4) (v := .agg pv.toArray) rfl (by kernel_rfl) (by kernel_rfl) (by kernel_rfl) (fun _ _ _ h => h) (Or.inl ⟨by rfl, ?_⟩) hb7 ?_
        · intro w' hS'; exact exec_load _ _ 33 _ rfl x 0 rfl _ (Hl1.out w' hS')
        try simp only [List.getElem_toArray, List.getElem_cons_succ, List.getElem_cons_zero, Act.put, List.setIfInBounds_toArray, List.set]
        refine wpAnyH_take (i := 5) (v := .int .u64 (G : Nat)) rfl (by kernel_rfl) (by kernel_rfl) (by kernel_rfl) (fun _ _ _ h => h) (Or.inl ⟨by rfl, ?_⟩) hb7 ?_
        · intro w' _; go_simp
        try simp only [List.getElem_toArray, List.getElem_cons_succ, List.getElem_cons_zero, Act.put, List.setIfInBounds_toArray, List.set]
        refine wpAnyH_take (i := 6) (v := .agg mv.toArray) rfl (by kernel_rfl) (by kernel_rfl) (by kernel_rfl) (fun _ _ _ h => h) (Or.inl ⟨by rfl, ?_⟩) hb7 ?_
        · intro w' hS'; exact exec_load _ _ 156 _ rfl u 0 rfl _ (Hl2.out w' hS')
        try simp only [List.getElem_toArray, List.getElem_cons_succ, List.getElem_cons_zero, Act.put, List.setIfInBounds_toArray, List.set]
        refine wpAnyH_oneR 7 _ rfl (by kernel_rfl) (by rfl) (fun K hK => ?_)
        go_simp
        refine (Hti.out _).mono ?_
        rintro e w8 ⟨rfl, hq⟩
        have hb8 := hb7.trans (hq.mono hb7.size)
        refine hK _ _ hb8 ?_
        clear hK K
        try simp only [List.getElem_toArray, List.getElem_cons_succ, List.getElem_cons_zero, Act.put, List.setIfInBounds_toArray, List.set]
        clear hq
        refine wpAnyH_take (i := 8) (v := .bool bb) rfl (by kernel_rfl) (by kernel_rfl) (by kernel_rfl) (fun _ _ _ h => h) (Or.inl ⟨by rfl, ?_⟩) hb8 ?_
        · intro w' _; go_simp
        try simp only [List.getElem_toArray, List.getElem_cons_succ, List.getElem_cons_zero, Act.put, List.setIfInBounds_toArray, List.set]
        refine wpAnyH_take (i := 9) (v := .bool bb) rfl (by kernel_rfl) (by kernel_rfl) (by kernel_rfl) (fun _ _ _ h => h) (Or.inl ⟨by rfl, ?_⟩) hb8 ?_
        · intro w' _; go_simp
        try simp only [List.getElem_toArray, List.getElem_cons_succ, List.getElem_cons_zero, Act.put, List.setIfInBounds_toArray, List.set]
        refine wpAnyH_done (by kernel_rfl) ?_ _
        have hW8 := hW6.below (Nat.le_refl _) hb8
        have hu8 := (hb8.block u hul).trans hu6
        clear hW6 hu6 hx6 Hl1 Hl2 hb8 hb7 heq
        cases bb with
        | true =>
          have hbb : p = titleB G m2 := by simpa using Hbb.out.symm
          go_upto_region 11 with (fail)
          have hb9 : Below w8.heap.size w8 { w8 with drawn := w8.drawn + 1 } := ⟨rfl, rfl, rfl, Nat.le_refl _, fun _ _ => rfl⟩
          obtain ⟨wd, hdr⟩ : ∃ wd : World, ({ w8 with drawn := w8.drawn + 1 } : World) = wd := ⟨_, rfl⟩
          refine wp_region_up 3 (fun v => v = wd) (by kernel_rfl) ?_
          rw [hdr] at hb9 ⊢
          have hW9 := hW8.below (Nat.le_refl _) hb9
          have hu9 := (hb9.block u (Array.getElem?_eq_some_iff.1 hu8).1).trans hu8
          have Hl3 := Lib.hid (run_loadAt_mid (P := Tryz.prog) wd u 0 156 mv _ (fun j v hj => by rw [Nat.zero_add, cell_of_row wd u j _ _ _ hu9]; simpa using hj) Tryz.underlying156 rfl (by have := hmi.out; rwa [List.size_toArray] at this))
          have hmz : Hid ((markCells m).toArray.size = mv.toArray.size) := by rw [Hmv.out]; exact markSize hto.2.2.2 hrr.2.2.2
          have hS : wd = wd := rfl
          clear hdr hW8 hu8
          refine up_take (i := 0) (v := .int .u64 (G : Nat)) rfl (by kernel_rfl) (by kernel_rfl) (fun _ _ _ h => h) (Or.inl ⟨by rfl, ?_⟩) hS ?_
          · intro w' _; go_simp
          try simp only [List.getElem_toArray, List.getElem_cons_succ, List.getElem_cons_zero, Act.put, List.setIfInBounds_toArray, List.set]
          refine up_take (i := 1) (v := .agg mv.toArray) rfl (by kernel_rfl) (by kernel_rfl) (fun _ _ _ h => h) (Or.inl ⟨by rfl, ?_⟩) hS ?_
          · intro w' hS'; subst hS'; exact exec_load _ _ 156 _ rfl u 0 rfl _ Hl3.out
          try simp only [List.getElem_toArray, List.getElem_cons_succ, List.getElem_cons_zero, Act.put, List.setIfInBounds_toArray, List.set]
          refine up_take (i := 2) (v := .int .u64 (G : Nat)) rfl (by kernel_rfl) (by kernel_rfl) (fun _ _ _ h => h) (Or.inl ⟨by rfl, ?_⟩) hS ?_
          · intro w' _; go_simp
          try simp only [List.getElem_toArray, List.getElem_cons_succ, List.getElem_cons_zero, Act.put, List.setIfInBounds_toArray, List.set]
          refine up_tail ?_
          refine up_last 3 _ rfl (by kernel_rfl) (by decide) (by rfl) (fun K hK => ?_)
          refine wp_store_whole 156 _ _ rfl y mv.toArray rfl rfl (markCells m).toArray 156 hW9.mkA hmi.out hmz.out hm1.out ?_
          intro w10 Hs10 Hg10
          refine hK _ _ ?_
          clear hK K
          try simp only [List.getElem_toArray, List.getElem_cons_succ, List.getElem_cons_zero, Act.put, List.setIfInBounds_toArray, List.set]
          refine up_done (by kernel_rfl) ?_ _
          have hlt9 := hW9.lt
          have hW10 : LtW r r y (G, m2) w w10 := by
            have e := Hs10.out
            rw [Hmv.out] at e
            exact ⟨(Hg10.out.block r (by omega) (by simp; omega)).trans hW9.res, e, below_of_grown hW9.bel Hg10.out (by omega) (by omega)⟩
          clear hW9 hu9 Hs10 Hg10 Hl3
          go_wp2
          go_roundg (2 - (k + 1))
          case measure => omega
          case rel => exact ⟨k + 1, (G, m2), by omega, rfl, by go_num, rfl, hW10, hto, hnext.out _ (by unfold laterB; rw [HG.out, Hm2.out, if_pos ⟨hgt, hbb⟩, ← HG.out, ← Hm2.out])⟩
        | false =>
          have hbb : ¬ p = titleB G m2 := by simpa using Hbb.out.symm
          go_wp2
          go_roundg (2 - (k + 1))
          case measure => omega
          case rel => exact ⟨k + 1, (g, m), by omega, rfl, by go_num, rfl, hW8, hrr, hnext.out _ (by unfold laterB; rw [HG.out, Hm2.out, if_neg (fun h => hbb h.2)])⟩
      · have hgt' : ¬ (g : Int) < (G : Int) := by omega
        clear hx6 hu6 hD
        go_quiet (fail)
        go_wp2
        go_roundg (2 - (k + 1))
        case measure => omega
        case rel => exact ⟨k + 1, (g, m), by omega, rfl, by go_num, rfl, hW6.below (Nat.le_refl _) ⟨rfl, rfl, rfl, Nat.le_refl _, fun _ _ => rfl⟩, hrr, hnext.out _ (by unfold laterB; rw [HG.out, if_neg (fun h => hgt h.1)])⟩
    · obtain rfl : k = 2 := by omega
      have hout : ((g, m) : Nat × Mk) = latestB (imgB S) := Hrr.out
      have Hout := Lib.hid hout
      clear Hrr hout hD
      go_upto_region 13 with (fail)
      have hb9 : Below wr.heap.size wr { wr with drawn := wr.drawn + 1 } := ⟨rfl, rfl, rfl, Nat.le_refl _, fun _ _ => rfl⟩
      obtain ⟨wd, hdr⟩ : ∃ wd : World, ({ wr with drawn := wr.drawn + 1 } : World) = wd := ⟨_, rfl⟩
      refine wp_region_up 3 (fun v => v = wd) (by kernel_rfl) ?_
      rw [hdr] at hb9 ⊢
      have hW9 := hW.below (Nat.le_refl _) hb9
      obtain ⟨mv, Hmv⟩ : ∃ mv : List Value, Hid (mv = markCells m) := ⟨_, rfl⟩
      have hmi : Hid ((Tryz.prog.info? 156).map (·.size) = some mv.toArray.size) := by rw [Hmv.out]; exact markInfo hrr.2.2.2
      have hmz : Hid (zm.size = mv.toArray.size) := by rw [Hmv.out, Hzm.out]; exact markSize hrr.2.2.2 (List.length_replicate)
      have hm1 : Hid (mv.toArray.all (·.oneCell') = true) := by rw [Hmv.out]; exact markOne m
      have hy9 := hW9.mkA
      rw [show (g, m).2 = m from rfl, ← Hmv.out] at hy9
      have Hl3 := Lib.hid (run_loadAt_mid (P := Tryz.prog) wd y 0 156 mv _ (fun j v hj => by rw [Nat.zero_add, cell_of_row wd y j _ _ _ hy9]; simpa using hj) Tryz.underlying156 rfl (by have := hmi.out; rwa [List.size_toArray] at this))
      have hres9 := hW9.res
      rw [← Hzm.out] at hres9
      have hS : wd = wd := rfl
      clear hdr hW
      refine up_take (i := 0) (v := .int .u64 (g : Nat)) rfl (by kernel_rfl) (by kernel_rfl) (fun _ _ _ h => h) (Or.inl ⟨by rfl, ?_⟩) hS ?_
      · intro w' _; go_simp
      try simp only [List.getElem_toArray, List.getElem_cons_succ, List.getElem_cons_zero, Act.put, List.setIfInBounds_toArray, List.set]
      refine up_take (i := 1) (v := .agg mv.toArray) rfl (by kernel_rfl) (by kernel_rfl) (fun _ _ _ h => h) (Or.inl ⟨by rfl, ?_⟩) hS ?_
      · intro w' hS'; subst hS'; exact exec_load _ _ 156 _ rfl y 0 rfl _ Hl3.out
      try simp only [List.getElem_toArray, List.getElem_cons_succ, List.getElem_cons_zero, Act.put, List.setIfInBounds_toArray, List.set]
      refine up_take (i := 2) (v := .int .u64 (g : Nat)) rfl (by kernel_rfl) (by kernel_rfl) (fun _ _ _ h => h) (Or.inl ⟨by rfl, ?_⟩) hS ?_
      · intro w' _; go_simp
      try simp only [List.getElem_toArray, List.getElem_cons_succ, List.getElem_cons_zero, Act.put, List.setIfInBounds_toArray, List.set]
      refine up_tail ?_
      refine up_last 3 _ rfl (by kernel_rfl) (by decide) (by rfl) (fun K hK => ?_)
      refine wp_store_whole 156 _ _ rfl r mv.toArray rfl rfl zm 156 hres9 hmi.out hmz.out hm1.out ?_
      intro w10 Hs10 Hg10
      refine hK _ _ ?_
      clear hK K
      try simp only [List.getElem_toArray, List.getElem_cons_succ, List.getElem_cons_zero, Act.put, List.setIfInBounds_toArray, List.set]
      refine up_last 4 _ rfl (by kernel_rfl) (by decide) (by rfl) (fun K hK => ?_)
      go_simp
      refine hK _ _ ?_
      clear hK K
      try simp only [List.getElem_toArray, List.getElem_cons_succ, List.getElem_cons_zero, Act.put, List.setIfInBounds_toArray, List.set]
      refine up_done (by kernel_rfl) ?_ _
      have hr10 := Hs10.out
      have hlt9 := hW9.lt
      have hb10 : Below r w w10 := below_of_grown hW9.bel Hg10.out (by omega) (by omega)
      clear hW9 Hs10 Hg10 Hl3 hy9 hres9
      go_wp2
      refine bodyPost_ret (v := .tuple #[.int .u64 (g : Nat), .agg mv.toArray, .nilIface]) ?_ rfl ⟨.nilIface, by rw [← Hout.out, Hmv.out], ErrV.nil, by rw [Hr.out]; exact hb10⟩
      exact results_tmp_cell_tmp (ty := 156) rfl _ _ r 156 _ (0, 0) _ rfl hr10 Tryz.underlying156 rfl hmi.out _ _ rfl rfl
end
end Go.Proofs.YtjkkbceddbkejaaGreatDoor
