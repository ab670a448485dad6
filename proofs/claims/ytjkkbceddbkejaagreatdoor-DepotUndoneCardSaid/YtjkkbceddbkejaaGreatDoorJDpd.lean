import Derived.Test.YtjkkbceddbkejaaGreatDoorJDpc
set_option linter.unusedSimpArgs false
set_option linter.unusedVariables false
/-
  Package depot: get.
-/
namespace Go.Proofs.YtjkkbceddbkejaaGreatDoor
open Go.RowKit Sh Go.Maps Go.Extern.Stop Go.Stop Go.Extern

def z64l : List UInt8 := List.replicate 64 0
/-- What get answers. -/
def getOf (hs : List (List UInt8)) (bl : Nat → List UInt8) (n : Nat) (i : Int) : List UInt8 × Int := if i < 0 ∨ (4 * n : Int) ≤ i then (z64l, 1) else if stS hs i.toNat = 1 then (bl i.toNat, 0) else (z64l, 23)
section
variable {b : Bk} {gd g first n x : Nat} {T : List (Nat × Obj)} {w0 w : World} {hs : List (List UInt8)} {bl : Nat → List UInt8}
set_option maxRecDepth 100000 in
set_option maxHeartbeats 8000000 in
theorem dget_out (h : DepAt x g first n w) (hn : n ≤ 64) (i : Int) (hi : i < 0 ∨ (4 * n : Int) ≤ i) :
    Calls Tryz.prog 38 #[.pointer (some ⟨x, 0, none⟩), .int .i64 i] w (PageP z64l 1 w) := by
  obtain ⟨hb1, hr1⟩ := page_box0 w
  obtain ⟨zv, Hz⟩ : ∃ zv : Array Value, Hid (zv = zeros64) := ⟨_, rfl⟩
  have hbz : Hid (Tryz.prog.built 33 [] = some zv) := by rw [Hz.out]; exact built64
  have hal : ∀ w : World, (Instr.alloc 33 true (.tuple #[])).run Tryz.prog w = .ok (.pointer (some ⟨w.heap.size, 0, none⟩)) (w.alloc (.cells zv 33)) := by rw [Hz.out]; exact alloc64
  rw [← Hz.out] at hb1 hr1
  have hzi : Hid ((Tryz.prog.info? 33).map (·.size) = some zv.size) := by rw [Hz.out, zerosV]; exact pageInfo (by simp)
  have hz1 : Hid (zv.all (·.oneCell') = true) := by rw [Hz.out, zerosV]; exact bytes_one _
  have Hr1 := Lib.hid hr1
  obtain ⟨_, _, c2⟩ := (h.below hb1).cells
  have w4 : IntKind.i64.wrap ((n : Int) * 4) = (n : Int) * 4 := IntWalk.i64_in _ (by omega)
  clear hr1 h
  by_cases h0 : i < 0
  · clear hi c2
    go_enter Tryz.func38, Tryz.ntmps38
    go_wp2_with (first
      | (refine wpList_alloc_arr rfl 33 rfl _ hal ?_)
      | (refine wpList_buildZ 33 rfl zv hbz.out (by rfl) ?_)
      | (refine wpList_store_row rfl 33 _ _ rfl w.heap.size zv rfl rfl 33 zv Hr1.out hzi.out rfl hz1.out ?_))
    have hb2 := below_setRow (g := w.heap.size) hb1 (Nat.le_refl _) zv
    refine bodyPost_ret (v := .tuple #[.agg zv, .iface 84 (.int .i64 1)]) ?_ rfl ⟨_, by rw [Hz.out, zerosV]; rfl, .inr ⟨by decide, [], rfl⟩, hb2⟩
    exact results_cell_row_tmp (ty := 33) rfl _ _ w.heap.size 33 _ (0, 0) _ rfl (setRow_heap _ _ _ _ _ _ Hr1.out) Tryz.underlying33 rfl hzi.out _ rfl
  · have h4 : (n : Int) * 4 ≤ i := by omega
    clear hi
    go_enter Tryz.func38, Tryz.ntmps38
    go_wp2_with (first
      | (refine wpList_alloc_arr rfl 33 rfl _ hal ?_)
      | (refine wpList_buildZ 33 rfl zv hbz.out (by rfl) ?_)
      | (refine wpList_store_row rfl 33 _ _ rfl w.heap.size zv rfl rfl 33 zv Hr1.out hzi.out rfl hz1.out ?_))
    have hb2 := below_setRow (g := w.heap.size) hb1 (Nat.le_refl _) zv
    refine bodyPost_ret (v := .tuple #[.agg zv, .iface 84 (.int .i64 1)]) ?_ rfl ⟨_, by rw [Hz.out, zerosV]; rfl, .inr ⟨by decide, [], rfl⟩, hb2⟩
    exact results_cell_row_tmp (ty := 33) rfl _ _ w.heap.size 33 _ (0, 0) _ rfl (setRow_heap _ _ _ _ _ _ Hr1.out) Tryz.underlying33 rfl hzi.out _ rfl
set_option maxRecDepth 100000 in
set_option maxHeartbeats 16000000 in
theorem OwnX.dget_in (h : OwnX b gd g T w0 w) (hT : (x, depO g first n) ∈ T) (hD : De b first n hs bl) (hf : first ≤ 2000) (hn : n ≤ 64) {s : Nat} (hs4 : s < 4 * n) :
    Calls Tryz.prog 38 #[.pointer (some ⟨x, 0, none⟩), .int .i64 s] w (PageP (if stS hs s = 1 then bl s else z64l) (if stS hs s = 1 then 0 else 23) w) := by
  obtain ⟨hb1, hr1⟩ := page_box0 w
  obtain ⟨zv, Hz⟩ : ∃ zv : Array Value, Hid (zv = zeros64) := ⟨_, rfl⟩
  have hbz : Hid (Tryz.prog.built 33 [] = some zv) := by rw [Hz.out]; exact built64
  have hal : ∀ w : World, (Instr.alloc 33 true (.tuple #[])).run Tryz.prog w = .ok (.pointer (some ⟨w.heap.size, 0, none⟩)) (w.alloc (.cells zv 33)) := by rw [Hz.out]; exact alloc64
  rw [← Hz.out] at hb1 hr1
  have hzi : Hid ((Tryz.prog.info? 33).map (·.size) = some zv.size) := by rw [Hz.out, zerosV]; exact pageInfo (by simp)
  have hz1 : Hid (zv.all (·.oneCell') = true) := by rw [Hz.out, zerosV]; exact bytes_one _
  obtain ⟨zn, Hzn⟩ : ∃ zn : Array Value, Hid (zn = zeroHead) := ⟨_, rfl⟩
  have halh : ∀ w : World, (Instr.alloc 91 true (.tuple #[])).run Tryz.prog w = .ok (.pointer (some ⟨w.heap.size, 0, none⟩)) (w.alloc (.cells zn 91)) := by rw [Hzn.out]; exact allocHead
  have hX1 := h.below hb1
  obtain ⟨_, _, c2⟩ := (hX1.dep hT).cells
  have w4 : IntKind.i64.wrap ((n : Int) * 4) = (n : Int) * 4 := IntWalk.i64_in _ (by omega)
  have hss := stS_get hD.hd (s := s) (by have := hD.len; omega)
  have hhd := hD.hd _ (getD_mem (hs := hs) (k := s / 4) (by have := hD.len; omega)).1
  have hdh := hX1.dhead hT hD hf hn (k := s / 4) (by omega)
  obtain ⟨q, hq⟩ : ∃ q, s / 4 = q := ⟨_, rfl⟩
  obtain ⟨r4, hr4⟩ : ∃ r4, s % 4 = r4 := ⟨_, rfl⟩
  have hd : ((s : Int)).tdiv 4 = (q : Int) := by rw [Int.tdiv_eq_ediv_of_nonneg (by omega)]; omega
  have hm : ((s : Int)).tmod 4 = (r4 : Int) := by rw [Int.tmod_eq_emod_of_nonneg (by omega)]; omega
  have hr44 : r4 < 4 := by omega
  have hq16 : q ≤ 100000 := by omega
  rw [hq] at hss hhd hdh
  rw [hr4] at hss
  obtain ⟨hd0, hhd0⟩ : ∃ hd0, hs.getD q [] = hd0 := ⟨_, rfl⟩
  rw [hhd0] at hss hhd hdh
  have hdl := hhd.len
  obtain ⟨hv, Hhv⟩ : ∃ hv : List Value, Hid (hv = hd0.map cu8) := ⟨_, rfl⟩
  have hV : headV hd0 = .agg hv.toArray := by rw [Hhv.out]; rfl
  rw [hV] at hdh
  have hvl : hv.length = 4 := by rw [Hhv.out]; simp [hdl]
  have hi : Hid ((Tryz.prog.info? 91).map (·.size) = some hv.toArray.size) := by rw [List.size_toArray, hvl]; exact infoHead
  have hz : Hid (zn.size = hv.toArray.size) := by
    have e : hv.toArray.size = 4 := by rw [List.size_toArray, hvl]
    rw [e, Hzn.out]; exact (rfl : zeroHead.size = 4)
  have h1 : Hid (hv.toArray.all (·.oneCell') = true) := by rw [Hhv.out]; exact bytes_one _
  obtain ⟨c, hc⟩ : ∃ c, stS hs s = c := ⟨_, rfl⟩
  rw [hc] at hss ⊢
  obtain ⟨C, hC⟩ : ∃ C : Nat, c.toNat = C := ⟨_, rfl⟩
  have HCell := Lib.hid (show hv[r4]? = some (.int .u8 (C : Int)) by rw [Hhv.out, List.getElem?_map, hss, ← hC, ← cu8_nat]; rfl)
  have HX1 := Lib.hid hX1
  have Hdh := Lib.hid hdh
  have s0 : ¬ ((s : Int) < 0) := by omega
  have s4 : ¬ ((n : Int) * 4 ≤ (s : Int)) := by omega
  have Hr1 := Lib.hid hr1
  obtain ⟨Q, HQ⟩ : ∃ Q, Hid ((if c = 1 then bl s else z64l) = Q) := ⟨_, rfl⟩
  obtain ⟨N, HN⟩ : ∃ N : Int, Hid ((if c = 1 then 0 else 23) = N) := ⟨_, rfl⟩
  rw [HQ.out, HN.out]
  clear hq hr4 hhd0 hV hss hhd hdh hX1 h hr1 hc
  go_enter Tryz.func38, Tryz.ntmps38
  go_wp2_with (first
    | (refine wpList_alloc_arr rfl 33 rfl _ hal ?_)
    | (go_at_call 77; refine Hdh.out.mono ?_))
  rintro e w2 ⟨rfl, hb2⟩
  have hr2 := (hb2.block w.heap.size (Array.getElem?_eq_some_iff.1 Hr1.out).1).trans Hr1.out
  have hX2 := HX1.out.below hb2
  have hbw2 := hb1.trans (hb2.mono hb1.size)
  generalize w.alloc (.cells zv 33) = w1 at hb2 HX1 c2
  obtain ⟨r, hr⟩ : ∃ r, w.heap.size = r := ⟨_, rfl⟩
  rw [hr] at hr2 ⊢
  have Hr := Lib.hid hr
  have hb3 : Below w2.heap.size w2 (w2.alloc (.cells hv.toArray 91)) := (Below.refl _ _).alloc (Nat.le_refl _) _
  have hx3 : (w2.alloc (.cells hv.toArray 91)).heap[w2.heap.size]? = some (.cells hv.toArray 91 (0, 0)) := heap_alloc_new w2 _
  have cz : (w2.alloc (.cells hv.toArray 91)).cell? ⟨w2.heap.size, r4, none⟩ = some (.int .u8 (C : Int)) := by rw [cell_of_row _ _ _ _ _ _ hx3, List.getElem?_toArray]; exact HCell.out
  have hr3 := (hb3.block r (Array.getElem?_eq_some_iff.1 hr2).1).trans hr2
  have hX3 := hX2.below hb3
  have hbw3 := hbw2.trans (hb3.mono hbw2.size)
  clear hr hb2 hr2 hX2 hbw2 hb3 hx3 c2 HX1 Hdh
  by_cases hl : c = 1
  case neg =>
    have hne : ¬ ((C : Int) = 1) := fun e => hl (UInt8.toNat_inj.1 (by rw [hC]; show C = 1; omega))
    have hQ := HQ.out; have hN := HN.out
    rw [if_neg hl] at hQ hN
    subst hQ hN
    have HX := Lib.hid hX3
    clear hX3 hC hl
    go_wp2_with (first
      | (refine wpList_alloc_arr rfl 91 rfl _ halh ?_)
      | (refine wpList_store_new rfl 91 _ _ rfl w2.heap.size rfl hv.toArray rfl rfl 91 _ hi.out hz.out h1.out ?_)
      | (refine wpList_buildZ 33 rfl zv hbz.out (by rfl) ?_)
      | (refine wpList_store_row rfl 33 _ _ rfl r zv rfl rfl 33 zv hr3 hzi.out rfl hz1.out ?_))
    have hb4 := below_setRow (g := r) hbw3 (by rw [Hr.out]; exact Nat.le_refl _) zv
    refine bodyPost_ret (v := .tuple #[.agg zv, .iface 84 (.int .i64 23)]) ?_ rfl ⟨_, by rw [Hz.out, zerosV]; rfl, .inr ⟨by decide, [], rfl⟩, hb4⟩
    exact results_cell_row_tmp (ty := 33) rfl _ _ r 33 _ (0, 0) _ rfl (setRow_heap _ _ _ _ _ _ hr3) Tryz.underlying33 rfl hzi.out _ rfl
  subst hl
  have hC1 : (C : Int) = 1 := by have : ((1 : UInt8).toNat) = 1 := rfl; omega
  have hQ := HQ.out; have hN := HN.out
  rw [if_pos rfl] at hQ hN
  subst hN
  have HQ2 := Lib.hid hQ
  clear hC HQ HN hQ
  go_upto_region 8 with (first
    | (refine wpList_alloc_arr rfl 91 rfl _ halh ?_)
    | (refine wpList_store_new rfl 91 _ _ rfl w2.heap.size rfl hv.toArray rfl rfl 91 _ hi.out hz.out h1.out ?_))
  clear cz
  generalize w2.alloc (.cells hv.toArray 91) = w3 at hr3 hX3 hbw3 ⊢
  obtain ⟨z, hze⟩ : ∃ z, w2.heap.size = z := ⟨_, rfl⟩
  rw [hze]
  clear hze
  have hrl := (Array.getElem?_eq_some_iff.1 hr3).1
  obtain ⟨p, hp⟩ : ∃ p, bl s = p := ⟨_, rfl⟩
  have hpl : p.length = 64 := by rw [← hp]; exact hD.bl_len hs4
  obtain ⟨pv, Hpv⟩ : ∃ pv : List Value, Hid (pv = p.map cu8) := ⟨_, rfl⟩
  have hpV : pageV p = .agg pv.toArray := by rw [Hpv.out]; rfl
  have hpi : Hid ((Tryz.prog.info? 33).map (·.size) = some pv.toArray.size) := by rw [Hpv.out]; exact pageInfo hpl
  have hpz : Hid (zv.size = pv.toArray.size) := by rw [Hpv.out, Hz.out]; exact pageZ hpl
  have hp1 : Hid (pv.toArray.all (·.oneCell') = true) := by rw [Hpv.out]; exact bytes_one _
  obtain ⟨A, hA⟩ : ∃ A : Nat, first + s / 4 * 5 + 1 + s % 4 = A := ⟨_, rfl⟩
  have Hba := Lib.hid (fun W (hW : Below w3.heap.size w3 W) => (show Calls Tryz.prog 71 #[.pointer (some ⟨x, 0, none⟩), .int .i64 s] W (fun e w' => e = .returned (.int .i64 (A : Nat)) ∧ W = w') by
    have := blockAt_any ((hX3.below hW).dep hT) (by omega) s (by omega)
    rw [hA] at this; exact this))
  have Hrd := Lib.hid (fun W (hW : Below w3.heap.size w3 W) => (show Calls Tryz.prog 78 #[.pointer (some ⟨g, 0, none⟩), .int .i64 (A : Nat)] W (fun e w' => ∃ v, e = .returned (.tuple #[.agg pv.toArray, v]) ∧ ErrV w' 0 v ∧ Below W.heap.size W w') by
    have := hX3.dread hD hs4 W hW
    rw [hA, hp] at this
    exact this.mono fun e w' ⟨v, h1, h2, h3⟩ => ⟨v, by rw [h1, hpV], h2, h3⟩))
  have HS := Lib.hid (hX3.dep hT)
  have hQp := HQ2.out
  rw [hp] at hQp
  subst hQp
  clear hA hp hX3 HQ2
  refine wp_region_up 10 (fun w' => Below w3.heap.size w3 w') (by kernel_rfl) ?_
  have hb5 : Below w3.heap.size w3 { w3 with drawn := w3.drawn + 1 } := ⟨rfl, rfl, rfl, Nat.le_refl _, fun _ _ => rfl⟩
  obtain ⟨wd, hdr⟩ : ∃ wd : World, ({ w3 with drawn := w3.drawn + 1 } : World) = wd := ⟨_, rfl⟩
  rw [hdr] at hb5 ⊢
  clear hdr
  refine up_take (i := 0) (v := .pointer (some ⟨x, 0, none⟩)) rfl (by kernel_rfl) (by kernel_rfl) (fun _ _ _ h => h) (Or.inl ⟨by rfl, ?_⟩) hb5 ?_
  · intro w' _; go_simp
  try simp only [List.getElem_toArray, List.getElem_cons_succ, List.getElem_cons_zero, Act.put, List.setIfInBounds_toArray, List.set]
  refine up_take (i := 1) (v := .pointer (some ⟨x, 0, none⟩)) rfl (by kernel_rfl) (by kernel_rfl) (fun _ _ _ h => h) (Or.inl ⟨by rfl, ?_⟩) hb5 ?_
  · intro w' _; go_simp
  try simp only [List.getElem_toArray, List.getElem_cons_succ, List.getElem_cons_zero, Act.put, List.setIfInBounds_toArray, List.set]
  refine up_take (i := 2) (v := .pointer (some ⟨x, 0, none⟩)) rfl (by kernel_rfl) (by kernel_rfl) (fun _ _ _ h => h) (Or.inl ⟨by rfl, ?_⟩) hb5 ?_
  · intro w' _; go_simp
  try simp only [List.getElem_toArray, List.getElem_cons_succ, List.getElem_cons_zero, Act.put, List.setIfInBounds_toArray, List.set]
  refine up_take (i := 3) (v := .pointer (some ⟨g, 0, none⟩)) rfl (by kernel_rfl) (by kernel_rfl) (fun _ _ _ h => h) (Or.inl ⟨by rfl, ?_⟩) hb5 ?_
  · intro w' hS'
    obtain ⟨c0, _⟩ := DepAt.cells (HS.out.below hS')
    clear hS'
    go_simp
  try simp only [List.getElem_toArray, List.getElem_cons_succ, List.getElem_cons_zero, Act.put, List.setIfInBounds_toArray, List.set]
  refine up_take (i := 4) (v := .pointer (some ⟨x, 0, none⟩)) rfl (by kernel_rfl) (by kernel_rfl) (fun _ _ _ h => h) (Or.inl ⟨by rfl, ?_⟩) hb5 ?_
  · intro w' _; go_simp
  try simp only [List.getElem_toArray, List.getElem_cons_succ, List.getElem_cons_zero, Act.put, List.setIfInBounds_toArray, List.set]
  refine up_take (i := 5) (v := .int .i64 s) rfl (by kernel_rfl) (by kernel_rfl) (fun _ _ _ h => h) (Or.inl ⟨by rfl, ?_⟩) hb5 ?_
  · intro w' _; go_simp
  try simp only [List.getElem_toArray, List.getElem_cons_succ, List.getElem_cons_zero, Act.put, List.setIfInBounds_toArray, List.set]
  refine up_one 6 _ rfl (by kernel_rfl) (by decide) (by rfl) (fun K hK => ?_)
  go_simp
  refine (Hba.out _ hb5).mono ?_
  rintro e w' ⟨rfl, rfl⟩
  refine hK _ _ hb5 ?_
  clear hK K
  try simp only [List.getElem_toArray, List.getElem_cons_succ, List.getElem_cons_zero, Act.put, List.setIfInBounds_toArray, List.set]
  refine up_one 7 _ rfl (by kernel_rfl) (by decide) (by rfl) (fun K hK => ?_)
  go_simp
  refine (Hrd.out _ hb5).mono ?_
  rintro e w6 ⟨v6, rfl, hE6, hq6⟩
  obtain rfl := ErrV.zero hE6
  clear hE6
  have hb6 := hb5.trans (hq6.mono hb5.size)
  refine hK _ _ hb6 ?_
  clear hK K
  try simp only [List.getElem_toArray, List.getElem_cons_succ, List.getElem_cons_zero, Act.put, List.setIfInBounds_toArray, List.set]
  refine up_take (i := 8) (v := .agg pv.toArray) rfl (by kernel_rfl) (by kernel_rfl) (fun _ _ _ h => h) (Or.inl ⟨by rfl, ?_⟩) hb6 ?_
  · intro w' _; go_simp
  try simp only [List.getElem_toArray, List.getElem_cons_succ, List.getElem_cons_zero, Act.put, List.setIfInBounds_toArray, List.set]
  refine up_take (i := 9) (v := .nilIface) rfl (by kernel_rfl) (by kernel_rfl) (fun _ _ _ h => h) (Or.inl ⟨by rfl, ?_⟩) hb6 ?_
  · intro w' _; go_simp
  try simp only [List.getElem_toArray, List.getElem_cons_succ, List.getElem_cons_zero, Act.put, List.setIfInBounds_toArray, List.set]
  refine up_tail ?_
  refine up_last 10 _ rfl (by kernel_rfl) (by decide) (by rfl) (fun K hK => ?_)
  refine wp_store_whole 33 _ _ rfl r pv.toArray rfl rfl zv 33 ((hb6.block r hrl).trans hr3) hpi.out hpz.out hp1.out ?_
  intro w7 Hs7 Hg7
  have hbw7 : Below w.heap.size w w7 := (hbw3.trans (hb6.mono hbw3.size)).trans ((Only.of_grown (F := fun j => j = r) Hg7.out (fun j e => by simpa using e.symm)).base (by have := hbw3.size; have := hb6.size; omega) (fun j hj => by have e : j = r := hj; have := Hr.out; omega))
  refine hK _ _ ?_
  clear hK K
  try simp only [List.getElem_toArray, List.getElem_cons_succ, List.getElem_cons_zero, Act.put, List.setIfInBounds_toArray, List.set]
  refine up_last 11 _ rfl (by kernel_rfl) (by decide) (by rfl) (fun K hK => ?_)
  go_simp
  refine hK _ _ ?_
  clear hK K
  try simp only [List.getElem_toArray, List.getElem_cons_succ, List.getElem_cons_zero, Act.put, List.setIfInBounds_toArray, List.set]
  refine up_done (by kernel_rfl) ?_ _
  have Hbw7 := Lib.hid hbw7
  clear hbw7 Hg7 hq6 hb6 hb5 Hrd Hba HS hr3
  go_wp2
  have hbw7 := Hbw7.out
  refine bodyPost_ret (v := .tuple #[.agg pv.toArray, .nilIface]) ?_ rfl ⟨.nilIface, by rw [hpV], ErrV.nil, hbw7⟩
  exact results_cell_row_tmp (ty := 33) rfl _ _ r 33 _ (0, 0) _ rfl Hs7.out Tryz.underlying33 rfl hpi.out _ rfl
/-- The block of a slot. -/
theorem OwnX.dget (h : OwnX b gd g T w0 w) (hT : (x, depO g first n) ∈ T) (hD : De b first n hs bl) (hf : first ≤ 2000) (hn : n ≤ 64) (i : Int) :
    Calls Tryz.prog 38 #[.pointer (some ⟨x, 0, none⟩), .int .i64 i] w (PageP (getOf hs bl n i).1 (getOf hs bl n i).2 w) := by
  unfold getOf
  by_cases hi : i < 0 ∨ (4 * n : Int) ≤ i
  · rw [if_pos hi]; exact dget_out (h.dep hT) hn i hi
  · rw [if_neg hi]
    obtain ⟨s, rfl⟩ : ∃ s : Nat, i = (s : Int) := ⟨i.toNat, by omega⟩
    have := h.dget_in hT hD hf hn (s := s) (by omega)
    rw [Int.toNat_natCast]
    by_cases hl : stS hs s = 1
    · rw [if_pos hl] at this ⊢; rw [if_pos hl] at this; exact this
    · rw [if_neg hl] at this ⊢; rw [if_neg hl] at this; exact this
theorem getOf_len (hD : De b first n hs bl) (i : Int) : (getOf hs bl n i).1.length = 64 := by
  unfold getOf
  split
  · rfl
  · split
    · exact hD.bl_len (by omega)
    · rfl
/-- Get. -/
theorem OwnX.dGet (h : OwnX b gd g T w0 w) (hT : (x, depO g first n) ∈ T) (hD : De b first n hs bl) (hf : first ≤ 2000) (hn : n ≤ 64) (i : Int) :
    Calls Tryz.prog 13 #[.pointer (some ⟨x, 0, none⟩), .int .i64 i] w (PageP (getOf hs bl n i).1 (getOf hs bl n i).2 w) :=
  dGet_of (getOf_len hD i) ((h.below (page_box0 w).1).dget hT hD hf hn i)
end
end Go.Proofs.YtjkkbceddbkejaaGreatDoor

/-
  Package depot: put, Put.
-/
namespace Go.Proofs.YtjkkbceddbkejaaGreatDoor
open Go.RowKit Sh Go.Maps Go.Extern.Stop Go.Stop Go.Extern

section
variable {b : Bk} {gd g first n x : Nat} {T : List (Nat × Obj)} {w0 w : World} {hs : List (List UInt8)} {bl : Nat → List UInt8}
set_option maxRecDepth 100000 in
set_option maxHeartbeats 8000000 in
theorem OwnX.dput_none (h : OwnX b gd g T w0 w) (hT : (x, depO g first n) ∈ T) (hD : De b first n hs bl) (hf : first ≤ 2000) (hn : n ≤ 64) (p : List UInt8) (but : Int) (hr : roomL but hs = none) :
    Calls Tryz.prog 34 #[.pointer (some ⟨x, 0, none⟩), pageV p, .int .i64 but] w (TQ2 (.int .i64 0) 20 (fun w' => OwnX b gd g T w0 w' ∧ Below w.heap.size w w')) := by
  obtain ⟨pv, Hpv⟩ : ∃ pv : List Value, Hid (pv = p.map cu8) := ⟨_, rfl⟩
  have hpV : pageV p = .agg pv.toArray := by rw [Hpv.out]; rfl
  rw [hpV]
  have hb1 : Below w.heap.size w (w.alloc (.cells pv.toArray 33)) := (Below.refl _ _).alloc (Nat.le_refl _) _
  have hX1 := h.below hb1
  have hrm := droom_any hX1 hT hD hf hn but
  rw [hr] at hrm
  have Hrm := Lib.hid hrm; have HX1 := Lib.hid hX1
  have hq := neq_held 84 (.int .i64 20)
  clear hrm hX1 h hpV
  go_enter Tryz.func34, Tryz.ntmps34
  go_wp2_with (first
    | (go_at_call 69; refine Hrm.out.mono ?_))
  rintro e w2 ⟨rfl, hb2⟩
  have Hfin := Lib.hid (show TQ2 (.int .i64 0) 20 (fun w' => OwnX b gd g T w0 w' ∧ Below w.heap.size w w') (.returned (.tuple #[.int .i64 0, .iface 84 (.int .i64 20)])) w2 from ⟨_, rfl, .inr ⟨by decide, [], rfl⟩, HX1.out.below hb2, hb1.trans (hb2.mono hb1.size)⟩)
  clear hb2 Hrm
  go_wp2
  refine bodyPost_ret (v := .tuple #[.int .i64 0, .iface 84 (.int .i64 20)]) (by simp [results, Tryz.results34, go_sem]) rfl Hfin.out
set_option maxRecDepth 100000 in
set_option maxHeartbeats 16000000 in
theorem OwnX.dput_some (h : OwnX b gd g T w0 w) (hT : (x, depO g first n) ∈ T) (hD : De b first n hs bl) (hf : first ≤ 2000) (hn : n ≤ 64) {p : List UInt8} (hpl : p.length = 64) (but : Int) {s : Nat} (hr : roomL but hs = some s) (hs4 : s < 4 * n) {t1 t2 : List Chg} (hD1 : De { b with txn := t1 } first n hs (updP bl s p))
    (e1 : bwriteOf b ((first + s / 4 * 5 + 1 + s % 4 : Nat) : Int) p = ({ b with txn := t1 }, 0))
    (e2 : bwriteOf { b with txn := t1 } ((first + s / 4 * 5 : Nat) : Int) (pageH ((hs.getD (s / 4) []).set (s % 4) 1)) = ({ b with txn := t2 }, 0)) :
    Calls Tryz.prog 34 #[.pointer (some ⟨x, 0, none⟩), pageV p, .int .i64 but] w (TQ2 (.int .i64 (s : Nat)) 0 (fun w' => OwnX { b with txn := t2 } gd g T w0 w')) := by
  obtain ⟨pv, Hpv⟩ : ∃ pv : List Value, Hid (pv = p.map cu8) := ⟨_, rfl⟩
  have hpV : pageV p = .agg pv.toArray := by rw [Hpv.out]; rfl
  have hpi2 : Hid ((Tryz.prog.info? 33).map (·.size) = some pv.length) := by have := pageInfo hpl; rw [← Hpv.out, List.size_toArray] at this; exact this
  rw [hpV]
  have hb1 : Below w.heap.size w (w.alloc (.cells pv.toArray 33)) := (Below.refl _ _).alloc (Nat.le_refl _) _
  have hy1 : (w.alloc (.cells pv.toArray 33)).heap[w.heap.size]? = some (.cells pv.toArray 33 (0, 0)) := heap_alloc_new w _
  have hX1 := h.below hb1
  have hrm := droom_any hX1 hT hD hf hn but
  rw [hr] at hrm
  have Hrm := Lib.hid hrm; have HX1 := Lib.hid hX1; have HpV := Lib.hid hpV
  clear hrm hX1 h hpV
  go_enter Tryz.func34, Tryz.ntmps34
  go_wp2_with (first
    | (go_at_call 69; refine Hrm.out.mono ?_))
  rintro e w3 ⟨rfl, hb2⟩
  have hX3 := HX1.out.below hb2
  have hy3 := (hb2.block w.heap.size (Array.getElem?_eq_some_iff.1 hy1).1).trans hy1
  clear hb1 hb2 hy1 HX1 Hrm
  go_upto_region 4 with (fail)
  obtain ⟨y, hy⟩ : ∃ y, w.heap.size = y := ⟨_, rfl⟩
  rw [hy] at hy3 ⊢
  clear hy
  have hyl := (Array.getElem?_eq_some_iff.1 hy3).1
  obtain ⟨A, hA⟩ : ∃ A : Nat, first + s / 4 * 5 + 1 + s % 4 = A := ⟨_, rfl⟩
  have HL := Lib.hid (fun W (hW : Below w3.heap.size w3 W) => run_loadAt_mid (P := Tryz.prog) W y 0 33 pv _ (fun j v hj => by rw [Nat.zero_add, cell_of_row W y j _ _ _ ((hW.block y hyl).trans hy3)]; simpa using hj) Tryz.underlying33 rfl hpi2.out)
  have Hba := Lib.hid (fun W (hW : Below w3.heap.size w3 W) => (show Calls Tryz.prog 71 #[.pointer (some ⟨x, 0, none⟩), .int .i64 s] W (fun e w' => e = .returned (.int .i64 (A : Nat)) ∧ W = w') by
    have := blockAt_any ((hX3.below hW).dep hT) (by omega) s (by omega)
    rw [hA] at this; exact this))
  have Hwr := Lib.hid (fun W (hW : Below w3.heap.size w3 W) => (show Calls Tryz.prog 70 #[.pointer (some ⟨g, 0, none⟩), .int .i64 (A : Nat), .agg pv.toArray] W (OwnXP { b with txn := t1 } 0 gd g T w0) by
    have := hX3.dblock hD hpl e1 W hW
    rw [hA, HpV.out] at this; exact this))
  have HS := Lib.hid (hX3.dep hT)
  clear hA hX3 hy3 hyl
  refine wp_region_up 8 (fun w' => Below w3.heap.size w3 w') (by kernel_rfl) ?_
  have hb5 : Below w3.heap.size w3 { w3 with drawn := w3.drawn + 1 } := ⟨rfl, rfl, rfl, Nat.le_refl _, fun _ _ => rfl⟩
  obtain ⟨wd, hdr⟩ : ∃ wd : World, ({ w3 with drawn := w3.drawn + 1 } : World) = wd := ⟨_, rfl⟩
  rw [hdr] at hb5 ⊢
  clear hdr
  refine up_take (i := 0) (v := .pointer (some ⟨x, 0, none⟩)) rfl (by kernel_rfl) (by kernel_rfl) (fun _ _ _ h => h) (Or.inl ⟨by rfl, ?_⟩) hb5 ?_
  · intro w' _; go_simp
  try simp only [List.getElem_toArray, List.getElem_cons_succ, List.getElem_cons_zero, Act.put, List.setIfInBounds_toArray, List.set]
  refine up_take (i := 1) (v := .pointer (some ⟨x, 0, none⟩)) rfl (by kernel_rfl) (by kernel_rfl) (fun _ _ _ h => h) (Or.inl ⟨by rfl, ?_⟩) hb5 ?_
  · intro w' _; go_simp
  try simp only [List.getElem_toArray, List.getElem_cons_succ, List.getElem_cons_zero, Act.put, List.setIfInBounds_toArray, List.set]
  refine up_take (i := 2) (v := .pointer (some ⟨x, 0, none⟩)) rfl (by kernel_rfl) (by kernel_rfl) (fun _ _ _ h => h) (Or.inl ⟨by rfl, ?_⟩) hb5 ?_
  · intro w' _; go_simp
  try simp only [List.getElem_toArray, List.getElem_cons_succ, List.getElem_cons_zero, Act.put, List.setIfInBounds_toArray, List.set]
  refine up_take (i := 3) (v := .pointer (some ⟨g, 0, none⟩)) rfl (by kernel_rfl) (by kernel_rfl) (fun _ _ _ h => h) (Or.inl ⟨by rfl, ?_⟩) hb5 ?_
  · intro w' hS'
    obtain ⟨c0, _⟩ := DepAt.cells (HS.out.below hS')
    clear hS'
    go_simp
  try simp only [List.getElem_toArray, List.getElem_cons_succ, List.getElem_cons_zero, Act.put, List.setIfInBounds_toArray, List.set]
  refine up_take (i := 4) (v := .pointer (some ⟨x, 0, none⟩)) rfl (by kernel_rfl) (by kernel_rfl) (fun _ _ _ h => h) (Or.inl ⟨by rfl, ?_⟩) hb5 ?_
  · intro w' _; go_simp
  try simp only [List.getElem_toArray, List.getElem_cons_succ, List.getElem_cons_zero, Act.put, List.setIfInBounds_toArray, List.set]
  refine up_take (i := 5) (v := .int .i64 s) rfl (by kernel_rfl) (by kernel_rfl) (fun _ _ _ h => h) (Or.inl ⟨by rfl, ?_⟩) hb5 ?_
  · intro w' _; go_simp
  try simp only [List.getElem_toArray, List.getElem_cons_succ, List.getElem_cons_zero, Act.put, List.setIfInBounds_toArray, List.set]
  refine up_take (i := 7) (v := .agg pv.toArray) rfl (by kernel_rfl) (by kernel_rfl) (fun _ _ _ h => h) (Or.inl ⟨by rfl, ?_⟩) hb5 ?_
  · intro w' hS'; exact exec_load _ _ 33 _ rfl y 0 rfl _ (HL.out w' hS')
  try simp only [List.getElem_toArray, List.getElem_cons_succ, List.getElem_cons_zero, Act.put, List.setIfInBounds_toArray, List.set]
  refine up_one 6 _ rfl (by kernel_rfl) (by decide) (by rfl) (fun K hK => ?_)
  go_simp
  refine (Hba.out _ hb5).mono ?_
  rintro e w' ⟨rfl, rfl⟩
  refine hK _ _ hb5 ?_
  clear hK K
  try simp only [List.getElem_toArray, List.getElem_cons_succ, List.getElem_cons_zero, Act.put, List.setIfInBounds_toArray, List.set]
  refine up_tail ?_
  refine up_last 8 _ rfl (by kernel_rfl) (by decide) (by rfl) (fun K hK => ?_)
  go_simp
  refine (Hwr.out _ hb5).mono ?_
  rintro e w6 ⟨v6, rfl, hE6, hX6⟩
  refine hK _ _ ?_
  clear hK K
  try simp only [List.getElem_toArray, List.getElem_cons_succ, List.getElem_cons_zero, Act.put, List.setIfInBounds_toArray, List.set]
  refine up_last 9 _ rfl (by kernel_rfl) (by decide) (by rfl) (fun K hK => ?_)
  go_simp
  refine hK _ _ ?_
  clear hK K
  try simp only [List.getElem_toArray, List.getElem_cons_succ, List.getElem_cons_zero, Act.put, List.setIfInBounds_toArray, List.set]
  refine up_done (by kernel_rfl) ?_ _
  obtain rfl := ErrV.zero hE6
  have Hmk := Lib.hid (hX6.dmark hT hD1 hf hn hs4 e2)
  have e1' : cu8 1 = .int .u8 1 := by rw [cu8_nat]; rfl
  rw [e1'] at Hmk
  clear hX6 hE6 Hwr Hba HL HS e1'
  go_wp2_with (first
    | (go_at_call 72; refine Hmk.out.mono ?_))
  rintro e w7 ⟨v7, rfl, hE7, hX7⟩
  obtain rfl := ErrV.zero hE7
  have Hfin := Lib.hid (show TQ2 (.int .i64 (s : Nat)) 0 (fun w' => OwnX { b with txn := t2 } gd g T w0 w') (.returned (.tuple #[.int .i64 (s : Nat), .nilIface])) w7 from ⟨_, rfl, ErrV.nil, hX7⟩)
  clear hX7 hE7 Hmk
  go_wp2
  refine bodyPost_ret (v := .tuple #[.int .i64 (s : Nat), .nilIface]) (by simp [results, Tryz.results34, go_sem]) rfl Hfin.out
/-- Pages none of which could be taken for the head of a record. -/
def N9 (l : List Chg) : Prop := ∀ c ∈ l, at8 c.what 9 = 0
theorem bwrite_n9 {b : Bk} {i : Int} {p : List UInt8} {t : List Chg} (e : bwriteOf b i p = ({ b with txn := t }, 0)) (hp : at8 p 9 = 0) (h : N9 b.txn) : N9 t := by
  have hk : N9 (putM b.txn i.toNat p) := fun c hc => by
    rcases mem_putM hc with rfl | hc
    · exact hp
    · exact h c hc
  have key : t = putM b.txn i.toNat p ∨ t = b.txn := by
    unfold bwriteOf at e
    split at e
    · exact .inr (congrArg (fun r => r.1.txn) e).symm
    · split at e
      · exact .inl (congrArg (fun r => r.1.txn) e).symm
      · split at e
        · exact .inr (congrArg (fun r => r.1.txn) e).symm
        · split at e
          · exact .inr (congrArg (fun r => r.1.txn) e).symm
          · exact .inl (congrArg (fun r => r.1.txn) e).symm
  rcases key with rfl | rfl
  · exact hk
  · exact h
theorem pageH_n9 {h : List UInt8} (hl : h.length = 4) : at8 (pageH h) 9 = 0 := by
  match h, hl with
  | [_, _, _, _], _ => rfl
theorem set_len4 {hs : List (List UInt8)} (H : ∀ h ∈ hs, Hd h) {s : Nat} (hs4 : s / 4 < hs.length) (st : UInt8) : ((hs.getD (s / 4) []).set (s % 4) st).length = 4 := by
  rw [List.length_set]; exact (H _ (getD_mem hs4).1).len
/-- What put leaves. -/
structure PutD (b : Bk) (first n : Nat) (hs : List (List UInt8)) (bl : Nat → List UInt8) (s : Nat) (p : List UInt8) (t : List Chg) : Prop where
  de : De { b with txn := t } first n (markL hs s 1) (updP bl s p)
  tx : Tx b t first (first + 5 * n) 2
  nine : at8 p 9 = 0 → N9 b.txn → N9 t
theorem OwnX.dput (h : OwnX b gd g T w0 w) (hT : (x, depO g first n) ∈ T) (hD : De b first n hs bl) (hf : first ≤ 2000) (hn : n ≤ 64) {p : List UInt8} (hpl : p.length = 64) (but : Int) {s : Nat} (hr : roomL but hs = some s) (ht : b.txn.length ≤ 58) :
    ∃ t, PutD b first n hs bl s p t ∧ ∀ W, OwnX b gd g T w0 W → Calls Tryz.prog 34 #[.pointer (some ⟨x, 0, none⟩), pageV p, .int .i64 but] W (TQ2 (.int .i64 (s : Nat)) 0 (fun w' => OwnX { b with txn := t } gd g T w0 w')) := by
  have hs4 := (room_some hD.hd hr).1
  rw [hD.len] at hs4
  obtain ⟨t1, e1, hD1, x1⟩ := hD.put (s := s) (by omega) hpl (by omega)
  have := x1.len
  obtain ⟨t2, e2, hD2, x2⟩ := hD1.mark (s := s) (by omega) (st := 1) (by simp) (by show t1.length < 60; omega)
  exact ⟨t2, ⟨hD2, x1.trans x2, fun h1 h2 => bwrite_n9 e2 (pageH_n9 (set_len4 hD.hd (by rw [hD.len]; omega) _)) (bwrite_n9 e1 h1 h2)⟩, fun W hW => hW.dput_some hT hD hf hn hpl but hr (by omega) hD1 e1 e2⟩
theorem OwnX.keepX (b : Bk) (gd g : Nat) (T : List (Nat × Obj)) (w0 : World) : Keeps (fun w' => OwnX b gd g T w0 w') := fun _ _ h hb => h.below hb
/-- Put. -/
theorem OwnX.dPut (h : OwnX b gd g T w0 w) (hT : (x, depO g first n) ∈ T) (hD : De b first n hs bl) (hf : first ≤ 2000) (hn : n ≤ 64) {p : List UInt8} (hpl : p.length = 64) {s : Nat} (hr : roomL (-1) hs = some s) (ht : b.txn.length ≤ 58) :
    ∃ t, PutD b first n hs bl s p t ∧ Calls Tryz.prog 10 #[.pointer (some ⟨x, 0, none⟩), pageV p] w (TQ2 (.int .i64 (s : Nat)) 0 (fun w' => OwnX { b with txn := t } gd g T w0 w')) := by
  obtain ⟨t, hP, hc⟩ := h.dput hT hD hf hn hpl (-1) hr ht
  exact ⟨t, hP, dPut_of hpl (OwnX.keepX _ _ _ _ _) (hc _ (h.below ((Below.refl _ _).alloc (Nat.le_refl _) _)))⟩
theorem OwnX.dPut_full (h : OwnX b gd g T w0 w) (hT : (x, depO g first n) ∈ T) (hD : De b first n hs bl) (hf : first ≤ 2000) (hn : n ≤ 64) {p : List UInt8} (hpl : p.length = 64) (hr : roomL (-1) hs = none) :
    Calls Tryz.prog 10 #[.pointer (some ⟨x, 0, none⟩), pageV p] w (TQ2 (.int .i64 0) 20 (fun w' => OwnX b gd g T w0 w')) := by
  refine dPut_of hpl (OwnX.keepX _ _ _ _ _) ?_
  exact ((h.below ((Below.refl _ _).alloc (Nat.le_refl _) _)).dput_none hT hD hf hn p (-1) hr).mono fun e w' ⟨v, h1, h2, h3⟩ => ⟨v, h1, h2, h3.1⟩
end
end Go.Proofs.YtjkkbceddbkejaaGreatDoor

/-
  Package depot: Drop, Move.
-/
namespace Go.Proofs.YtjkkbceddbkejaaGreatDoor
open Go.RowKit Sh Go.Maps Go.Extern.Stop Go.Stop Go.Extern

section
variable {b : Bk} {gd g first n x : Nat} {T : List (Nat × Obj)} {w0 w : World} {hs : List (List UInt8)} {bl : Nat → List UInt8}
theorem getOf_live {s : Nat} (hs4 : s < 4 * n) (hl : stS hs s = 1) : getOf hs bl n (s : Int) = (bl s, 0) := by
  unfold getOf
  rw [if_neg (by omega), Int.toNat_natCast, if_pos hl]
set_option maxRecDepth 100000 in
set_option maxHeartbeats 8000000 in
theorem OwnX.ddrop1 (h : OwnX b gd g T w0 w) (hT : (x, depO g first n) ∈ T) (hD : De b first n hs bl) (hf : first ≤ 2000) (hn : n ≤ 64) {s : Nat} (hs4 : s < 4 * n) (hl : stS hs s = 1) {t : List Chg}
    (e2 : bwriteOf b ((first + s / 4 * 5 : Nat) : Int) (pageH ((hs.getD (s / 4) []).set (s % 4) 2)) = ({ b with txn := t }, 0)) :
    Calls Tryz.prog 62 #[.pointer (some ⟨x, 0, none⟩), .int .i64 s] w (TQ 0 (fun w' => OwnX { b with txn := t } gd g T w0 w')) := by
  have hg := h.dget hT hD hf hn (s : Int)
  rw [getOf_live hs4 hl] at hg
  have hpl := hD.bl_len hs4
  obtain ⟨q, hq⟩ : ∃ q, bl s = q := ⟨_, rfl⟩
  rw [hq] at hg hpl
  obtain ⟨qv, Hqv⟩ : ∃ qv : List Value, Hid (qv = q.map cu8) := ⟨_, rfl⟩
  have hqV : pageV q = .agg qv.toArray := by rw [Hqv.out]; rfl
  have hqi : Hid ((Tryz.prog.info? 33).map (·.size) = some qv.toArray.size) := by rw [Hqv.out]; exact pageInfo hpl
  have hqz : Hid (zeros64.size = qv.toArray.size) := by rw [Hqv.out]; exact pageZ hpl
  have hq1 : Hid (qv.toArray.all (·.oneCell') = true) := by rw [Hqv.out]; exact bytes_one _
  have Hc := Lib.hid hg; have HX := Lib.hid h
  clear hg h hq
  go_enter Tryz.func62, Tryz.ntmps62
  go_wp2_with (first | (go_at_call 38; refine Hc.out.mono ?_))
  rintro e w2 ⟨v2, rfl, hE2, hb2⟩
  obtain rfl := ErrV.zero hE2
  rw [hqV]
  have hX2 := HX.out.below hb2
  have hb3 : Below w2.heap.size w2 (w2.alloc (.cells qv.toArray 33)) := (Below.refl _ _).alloc (Nat.le_refl _) _
  have hX3 := hX2.below hb3
  have Hmk := Lib.hid (hX3.dmark hT hD hf hn hs4 e2)
  have e1' : cu8 2 = .int .u8 2 := by rw [cu8_nat]; rfl
  rw [e1'] at Hmk
  clear hX2 hb2 hb3 hX3 hE2 Hc hqV HX e1'
  go_wp2_with (first
    | (refine wpList_alloc_arr rfl 33 rfl _ alloc64 ?_)
    | (refine wpList_store_new rfl 33 _ _ rfl w2.heap.size rfl qv.toArray rfl rfl 33 _ hqi.out hqz.out hq1.out ?_)
    | (go_at_call 72; refine Hmk.out.mono ?_))
  rintro e w7 ⟨v7, rfl, hE7, hX7⟩
  have Hfin := Lib.hid (show TQ 0 (fun w' => OwnX { b with txn := t } gd g T w0 w') (.returned v7) w7 from ⟨_, rfl, hE7, hX7⟩)
  clear hX7 hE7 Hmk
  go_wp2
  go_ret
  exact Hfin.out
/-- What Drop leaves. -/
structure DropD (b : Bk) (first n : Nat) (hs : List (List UInt8)) (bl : Nat → List UInt8) (s : Nat) (t : List Chg) : Prop where
  de : De { b with txn := t } first n (markL hs s 2) bl
  tx : Tx b t first (first + 5 * n) 1
  nine : N9 b.txn → N9 t
/-- Drop of a live slot. -/
theorem OwnX.dDrop (h : OwnX b gd g T w0 w) (hT : (x, depO g first n) ∈ T) (hD : De b first n hs bl) (hf : first ≤ 2000) (hn : n ≤ 64) {s : Nat} (hs4 : s < 4 * n) (hl : stS hs s = 1) (ht : b.txn.length < 60) :
    ∃ t, DropD b first n hs bl s t ∧ Calls Tryz.prog 30 #[.pointer (some ⟨x, 0, none⟩), .int .i64 s] w (TQ 0 (fun w' => OwnX { b with txn := t } gd g T w0 w')) := by
  obtain ⟨t, e, hD', tx⟩ := hD.mark hs4 (st := 2) (by simp) ht
  exact ⟨t, ⟨hD', tx, fun h9 => bwrite_n9 e (pageH_n9 (set_len4 hD.hd (by rw [hD.len]; omega) _)) h9⟩, dDrop_of (OwnX.keepX _ _ _ _ _) (h.ddrop1 hT hD hf hn hs4 hl e)⟩
/-- .. of what isn't live. -/
theorem OwnX.dDrop_no (h : OwnX b gd g T w0 w) (hT : (x, depO g first n) ∈ T) (hD : De b first n hs bl) (hf : first ≤ 2000) (hn : n ≤ 64) (i : Int) (h0 : (getOf hs bl n i).2 ≠ 0) :
    Calls Tryz.prog 30 #[.pointer (some ⟨x, 0, none⟩), .int .i64 i] w (TQ (getOf hs bl n i).2 (fun w' => OwnX b gd g T w0 w')) :=
  dDrop_of (OwnX.keepX _ _ _ _ _) ((ddrop_err (getOf_len hD i) h0 (h.dget hT hD hf hn i)).mono fun e w' ⟨v, h1, h2, h3⟩ => ⟨v, h1, h2, h.below h3⟩)
set_option maxRecDepth 100000 in
set_option maxHeartbeats 8000000 in
/-- move, where there is no room. -/
theorem OwnX.dmove_none (h : OwnX b gd g T w0 w) (hT : (x, depO g first n) ∈ T) (hD : De b first n hs bl) (hf : first ≤ 2000) (hn : n ≤ 64) {s : Nat} (hs4 : s < 4 * n) (hl : stS hs s = 1) (hr : roomL ((s / 4 : Nat) : Int) hs = none) :
    Calls Tryz.prog 36 #[.pointer (some ⟨x, 0, none⟩), .int .i64 s] w (TQ2 (.int .i64 0) 20 (fun w' => OwnX b gd g T w0 w')) := by
  have hg := h.dget hT hD hf hn (s : Int)
  rw [getOf_live hs4 hl] at hg
  have hpl := hD.bl_len hs4
  obtain ⟨q, hq⟩ : ∃ q, bl s = q := ⟨_, rfl⟩
  rw [hq] at hg hpl
  obtain ⟨k, hk⟩ : ∃ k, s / 4 = k := ⟨_, rfl⟩
  have hd : ((s : Int)).tdiv 4 = (k : Int) := by rw [Int.tdiv_eq_ediv_of_nonneg (by omega)]; omega
  have hk16 : k ≤ 100000 := by omega
  rw [hk] at hr
  obtain ⟨qv, Hqv⟩ : ∃ qv : List Value, Hid (qv = q.map cu8) := ⟨_, rfl⟩
  have hqV : pageV q = .agg qv.toArray := by rw [Hqv.out]; rfl
  have hqi : Hid ((Tryz.prog.info? 33).map (·.size) = some qv.toArray.size) := by rw [Hqv.out]; exact pageInfo hpl
  have hqz : Hid (zeros64.size = qv.toArray.size) := by rw [Hqv.out]; exact pageZ hpl
  have hq1 : Hid (qv.toArray.all (·.oneCell') = true) := by rw [Hqv.out]; exact bytes_one _
  have Hc := Lib.hid hg; have HX := Lib.hid h
  clear hg h hq hk
  go_enter Tryz.func36, Tryz.ntmps36
  go_wp2_with (first | (go_at_call 38; refine Hc.out.mono ?_))
  rintro e w2 ⟨v2, rfl, hE2, hb2⟩
  obtain rfl := ErrV.zero hE2
  rw [hqV]
  have hX2 := HX.out.below hb2
  have hb3 : Below w2.heap.size w2 (w2.alloc (.cells qv.toArray 33)) := (Below.refl _ _).alloc (Nat.le_refl _) _
  have hy3 : (w2.alloc (.cells qv.toArray 33)).heap[w2.heap.size]? = some (.cells qv.toArray 33 (0, 0)) := heap_alloc_new w2 _
  have hX3 := hX2.below hb3
  have hpt := hX3.dput_none hT hD hf hn q (k : Int) hr
  rw [hqV] at hpt
  have Hpt := Lib.hid hpt
  clear hX2 hb2 hb3 hX3 hE2 Hc hqV HX hpt
  go_wp2_with (first
    | (refine wpList_alloc_arr rfl 33 rfl _ alloc64 ?_)
    | (refine wpList_store_new rfl 33 _ _ rfl w2.heap.size rfl qv.toArray rfl rfl 33 _ hqi.out hqz.out hq1.out ?_)
    | (refine wpList_load_row rfl 33 _ rfl w2.heap.size rfl 33 qv.toArray (0, 0) _ hy3 Tryz.underlying33 rfl hqi.out ?_)
    | (go_at_call 34; refine Hpt.out.mono ?_))
  rintro e w7 ⟨v7, rfl, hE7, hX7, _⟩
  obtain ⟨t7, z7, rfl⟩ := hE7.held (by decide)
  have hnq := neq_held t7 z7
  have Hfin := Lib.hid (show TQ2 (.int .i64 0) 20 (fun w' => OwnX b gd g T w0 w') (.returned (.tuple #[.int .i64 0, .iface t7 z7])) w7 from ⟨_, rfl, hE7, hX7⟩)
  clear hX7 hE7 Hpt hy3
  go_wp2
  refine bodyPost_ret (v := .tuple #[.int .i64 0, .iface t7 z7]) (by simp [results, Tryz.results36, go_sem]) rfl Hfin.out
set_option maxRecDepth 100000 in
set_option maxHeartbeats 8000000 in
theorem OwnX.dmove_some (h : OwnX b gd g T w0 w) (hT : (x, depO g first n) ∈ T) (hD : De b first n hs bl) (hf : first ≤ 2000) (hn : n ≤ 64) {s : Nat} (hs4 : s < 4 * n) (hl : stS hs s = 1) {r : Nat} {t1 t2 : List Chg}
    (hpt : ∀ W, OwnX b gd g T w0 W → Calls Tryz.prog 34 #[.pointer (some ⟨x, 0, none⟩), pageV (bl s), .int .i64 (s / 4 : Nat)] W (TQ2 (.int .i64 (r : Nat)) 0 (fun w' => OwnX { b with txn := t1 } gd g T w0 w')))
    (hmk : ∀ W, OwnX { b with txn := t1 } gd g T w0 W → Calls Tryz.prog 72 #[.pointer (some ⟨x, 0, none⟩), .int .i64 s, .int .u8 2] W (TQ 0 (fun w' => OwnX { b with txn := t2 } gd g T w0 w'))) :
    Calls Tryz.prog 36 #[.pointer (some ⟨x, 0, none⟩), .int .i64 s] w (TQ2 (.int .i64 (r : Nat)) 0 (fun w' => OwnX { b with txn := t2 } gd g T w0 w')) := by
  have hg := h.dget hT hD hf hn (s : Int)
  rw [getOf_live hs4 hl] at hg
  have hpl := hD.bl_len hs4
  obtain ⟨q, hq⟩ : ∃ q, bl s = q := ⟨_, rfl⟩
  rw [hq] at hg hpl hpt
  obtain ⟨k, hk⟩ : ∃ k, s / 4 = k := ⟨_, rfl⟩
  have hd : ((s : Int)).tdiv 4 = (k : Int) := by rw [Int.tdiv_eq_ediv_of_nonneg (by omega)]; omega
  have hk16 : k ≤ 100000 := by omega
  rw [hk] at hpt
  obtain ⟨qv, Hqv⟩ : ∃ qv : List Value, Hid (qv = q.map cu8) := ⟨_, rfl⟩
  have hqV : pageV q = .agg qv.toArray := by rw [Hqv.out]; rfl
  have hqi : Hid ((Tryz.prog.info? 33).map (·.size) = some qv.toArray.size) := by rw [Hqv.out]; exact pageInfo hpl
  have hqz : Hid (zeros64.size = qv.toArray.size) := by rw [Hqv.out]; exact pageZ hpl
  have hq1 : Hid (qv.toArray.all (·.oneCell') = true) := by rw [Hqv.out]; exact bytes_one _
  have Hc := Lib.hid hg; have HX := Lib.hid h; have HptW := Lib.hid hpt; have HmkW := Lib.hid hmk
  clear hg h hq hk hpt hmk
  go_enter Tryz.func36, Tryz.ntmps36
  go_wp2_with (first | (go_at_call 38; refine Hc.out.mono ?_))
  rintro e w2 ⟨v2, rfl, hE2, hb2⟩
  obtain rfl := ErrV.zero hE2
  rw [hqV]
  have hX2 := HX.out.below hb2
  have hb3 : Below w2.heap.size w2 (w2.alloc (.cells qv.toArray 33)) := (Below.refl _ _).alloc (Nat.le_refl _) _
  have hy3 : (w2.alloc (.cells qv.toArray 33)).heap[w2.heap.size]? = some (.cells qv.toArray 33 (0, 0)) := heap_alloc_new w2 _
  have hX3 := hX2.below hb3
  have hpt := HptW.out _ hX3
  rw [hqV] at hpt
  have Hpt := Lib.hid hpt
  clear hX2 hb2 hb3 hX3 hE2 Hc hqV HX hpt HptW
  go_wp2_with (first
    | (refine wpList_alloc_arr rfl 33 rfl _ alloc64 ?_)
    | (refine wpList_store_new rfl 33 _ _ rfl w2.heap.size rfl qv.toArray rfl rfl 33 _ hqi.out hqz.out hq1.out ?_)
    | (refine wpList_load_row rfl 33 _ rfl w2.heap.size rfl 33 qv.toArray (0, 0) _ hy3 Tryz.underlying33 rfl hqi.out ?_)
    | (go_at_call 34; refine Hpt.out.mono ?_))
  rintro e w7 ⟨v7, rfl, hE7, hX7⟩
  obtain rfl := ErrV.zero hE7
  have Hmk := Lib.hid (HmkW.out _ hX7)
  clear hX7 hE7 Hpt hy3 HmkW
  go_wp2_with (first
    | (go_at_call 72; refine Hmk.out.mono ?_))
  rintro e w8 ⟨v8, rfl, hE8, hX8⟩
  obtain rfl := ErrV.zero hE8
  have Hfin := Lib.hid (show TQ2 (.int .i64 (r : Nat)) 0 (fun w' => OwnX { b with txn := t2 } gd g T w0 w') (.returned (.tuple #[.int .i64 (r : Nat), .nilIface])) w8 from ⟨_, rfl, ErrV.nil, hX8⟩)
  clear hX8 hE8 Hmk
  go_wp2
  refine bodyPost_ret (v := .tuple #[.int .i64 (r : Nat), .nilIface]) (by simp [results, Tryz.results36, go_sem]) rfl Hfin.out
/-- What Move leaves. -/
structure MoveD (b : Bk) (first n : Nat) (hs : List (List UInt8)) (bl : Nat → List UInt8) (s r : Nat) (t : List Chg) : Prop where
  de : De { b with txn := t } first n (markL (markL hs r 1) s 2) (updP bl r (bl s))
  tx : Tx b t first (first + 5 * n) 3
  nine : at8 (bl s) 9 = 0 → N9 b.txn → N9 t
/-- Move of a live slot. -/
theorem OwnX.dMove (h : OwnX b gd g T w0 w) (hT : (x, depO g first n) ∈ T) (hD : De b first n hs bl) (hf : first ≤ 2000) (hn : n ≤ 64) {s r : Nat} (hs4 : s < 4 * n) (hl : stS hs s = 1) (hr : roomL ((s / 4 : Nat) : Int) hs = some r) (ht : b.txn.length ≤ 57) :
    ∃ t, MoveD b first n hs bl s r t ∧ Calls Tryz.prog 11 #[.pointer (some ⟨x, 0, none⟩), .int .i64 s] w (TQ2 (.int .i64 (r : Nat)) 0 (fun w' => OwnX { b with txn := t } gd g T w0 w')) := by
  obtain ⟨t1, hP, hc⟩ := h.dput hT hD hf hn (hD.bl_len hs4) ((s / 4 : Nat) : Int) hr (by omega)
  have := hP.tx.len
  obtain ⟨t2, e2, hD2, x2⟩ := hP.de.mark hs4 (st := 2) (by simp) (by show t1.length < 60; omega)
  refine ⟨t2, ⟨hD2, hP.tx.trans x2, fun h1 h2 => bwrite_n9 e2 (pageH_n9 (set_len4 hP.de.hd (by rw [hP.de.len]; omega) _)) (hP.nine h1 h2)⟩, dMove_of (OwnX.keepX _ _ _ _ _) (h.dmove_some hT hD hf hn hs4 hl hc (fun W hW => ?_))⟩
  have := hW.dmark hT hP.de hf hn hs4 e2
  rw [show cu8 2 = .int .u8 2 by rw [cu8_nat]; rfl] at this
  exact this
/-- .. where there is no room. -/
theorem OwnX.dMove_full (h : OwnX b gd g T w0 w) (hT : (x, depO g first n) ∈ T) (hD : De b first n hs bl) (hf : first ≤ 2000) (hn : n ≤ 64) {s : Nat} (hs4 : s < 4 * n) (hl : stS hs s = 1) (hr : roomL ((s / 4 : Nat) : Int) hs = none) :
    Calls Tryz.prog 11 #[.pointer (some ⟨x, 0, none⟩), .int .i64 s] w (TQ2 (.int .i64 0) 20 (fun w' => OwnX b gd g T w0 w')) :=
  dMove_of (OwnX.keepX _ _ _ _ _) (h.dmove_none hT hD hf hn hs4 hl hr)
/-- .. of what isn't live. -/
theorem OwnX.dMove_no (h : OwnX b gd g T w0 w) (hT : (x, depO g first n) ∈ T) (hD : De b first n hs bl) (hf : first ≤ 2000) (hn : n ≤ 64) (i : Int) (h0 : (getOf hs bl n i).2 ≠ 0) :
    Calls Tryz.prog 11 #[.pointer (some ⟨x, 0, none⟩), .int .i64 i] w (TQ2 (.int .i64 0) (getOf hs bl n i).2 (fun w' => OwnX b gd g T w0 w')) :=
  dMove_of (OwnX.keepX _ _ _ _ _) ((dmove_err (getOf_len hD i) h0 (h.dget hT hD hf hn i)).mono fun e w' ⟨v, h1, h2, h3⟩ => ⟨v, h1, h2, h.below h3⟩)
end
end Go.Proofs.YtjkkbceddbkejaaGreatDoor

/-
  Package depot: Count.
-/
namespace Go.Proofs.YtjkkbceddbkejaaGreatDoor
open Go.RowKit Sh Go.Maps Go.Extern.Stop Go.Stop Go.Extern

def CntP (a d f : Nat) (w : World) (e : Ending) (w' : World) : Prop := e = .returned (.tuple #[.int .i64 (a : Nat), .int .i64 (d : Nat), .int .i64 (f : Nat), .nilIface]) ∧ Below w.heap.size w w'
section
variable {b : Bk} {gd g first n x : Nat} {T : List (Nat × Obj)} {w0 w : World} {hs : List (List UInt8)} {bl : Nat → List UInt8}
set_option maxRecDepth 100000 in
set_option maxHeartbeats 16000000 in
theorem OwnX.dCount (h : OwnX b gd g T w0 w) (hT : (x, depO g first n) ∈ T) (hD : De b first n hs bl) (hf : first ≤ 2000) (hn : n ≤ 64) :
    Calls Tryz.prog 14 #[.pointer (some ⟨x, 0, none⟩)] w (CntP (cntA 1 hs) (cntA 2 hs) (cntA 0 hs) w) := by
  have Hh := Lib.hid (heads_any h hT hD hf hn)
  have hlen := hD.len
  have hH := hD.hd
  have n0 : (0 : Int) ≤ (n : Int) := by omega
  have HH := Lib.hid hH; have HL := Lib.hid hlen
  have hle : ∀ c k, cntA c (hs.take k) ≤ 256 := fun c k => by
    have h1 := cntA_le (c := c) (hs := hs.take k) (fun h hh => hH h (List.mem_of_mem_take hh))
    have : (hs.take k).length ≤ n := by rw [List.length_take, hlen]; omega
    omega
  have Hle := Lib.hid hle
  obtain ⟨a, ha⟩ : ∃ a, cntA 1 hs = a := ⟨_, rfl⟩
  obtain ⟨d, hd⟩ : ∃ d, cntA 2 hs = d := ⟨_, rfl⟩
  obtain ⟨f, hff⟩ : ∃ f, cntA 0 hs = f := ⟨_, rfl⟩
  have He := Lib.hid (show cntA 1 (hs.take n) = a ∧ cntA 2 (hs.take n) = d ∧ cntA 0 (hs.take n) = f by rw [← hlen, List.take_length]; exact ⟨ha, hd, hff⟩)
  rw [ha, hd, hff]
  obtain ⟨zn, Hzn⟩ : ∃ zn : Array Value, Hid (zn = zeroHead) := ⟨_, rfl⟩
  have hal : ∀ w : World, (Instr.alloc 91 true (.tuple #[])).run Tryz.prog w = .ok (.pointer (some ⟨w.heap.size, 0, none⟩)) (w.alloc (.cells zn 91)) := by rw [Hzn.out]; exact allocHead
  clear h hD hH hlen hle ha hd hff
  go_enter Tryz.func14, Tryz.ntmps14
  go_wp2_with (first
    | (go_at_call 39; refine Hh.out.mono ?_))
  rintro e w1 ⟨y, rfl, hy1, hb1, hyw⟩
  clear Hh hyw
  go_wp2
  go_loopg [24, 8, 9, 10] n (fun m v va vd vf wr => ∃ k : Nat, m = n - k ∧ k ≤ n ∧ v = .int .i64 k ∧ va = .int .i64 (cntA 1 (hs.take k) : Nat) ∧ vd = .int .i64 (cntA 2 (hs.take k) : Nat) ∧ vf = .int .i64 (cntA 0 (hs.take k) : Nat) ∧ wr.heap[y]? = some (.cells (rowH hs) 91 (0, 0)) ∧ Below w.heap.size w wr)
  case atStart => exact ⟨0, rfl, by omega, rfl, rfl, rfl, rfl, hy1, hb1⟩
  case round =>
    clear hb1 hy1
    obtain ⟨k, rfl, hk, rfl, rfl, rfl, rfl, hyr, hb⟩ := hrel
    by_cases hlt : k < n
    · have hlt' : (k : Int) < (n : Int) := by omega
      have hks : k < hs.length := by rw [HL.out]; exact hlt
      have hHk := HH.out _ (getD_mem hks).1
      have hrow := rowH_at (fun h hh => (HH.out h hh).len) hks hyr
      have hgk := (getD_mem hks).2
      obtain ⟨hd0, hhd0⟩ : ∃ hd0, hs.getD k [] = hd0 := ⟨_, rfl⟩
      rw [hhd0] at hHk hrow hgk
      have s1 := cntA_take (c := 1) hgk
      have s2 := cntA_take (c := 2) hgk
      have s0 := cntA_take (c := 0) hgk
      have l1 := Hle.out 1 k; have l2 := Hle.out 2 k; have l0 := Hle.out 0 k
      have q1 := hHk.le4 1; have q2 := hHk.le4 2; have q0 := hHk.le4 0
      have hdl := hHk.len
      obtain ⟨hv, Hhv⟩ : ∃ hv : List Value, Hid (hv = hd0.map cu8) := ⟨_, rfl⟩
      rw [← Hhv.out] at hrow
      have HRg := Lib.hid hrow
      have hV : headV hd0 = .agg hv.toArray := by rw [Hhv.out]; rfl
      have hcn := fun (s : UInt8) (W : World) => hcount_any (w := W) hd0 hdl s
      rw [hV] at hcn
      obtain ⟨c1, hc1⟩ : ∃ c1, hd0.count 1 = c1 := ⟨_, rfl⟩
      obtain ⟨c2, hc2⟩ : ∃ c2, hd0.count 2 = c2 := ⟨_, rfl⟩
      obtain ⟨c0, hc0⟩ : ∃ c0, hd0.count 0 = c0 := ⟨_, rfl⟩
      have Hc1 := Lib.hid (fun W => (show Calls Tryz.prog 40 #[.agg hv.toArray, .int .u8 1] W (RetP (.int .i64 (c1 : Nat)) W) by have := hcn 1 W; rw [hc1, cu8_nat] at this; exact this))
      have Hc2 := Lib.hid (fun W => (show Calls Tryz.prog 40 #[.agg hv.toArray, .int .u8 2] W (RetP (.int .i64 (c2 : Nat)) W) by have := hcn 2 W; rw [hc2, cu8_nat] at this; exact this))
      have Hc0 := Lib.hid (fun W => (show Calls Tryz.prog 40 #[.agg hv.toArray, .int .u8 0] W (RetP (.int .i64 (c0 : Nat)) W) by have := hcn 0 W; rw [hc0, cu8_nat] at this; exact this))
      rw [hc1] at s1 q1; rw [hc2] at s2 q2; rw [hc0] at s0 q0
      obtain ⟨a1, ha1⟩ : ∃ a1, cntA 1 (hs.take k) = a1 := ⟨_, rfl⟩
      obtain ⟨a2, ha2⟩ : ∃ a2, cntA 2 (hs.take k) = a2 := ⟨_, rfl⟩
      obtain ⟨a0, ha0⟩ : ∃ a0, cntA 0 (hs.take k) = a0 := ⟨_, rfl⟩
      rw [ha1] at s1 l1 ⊢; rw [ha2] at s2 l2 ⊢; rw [ha0] at s0 l0 ⊢
      have S1 := Lib.hid s1; have S2 := Lib.hid s2; have S0 := Lib.hid s0
      have hvl : hv.length = 4 := by rw [Hhv.out]; simp [hdl]
      have hi : Hid ((Tryz.prog.info? 91).map (·.size) = some hv.toArray.size) := by rw [List.size_toArray, hvl]; exact infoHead
      have hi4 : Hid ((Tryz.prog.info? 91).map (·.size) = some hv.length) := by rw [hvl]; exact infoHead
      have hz : Hid (zn.size = hv.toArray.size) := by
        have e : hv.toArray.size = 4 := by rw [List.size_toArray, hvl]
        rw [e, Hzn.out]; exact (rfl : zeroHead.size = 4)
      have h1 : Hid (hv.toArray.all (·.oneCell') = true) := by rw [Hhv.out]; exact bytes_one _
      have hb3 : Below wr.heap.size wr (wr.alloc (.cells hv.toArray 91)) := (Below.refl _ _).alloc (Nat.le_refl _) _
      have hx3 : (wr.alloc (.cells hv.toArray 91)).heap[wr.heap.size]? = some (.cells hv.toArray 91 (0, 0)) := heap_alloc_new wr _
      have hyr3 := (hb3.block y (Array.getElem?_eq_some_iff.1 hyr).1).trans hyr
      have hbw3 := hb.trans (hb3.mono hb.size)
      clear hV hrow hb hb3 hyr hHk hhd0 hcn hc1 hc2 hc0 ha1 ha2 ha0 s1 s2 s0 hgk hdl hvl
      go_wp2_with (first
        | (refine wpList_alloc_arr rfl 91 rfl _ hal ?_)
        | (refine wpList_load_mid rfl 91 _ rfl y (k * 4) rfl hv _ HRg.out Tryz.underlying91 rfl hi4.out ?_)
        | (refine wpList_store_new rfl 91 _ _ rfl wr.heap.size rfl hv.toArray rfl rfl 91 _ hi.out hz.out h1.out ?_)
        | (refine wpList_load_row rfl 91 _ rfl wr.heap.size rfl 91 hv.toArray (0, 0) _ hx3 Tryz.underlying91 rfl hi.out ?_)
        | (go_at_call 40; refine (Hc1.out _).mono ?_))
      rintro e w4 ⟨rfl, hb4⟩
      obtain ⟨r, hr⟩ : ∃ r, wr.heap.size = r := ⟨_, rfl⟩
      rw [hr] at hx3 ⊢
      have hx4 := (hb4.block r (Array.getElem?_eq_some_iff.1 hx3).1).trans hx3
      have hyr4 := (hb4.block y (Array.getElem?_eq_some_iff.1 hyr3).1).trans hyr3
      have hbw4 := hbw3.trans (hb4.mono hbw3.size)
      clear hr hx3 hyr3 hbw3 hb4 Hc1 HRg
      go_wp2_with (first
        | (refine wpList_load_row rfl 91 _ rfl r rfl 91 hv.toArray (0, 0) _ hx4 Tryz.underlying91 rfl hi.out ?_)
        | (go_at_call 40; refine (Hc2.out _).mono ?_))
      rintro e w5 ⟨rfl, hb5⟩
      have hx5 := (hb5.block r (Array.getElem?_eq_some_iff.1 hx4).1).trans hx4
      have hyr5 := (hb5.block y (Array.getElem?_eq_some_iff.1 hyr4).1).trans hyr4
      have hbw5 := hbw4.trans (hb5.mono hbw4.size)
      clear hx4 hyr4 hbw4 hb5 Hc2
      go_wp2_with (first
        | (refine wpList_load_row rfl 91 _ rfl r rfl 91 hv.toArray (0, 0) _ hx5 Tryz.underlying91 rfl hi.out ?_)
        | (go_at_call 40; refine (Hc0.out _).mono ?_))
      rintro e w6 ⟨rfl, hb6⟩
      have hyr6 := (hb6.block y (Array.getElem?_eq_some_iff.1 hyr5).1).trans hyr5
      have hbw6 := hbw5.trans (hb6.mono hbw5.size)
      have Hyr6 := Lib.hid hyr6; have Hbw6 := Lib.hid hbw6
      clear hx5 hyr5 hbw5 hb6 Hc0 hyr6 hbw6
      go_wp2
      go_roundg (n - (k + 1))
      case measure => omega
      case rel => exact ⟨k + 1, rfl, by omega, by go_num, by rw [S1.out]; go_num, by rw [S2.out]; go_num, by rw [S0.out]; go_num, Hyr6.out, Hbw6.out⟩
    · obtain rfl : k = n := by omega
      have hlt' : ¬ ((k : Int) < (k : Int)) := by omega
      rw [He.out.1, He.out.2.1, He.out.2.2]
      have Hb := Lib.hid hb
      clear hyr hb
      go_wp2
      first | exact ⟨rfl, Hb.out⟩ | (go_ret; exact ⟨rfl, Hb.out⟩) | refine bodyPost_ret (v := .tuple #[.int .i64 (a : Nat), .int .i64 (d : Nat), .int .i64 (f : Nat), .nilIface]) (by simp [results, Tryz.results14, go_sem]) rfl ⟨rfl, Hb.out⟩
end
end Go.Proofs.YtjkkbceddbkejaaGreatDoor
