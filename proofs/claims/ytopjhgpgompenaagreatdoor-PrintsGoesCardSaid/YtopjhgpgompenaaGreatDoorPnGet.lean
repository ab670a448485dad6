/-
  Package prints: get, Get.
-/
import Derived.Test.YtopjhgpgompenaaGreatDoorPnLook
set_option linter.unusedSimpArgs false
set_option linter.unusedVariables false
namespace Go.Proofs.YtopjhgpgompenaaGreatDoor
open Go.RowKit Sh Go.Maps Go.Extern.Stop Go.Stop Go.Extern

def PGetP (E : Ent) (k : Int) (w : World) (e : Ending) (w' : World) : Prop := ∃ v, e = .returned (.tuple #[entV E, v]) ∧ ErrV w' k v ∧ Below w.heap.size w w'
theorem ent_box0 (w : World) : Below w.heap.size w (w.alloc (.cells (entC noE).toArray 73)) ∧ (w.alloc (.cells (entC noE).toArray 73)).heap[w.heap.size]? = some (.cells (entC noE).toArray 73 (0, 0)) :=
  ⟨(Below.refl w.heap.size w).alloc (Nat.le_refl _) _, heap_alloc_new _ _⟩
section
variable {w : World}
set_option maxRecDepth 100000 in
set_option maxHeartbeats 8000000 in
/-- Get, where get answers. -/
theorem pGet_of {bp : Value} {i n : Int} {q : Ent} (hql : q.dg.length = 32) (hpg : Calls Tryz.prog 76 #[bp, .int .i64 i] (w.alloc (.cells (entC noE).toArray 73)) (PGetP q n (w.alloc (.cells (entC noE).toArray 73)))) :
    Calls Tryz.prog 35 #[bp, .int .i64 i] w (PGetP q n w) := by
  obtain ⟨hb1, hr1⟩ := ent_box0 w
  obtain ⟨zv, Hz⟩ : ∃ zv : Array Value, Hid (zv = (entC noE).toArray) := ⟨_, rfl⟩
  have hal : ∀ w : World, (Instr.alloc 73 true (.tuple #[])).run Tryz.prog w = .ok (.pointer (some ⟨w.heap.size, 0, none⟩)) (w.alloc (.cells zv 73)) := by rw [Hz.out]; exact allocEnt
  rw [← Hz.out] at hb1 hr1 hpg
  have Hpg := Lib.hid hpg
  obtain ⟨qv, Hqv⟩ : ∃ qv : List Value, Hid (qv = entC q) := ⟨_, rfl⟩
  have hqV : entV q = .agg qv.toArray := by rw [Hqv.out]; rfl
  have hqi : Hid ((Tryz.prog.info? 73).map (·.size) = some qv.toArray.size) := by rw [Hqv.out, List.size_toArray, entC_len hql]; exact infoEnt
  have hqz : Hid (zv.size = qv.toArray.size) := by rw [Hqv.out, Hz.out, List.size_toArray, List.size_toArray, entC_len hql]; rfl
  have hq1 : Hid (qv.toArray.all (·.oneCell') = true) := by rw [Hqv.out]; exact all_oneCell_toArray (entC_one q)
  clear hpg
  go_enter Tryz.func35, Tryz.ntmps35
  go_wp2_with (first
    | (refine wpList_alloc_arr rfl 73 rfl _ hal ?_)
    | (go_at_call 76; refine Hpg.out.mono ?_))
  generalize w.alloc (.cells zv 73) = w1 at hb1 hr1 Hpg ⊢
  obtain ⟨r, hr⟩ : ∃ r, w.heap.size = r := ⟨_, rfl⟩
  rw [hr] at hr1 hb1 ⊢
  have Hr := Lib.hid hr
  rintro e w2 ⟨v2, rfl, hE2, hb2⟩
  rw [hqV]
  have hrl1 : r < w1.heap.size := (Array.getElem?_eq_some_iff.1 hr1).1
  have hr2 := (hb2.block r hrl1).trans hr1
  have hbel2 := hb1.trans (hb2.mono (by omega))
  clear hr Hpg hr1 hb1
  go_upto_region 2 with (first
    | (refine wpList_alloc_arr rfl 73 rfl _ hal ?_)
    | (refine wpList_store_new rfl 73 _ _ rfl w2.heap.size rfl qv.toArray rfl rfl 73 _ hqi.out hqz.out hq1.out ?_))
  have hrl2 : r < w2.heap.size := (Array.getElem?_eq_some_iff.1 hr2).1
  have hb3 : Below w2.heap.size w2 (w2.alloc (.cells qv.toArray 73)) := (Below.refl _ _).alloc (Nat.le_refl _) _
  have hy3 : (w2.alloc (.cells qv.toArray 73)).heap[w2.heap.size]? = some (.cells qv.toArray 73 (0, 0)) := heap_alloc_new w2 _
  have hr3 := (hb3.block r hrl2).trans hr2
  have hE3 := hE2.below hb3
  have hbel3 := hbel2.trans (hb3.mono (by omega))
  generalize w2.alloc (.cells qv.toArray 73) = w3 at hb3 hy3 hr3 hE3 hbel3 ⊢
  obtain ⟨y, hy⟩ : ∃ y, w2.heap.size = y := ⟨_, rfl⟩
  rw [hy] at hy3 ⊢
  clear hy hb3 hr2 hE2 hb2 hbel2 hrl2 hrl1
  have hyl : y < w3.heap.size := (Array.getElem?_eq_some_iff.1 hy3).1
  have hrl3 : r < w3.heap.size := (Array.getElem?_eq_some_iff.1 hr3).1
  have hqi2 : Hid ((Tryz.prog.info? 73).map (·.size) = some qv.length) := by have := hqi.out; rwa [List.size_toArray] at this
  have HL := Lib.hid (fun W (hW : Below w3.heap.size w3 W) => run_loadAt_mid (P := Tryz.prog) W y 0 73 qv _ (fun j v hj => by rw [Nat.zero_add, cell_of_row W y j _ _ _ ((hW.block y hyl).trans hy3)]; simpa using hj) Tryz.underlying73 rfl hqi2.out)
  have Hin := Lib.hid (fun W (hW : Below w3.heap.size w3 W) => in_err ⟨#[112, 114, 105, 110, 116, 115, 46, 71, 101, 116]⟩ n v2 W (hE3.below hW))
  refine wp_region_up 3 (fun w' => Below w3.heap.size w3 w') (by kernel_rfl) ?_
  have hb4 : Below w3.heap.size w3 { w3 with drawn := w3.drawn + 1 } := ⟨rfl, rfl, rfl, Nat.le_refl _, fun _ _ => rfl⟩
  obtain ⟨wd, hdr⟩ : ∃ wd : World, ({ w3 with drawn := w3.drawn + 1 } : World) = wd := ⟨_, rfl⟩
  rw [hdr] at hb4 ⊢
  clear hdr
  refine up_take (i := 0) (v := .agg qv.toArray) rfl (by kernel_rfl) (by kernel_rfl) (fun _ _ _ h => h) (Or.inl ⟨by rfl, ?_⟩) hb4 ?_
  · intro w' hS'; exact exec_load _ _ 73 _ rfl y 0 rfl _ (HL.out w' hS')
  try simp only [List.getElem_toArray, List.getElem_cons_succ, List.getElem_cons_zero, Act.put, List.setIfInBounds_toArray, List.set]
  refine up_take (i := 1) (v := v2) rfl (by kernel_rfl) (by kernel_rfl) (fun _ _ _ h => h) (Or.inl ⟨by rfl, ?_⟩) hb4 ?_
  · intro w' _; go_simp
  try simp only [List.getElem_toArray, List.getElem_cons_succ, List.getElem_cons_zero, Act.put, List.setIfInBounds_toArray, List.set]
  refine up_one 2 _ rfl (by kernel_rfl) (by decide) (by rfl) (fun K hK => ?_)
  go_simp
  refine (Hin.out _ hb4).mono ?_
  rintro e w5 ⟨v5, rfl, hE5, hq⟩
  have hb5 := hb4.trans (hq.mono hb4.size)
  refine hK _ _ hb5 ?_
  clear hK K
  try simp only [List.getElem_toArray, List.getElem_cons_succ, List.getElem_cons_zero, Act.put, List.setIfInBounds_toArray, List.set]
  clear hq
  refine up_tail ?_
  refine up_last 3 _ rfl (by kernel_rfl) (by decide) (by rfl) (fun K hK => ?_)
  refine wp_store_whole 73 _ _ rfl r qv.toArray rfl rfl zv 73 ((hb5.block r hrl3).trans hr3) hqi.out hqz.out hq1.out ?_
  intro w6 Hs6 Hg6
  refine hK _ _ ?_
  clear hK K
  try simp only [List.getElem_toArray, List.getElem_cons_succ, List.getElem_cons_zero, Act.put, List.setIfInBounds_toArray, List.set]
  refine up_last 4 _ rfl (by kernel_rfl) (by decide) (by rfl) (fun K hK => ?_)
  go_simp
  refine hK _ _ ?_
  clear hK K
  try simp only [List.getElem_toArray, List.getElem_cons_succ, List.getElem_cons_zero, Act.put, List.setIfInBounds_toArray, List.set]
  refine up_done (by kernel_rfl) ?_ _
  have hr6 := Hs6.out
  have hbel6 : Below r w w6 := below_of_grown (hbel3.trans (hb5.mono (by omega))) Hg6.out (by have := hb5.size; have := hbel3.size; have := Hr.out; omega) (Nat.le_refl _)
  have hE6 : ErrV w6 n v5 := hE5.other (r := r) (fun s => by
    rw [cell_of_row w5 r 0 _ _ _ ((hb5.block r hrl3).trans hr3), Hz.out]
    simp [entC, noE, cu8]) Hg6.out
  clear Hs6 Hg6 hE5 hb5 hb4 hbel3 hr3
  go_wp2
  refine bodyPost_ret (v := .tuple #[.agg qv.toArray, v5]) ?_ rfl ⟨v5, by rw [hqV], hE6, by rw [Hr.out]; exact hbel6⟩
  exact results_cell_row_tmp (ty := 73) rfl _ _ r 73 _ (0, 0) _ rfl hr6 Tryz.underlying73 rfl hqi.out _ rfl
end
section
variable {b : Bk} {gd g first n x : Nat} {T : List (Nat × Obj)} {w0 w : World} {es : List Ent}
set_option maxRecDepth 100000 in
set_option maxHeartbeats 4000000 in
theorem pget_nil (w : World) (i : Int) : Calls Tryz.prog 76 #[.pointer none, .int .i64 i] w (PGetP noE 1 w) := by
  obtain ⟨hb1, hr1⟩ := ent_box0 w
  obtain ⟨zv, Hz⟩ : ∃ zv : Array Value, Hid (zv = (entC noE).toArray) := ⟨_, rfl⟩
  have hbz : Hid (Tryz.prog.built 73 [] = some zv) := by rw [Hz.out]; exact builtEnt0
  have hal : ∀ w : World, (Instr.alloc 73 true (.tuple #[])).run Tryz.prog w = .ok (.pointer (some ⟨w.heap.size, 0, none⟩)) (w.alloc (.cells zv 73)) := by rw [Hz.out]; exact allocEnt
  rw [← Hz.out] at hb1 hr1
  have hzi : Hid ((Tryz.prog.info? 73).map (·.size) = some zv.size) := by rw [Hz.out, List.size_toArray, entC_len (by simp [noE])]; exact infoEnt
  have hz1 : Hid (zv.all (·.oneCell') = true) := by rw [Hz.out]; exact all_oneCell_toArray (entC_one noE)
  have Hr1 := Lib.hid hr1
  clear hr1
  go_enter Tryz.func76, Tryz.ntmps76
  go_wp2_with (first
    | (refine wpList_alloc_arr rfl 73 rfl _ hal ?_)
    | (go_at_call 103; refine (phas_nil _ _).mono ?_; rintro e w' ⟨rfl, rfl⟩)
    | (refine wpList_buildZ 73 rfl zv hbz.out (by rfl) ?_)
    | (refine wpList_store_row rfl 73 _ _ rfl w.heap.size zv rfl rfl 73 zv Hr1.out hzi.out rfl hz1.out ?_))
  have hb2 := below_setRow (g := w.heap.size) hb1 (Nat.le_refl _) zv
  refine bodyPost_ret (v := .tuple #[.agg zv, .iface 108 (.int .i64 1)]) ?_ rfl ⟨_, by rw [Hz.out]; rfl, .inr ⟨by decide, [], rfl⟩, hb2⟩
  exact results_cell_row_tmp (ty := 73) rfl _ _ w.heap.size 73 _ (0, 0) _ rfl (setRow_heap _ _ _ _ _ _ Hr1.out) Tryz.underlying73 rfl hzi.out _ rfl
theorem pGet_nil (w : World) (i : Int) : Calls Tryz.prog 35 #[.pointer none, .int .i64 i] w (PGetP noE 1 w) := pGet_of (by simp [noE]) (pget_nil _ i)
/-- What get answers. -/
def getE (e : Ent) : Ent × Int := if e.refs = 0 then (noE, 23) else (e, 0)
set_option maxRecDepth 100000 in
set_option maxHeartbeats 8000000 in
theorem OwnX.pget (h : OwnX b gd g T w0 w) (hT : (x, tabO g first n) ∈ T) (hTa : Ta b first n es) (hf : first ≤ 2000) (hn : n ≤ 2000) {i : Nat} (hi : i < n) :
    Calls Tryz.prog 76 #[.pointer (some ⟨x, 0, none⟩), .int .i64 i] w (PGetP (getE (es.getD i noE)).1 (getE (es.getD i noE)).2 w) := by
  obtain ⟨hb1, hr1⟩ := ent_box0 w
  obtain ⟨zv, Hz⟩ : ∃ zv : Array Value, Hid (zv = (entC noE).toArray) := ⟨_, rfl⟩
  have hbz : Hid (Tryz.prog.built 73 [] = some zv) := by rw [Hz.out]; exact builtEnt0
  have hal : ∀ w : World, (Instr.alloc 73 true (.tuple #[])).run Tryz.prog w = .ok (.pointer (some ⟨w.heap.size, 0, none⟩)) (w.alloc (.cells zv 73)) := by rw [Hz.out]; exact allocEnt
  rw [← Hz.out] at hb1 hr1
  have hzi : Hid ((Tryz.prog.info? 73).map (·.size) = some zv.size) := by rw [Hz.out, List.size_toArray, entC_len (by simp [noE])]; exact infoEnt
  have hz1 : Hid (zv.all (·.oneCell') = true) := by rw [Hz.out]; exact all_oneCell_toArray (entC_one noE)
  have hX1 := h.below hb1
  have Hhas := Lib.hid (phas_yes (hX1.tab hT) hi)
  have hen := hX1.pentry hT hTa hf hn hi
  have hok := hTa.eok hi
  obtain ⟨E, hE⟩ : ∃ E, es.getD i noE = E := ⟨_, rfl⟩
  rw [hE] at hen hok ⊢
  obtain ⟨ev, Hev⟩ : ∃ ev : List Value, Hid (ev = entC E) := ⟨_, rfl⟩
  have hV : entV E = .agg ev.toArray := by rw [Hev.out]; rfl
  rw [hV] at hen
  have hel : ev.length = 34 := by rw [Hev.out]; exact entC_len hok.dg
  have hei : Hid ((Tryz.prog.info? 73).map (·.size) = some ev.toArray.size) := by rw [List.size_toArray, hel]; exact infoEnt
  have hez : Hid (zv.size = ev.toArray.size) := by
    have e : ev.toArray.size = 34 := by rw [List.size_toArray, hel]
    rw [e, Hz.out]; exact (rfl : (entC noE).toArray.size = 34)
  have he1 : Hid (ev.toArray.all (·.oneCell') = true) := by rw [Hev.out]; exact all_oneCell_toArray (entC_one E)
  have Hen := Lib.hid hen; have Hr1 := Lib.hid hr1
  obtain ⟨Q, HQ⟩ : ∃ Q, Hid (getE E = Q) := ⟨_, rfl⟩
  rw [HQ.out]
  obtain ⟨C, hC⟩ : ∃ C, E.refs = C := ⟨_, rfl⟩
  clear hX1 hen hE h hr1 hTa
  go_enter Tryz.func76, Tryz.ntmps76
  go_wp2_with (first
    | (refine wpList_alloc_arr rfl 73 rfl _ hal ?_)
    | (go_at_call 103; refine Hhas.out.mono ?_; rintro e w' ⟨rfl, rfl⟩)
    | (go_at_call 104; refine Hen.out.mono ?_))
  rintro e2 w2 ⟨rfl, hb2⟩
  have hr2 := (hb2.block w.heap.size (Array.getElem?_eq_some_iff.1 Hr1.out).1).trans Hr1.out
  have hbw2 := hb1.trans (hb2.mono hb1.size)
  obtain ⟨r, hr⟩ : ∃ r, w.heap.size = r := ⟨_, rfl⟩
  rw [hr] at hr2 ⊢
  have Hr := Lib.hid hr
  have hb3 : Below w2.heap.size w2 (w2.alloc (.cells ev.toArray 73)) := (Below.refl _ _).alloc (Nat.le_refl _) _
  have hx3 : (w2.alloc (.cells ev.toArray 73)).heap[w2.heap.size]? = some (.cells ev.toArray 73 (0, 0)) := heap_alloc_new w2 _
  have c33 := (ent_box (x := w2.heap.size) (e := E) (by rw [hx3, Hev.out]) hok.dg).2
  rw [hC] at c33
  have hr3 := (hb3.block r (Array.getElem?_eq_some_iff.1 hr2).1).trans hr2
  have hbw3 := hbw2.trans (hb3.mono hbw2.size)
  clear hr hb1 hb2 hr2 hbw2 hb3 Hhas Hen Hr1
  by_cases h0 : C = 0
  · have hQ := HQ.out
    unfold getE at hQ
    rw [if_pos (by rw [hC]; exact h0)] at hQ
    subst hQ h0
    clear hx3
    go_wp2_with (first
      | (refine wpList_alloc_arr rfl 73 rfl _ hal ?_)
      | (refine wpList_store_new rfl 73 _ _ rfl w2.heap.size rfl ev.toArray rfl rfl 73 _ hei.out hez.out he1.out ?_)
      | (refine wpList_buildZ 73 rfl zv hbz.out (by rfl) ?_)
      | (refine wpList_store_row rfl 73 _ _ rfl r zv rfl rfl 73 zv hr3 hzi.out rfl hz1.out ?_))
    have hb4 := below_setRow (g := r) hbw3 (by rw [Hr.out]; exact Nat.le_refl _) zv
    refine bodyPost_ret (v := .tuple #[.agg zv, .iface 108 (.int .i64 23)]) ?_ rfl ⟨_, by rw [Hz.out]; rfl, .inr ⟨by decide, [], rfl⟩, hb4⟩
    exact results_cell_row_tmp (ty := 73) rfl _ _ r 73 _ (0, 0) _ rfl (setRow_heap _ _ _ _ _ _ hr3) Tryz.underlying73 rfl hzi.out _ rfl
  · have hQ := HQ.out
    unfold getE at hQ
    rw [if_neg (by rw [hC]; exact h0)] at hQ
    subst hQ
    have h0' : ¬ ((C : Int) = 0) := by omega
    have h0b : ((C : Int) == 0) = false := by simpa using h0
    clear h0
    go_wp2_with (first
      | (refine wpList_alloc_arr rfl 73 rfl _ hal ?_)
      | (refine wpList_store_new rfl 73 _ _ rfl w2.heap.size rfl ev.toArray rfl rfl 73 _ hei.out hez.out he1.out ?_)
      | (refine wpList_load_row rfl 73 _ rfl w2.heap.size rfl 73 ev.toArray (0, 0) _ hx3 Tryz.underlying73 rfl hei.out ?_)
      | (refine wpList_store_row rfl 73 _ _ rfl r ev.toArray rfl rfl 73 zv hr3 hei.out hez.out he1.out ?_))
    have hb4 := below_setRow (g := r) hbw3 (by rw [Hr.out]; exact Nat.le_refl _) ev.toArray
    refine bodyPost_ret (v := .tuple #[.agg ev.toArray, .nilIface]) ?_ rfl ⟨.nilIface, by rw [← hV], ErrV.nil, hb4⟩
    exact results_cell_row_tmp (ty := 73) rfl _ _ r 73 _ (0, 0) _ rfl (setRow_heap _ _ _ _ _ _ hr3) Tryz.underlying73 rfl hei.out _ rfl
/-- Get. -/
theorem OwnX.pGet (h : OwnX b gd g T w0 w) (hT : (x, tabO g first n) ∈ T) (hTa : Ta b first n es) (hf : first ≤ 2000) (hn : n ≤ 2000) {i : Nat} (hi : i < n) :
    Calls Tryz.prog 35 #[.pointer (some ⟨x, 0, none⟩), .int .i64 i] w (PGetP (getE (es.getD i noE)).1 (getE (es.getD i noE)).2 w) :=
  pGet_of (by unfold getE; split; simp [noE]; exact (hTa.eok hi).dg) ((h.below (ent_box0 w).1).pget hT hTa hf hn hi)
end
end Go.Proofs.YtopjhgpgompenaaGreatDoor
