/-
  The reference's ring: at.
-/
import Derived.Test.YtegdlpllljccgaaDoorRgRef
import Derived.Deep.RegionHeld
set_option linter.unusedSimpArgs false
set_option linter.unusedVariables false
namespace Go.Proofs.YtegdlpllljccgaaDoor
open Go.RowKit Sh

theorem wpAnyH_oneR {P : Program} {md : Region.Mode} {ops : Array Oper} {Q : Exit → Act → World → Prop} {S : World → Prop} {fuel : Nat} {listed : Array Bool} {a : Act} {w : World} (i : Nat) (o : Oper) (hi : ops[i]? = some o) (hr : Region.ready md ops listed = [i])
    (hw : Region.wanted o (yielded ops a.tmps) = true) (h : ∀ K : Act → World → Prop, (∀ a' w', S w' → wpAnyH P md ops Q S fuel (listed.setIfInBounds i true) a' w' → K a' w') → Oper.wp P o a w K Q) : wpAnyH P md ops Q S (fuel + 1) listed a w := by
  refine wpAnyH_all hr (by simp) (fun j hj => ?_)
  obtain rfl : j = i := by simpa using hj
  unfold wpOp
  simp only [hi, hw, if_true]
  exact .inl (h _ fun _ _ h1 h2 => ⟨h1, h2⟩)

section
variable {g gd first n used : Nat} {m : Mk} {w w' : World}
set_option maxRecDepth 100000 in
set_option maxHeartbeats 4000000 in
/-- at: a place's page. -/
theorem rat_any {S : St} {F : Nat → Prop} (h : RgAt g gd first n m used w) (hD : RD S F gd w) (hG : Good S) (hn : S.ats.length ≤ 1048576) (hn0 : 0 < n) (hn1 : n ≤ 4096) (hf : first ≤ 4096) (i : Nat) (hi : i ≤ 8192) :
    Calls Tryd.prog 59 #[.pointer (some ⟨g, 0, none⟩), .int .i64 i] w (ReadPost (readOf S ((first + i % n : Nat) : Int)).1 (readOf S ((first + i % n : Nat) : Int)).2 w) := by
  have hb1 := (Below.refl w.heap.size w).alloc (Nat.le_refl _) (.cells zeros64 63)
  have hmod := Nat.mod_lt i hn0
  obtain ⟨q, hq⟩ : ∃ q : Nat, first + i % n = q := ⟨_, rfl⟩
  have w1 : Int.tmod (i : Int) n = ((i % n : Nat) : Int) := by rw [Int.tmod_eq_emod_of_nonneg (by omega)]; omega
  have hn2 : ¬ n = 0 := by omega
  have w0 : IntKind.i64.wrap ((first : Int) + (i : Int) % n) = (q : Int) := by rw [IntWalk.i64_in _ (by omega)]; omega
  have w1b : IntKind.i64.wrap (((i % n : Nat) : Int)) = ((i % n : Nat) : Int) := IntWalk.i64_in _ (by omega)
  have w2 : IntKind.i64.wrap ((first : Int) + ((i % n : Nat) : Int)) = (q : Int) := by rw [IntWalk.i64_in _ (by omega)]; omega
  have hnew : (w.alloc (.cells zeros64 63)).heap[w.heap.size]? = some (.cells zeros64 63 (0, 0)) := heap_alloc_new w _
  have hPg := page_of_read hD.newPages (q : Int)
  obtain ⟨pg, hpg⟩ : ∃ pg, (readOf S (q : Int)).1 = pg := ⟨_, rfl⟩
  obtain ⟨en, hen⟩ : ∃ en, (readOf S (q : Int)).2 = en := ⟨_, rfl⟩
  have hz1 := page_size (p := pg) (by rw [← hpg]; exact hPg)
  have hz2 := page_all (p := pg) (by rw [← hpg]; exact hPg)
  rw [hpg] at hPg
  have hsz64 : pg.toArray.size = 64 := by rw [List.size_toArray]; exact hPg.1
  have hz3 : Hid (zeros64.size = pg.toArray.size) := by rw [hsz64]; exact (rfl : zeros64.size = 64)
  rw [hq, hpg, hen]
  go_enter Tryd.func59, Tryd.ntmps59
  go_wp2_with (first
    | (refine wpList_alloc_arr rfl 63 rfl _ alloc64 ?_))
  generalize w.alloc (.cells zeros64 63) = wa at hb1 hnew ⊢
  refine wp_region_held (S := RgAt g gd first n m used) (by kernel_rfl) ?_
  change wpAnyH _ _ _ _ _ _ _ _ (World.drew _)
  have hb2 : Below w.heap.size w wa.drew := hb1.drew
  have hnew2 : wa.drew.heap[w.heap.size]? = some (.cells zeros64 63 (0, 0)) := hnew
  clear hnew hb1
  generalize wa.drew = wd at hb2 hnew2 ⊢
  have hS0 := h.below hb2
  have hr := rd_read (hD.below hb2) hG hn (q : Int)
  rw [hpg, hen] at hr
  refine wpAnyH_take (i := 0) (v := .pointer (some ⟨g, 0, none⟩)) rfl (by kernel_rfl) (by kernel_rfl) (by kernel_rfl) (fun _ _ _ h => h) (Or.inl ⟨by rfl, ?_⟩) hS0 ?_
  · intro w' _; go_simp
  try simp only [List.getElem_toArray, List.getElem_cons_succ, List.getElem_cons_zero, Act.put, List.setIfInBounds_toArray, List.set]
  refine wpAnyH_take (i := 1) (v := .pointer (some ⟨g, 0, none⟩)) rfl (by kernel_rfl) (by kernel_rfl) (by kernel_rfl) (fun _ _ _ h => h) (Or.inl ⟨by rfl, ?_⟩) hS0 ?_
  · intro w' _; go_simp
  try simp only [List.getElem_toArray, List.getElem_cons_succ, List.getElem_cons_zero, Act.put, List.setIfInBounds_toArray, List.set]
  refine wpAnyH_take (i := 2) (v := .pointer (some ⟨g, 0, none⟩)) rfl (by kernel_rfl) (by kernel_rfl) (by kernel_rfl) (fun _ _ _ h => h) (Or.inl ⟨by rfl, ?_⟩) hS0 ?_
  · intro w' _; go_simp
  try simp only [List.getElem_toArray, List.getElem_cons_succ, List.getElem_cons_zero, Act.put, List.setIfInBounds_toArray, List.set]
  refine wpAnyH_take (i := 3) (v := (.pointer (some ⟨gd, 0, none⟩))) rfl (by kernel_rfl) (by kernel_rfl) (by kernel_rfl) (fun _ _ _ h => h) (Or.inl ⟨by rfl, ?_⟩) hS0 ?_
  · intro w' hS'
    obtain ⟨c0, c1, c2, c3, c4⟩ := RgAt.cells hS'
    clear hS'
    go_simp
  try simp only [List.getElem_toArray, List.getElem_cons_succ, List.getElem_cons_zero, Act.put, List.setIfInBounds_toArray, List.set]
  refine wpAnyH_take (i := 4) (v := .pointer (some ⟨g, 0, none⟩)) rfl (by kernel_rfl) (by kernel_rfl) (by kernel_rfl) (fun _ _ _ h => h) (Or.inl ⟨by rfl, ?_⟩) hS0 ?_
  · intro w' _; go_simp
  try simp only [List.getElem_toArray, List.getElem_cons_succ, List.getElem_cons_zero, Act.put, List.setIfInBounds_toArray, List.set]
  refine wpAnyH_take (i := 5) (v := .pointer (some ⟨g, 0, none⟩)) rfl (by kernel_rfl) (by kernel_rfl) (by kernel_rfl) (fun _ _ _ h => h) (Or.inl ⟨by rfl, ?_⟩) hS0 ?_
  · intro w' _; go_simp
  try simp only [List.getElem_toArray, List.getElem_cons_succ, List.getElem_cons_zero, Act.put, List.setIfInBounds_toArray, List.set]
  refine wpAnyH_take (i := 6) (v := .pointer (some ⟨g, 1, none⟩)) rfl (by kernel_rfl) (by kernel_rfl) (by kernel_rfl) (fun _ _ _ h => h) (Or.inl ⟨by rfl, ?_⟩) hS0 ?_
  · intro w' _; go_simp
  try simp only [List.getElem_toArray, List.getElem_cons_succ, List.getElem_cons_zero, Act.put, List.setIfInBounds_toArray, List.set]
  refine wpAnyH_take (i := 7) (v := (.int .i64 first)) rfl (by kernel_rfl) (by kernel_rfl) (by kernel_rfl) (fun _ _ _ h => h) (Or.inl ⟨by rfl, ?_⟩) hS0 ?_
  · intro w' hS'
    obtain ⟨c0, c1, c2, c3, c4⟩ := RgAt.cells hS'
    clear hS'
    go_simp
  try simp only [List.getElem_toArray, List.getElem_cons_succ, List.getElem_cons_zero, Act.put, List.setIfInBounds_toArray, List.set]
  refine wpAnyH_take (i := 8) (v := (.int .i64 i)) rfl (by kernel_rfl) (by kernel_rfl) (by kernel_rfl) (fun _ _ _ h => h) (Or.inl ⟨by rfl, ?_⟩) hS0 ?_
  · intro w' _; go_simp
  try simp only [List.getElem_toArray, List.getElem_cons_succ, List.getElem_cons_zero, Act.put, List.setIfInBounds_toArray, List.set]
  refine wpAnyH_take (i := 9) (v := .pointer (some ⟨g, 0, none⟩)) rfl (by kernel_rfl) (by kernel_rfl) (by kernel_rfl) (fun _ _ _ h => h) (Or.inl ⟨by rfl, ?_⟩) hS0 ?_
  · intro w' _; go_simp
  try simp only [List.getElem_toArray, List.getElem_cons_succ, List.getElem_cons_zero, Act.put, List.setIfInBounds_toArray, List.set]
  refine wpAnyH_take (i := 10) (v := .pointer (some ⟨g, 0, none⟩)) rfl (by kernel_rfl) (by kernel_rfl) (by kernel_rfl) (fun _ _ _ h => h) (Or.inl ⟨by rfl, ?_⟩) hS0 ?_
  · intro w' _; go_simp
  try simp only [List.getElem_toArray, List.getElem_cons_succ, List.getElem_cons_zero, Act.put, List.setIfInBounds_toArray, List.set]
  refine wpAnyH_take (i := 11) (v := .pointer (some ⟨g, 2, none⟩)) rfl (by kernel_rfl) (by kernel_rfl) (by kernel_rfl) (fun _ _ _ h => h) (Or.inl ⟨by rfl, ?_⟩) hS0 ?_
  · intro w' _; go_simp
  try simp only [List.getElem_toArray, List.getElem_cons_succ, List.getElem_cons_zero, Act.put, List.setIfInBounds_toArray, List.set]
  refine wpAnyH_take (i := 12) (v := (.int .i64 n)) rfl (by kernel_rfl) (by kernel_rfl) (by kernel_rfl) (fun _ _ _ h => h) (Or.inl ⟨by rfl, ?_⟩) hS0 ?_
  · intro w' hS'
    obtain ⟨c0, c1, c2, c3, c4⟩ := RgAt.cells hS'
    clear hS'
    go_simp
  try simp only [List.getElem_toArray, List.getElem_cons_succ, List.getElem_cons_zero, Act.put, List.setIfInBounds_toArray, List.set]
  refine wpAnyH_take (i := 13) (v := (.int .i64 ((i % n : Nat) : Int))) rfl (by kernel_rfl) (by kernel_rfl) (by kernel_rfl) (fun _ _ _ h => h) (Or.inl ⟨by rfl, ?_⟩) hS0 ?_
  · intro w' _; go_simp
  try simp only [List.getElem_toArray, List.getElem_cons_succ, List.getElem_cons_zero, Act.put, List.setIfInBounds_toArray, List.set]
  refine wpAnyH_take (i := 14) (v := (.int .i64 q)) rfl (by kernel_rfl) (by kernel_rfl) (by kernel_rfl) (fun _ _ _ h => h) (Or.inl ⟨by rfl, ?_⟩) hS0 ?_
  · intro w' _; go_simp
  try simp only [List.getElem_toArray, List.getElem_cons_succ, List.getElem_cons_zero, Act.put, List.setIfInBounds_toArray, List.set]
  refine wpAnyH_oneR 15 _ rfl (by kernel_rfl) (by rfl) (fun K hK => ?_)
  go_simp
  refine hr.mono ?_
  rintro e w3 ⟨rfl, hb3⟩
  have hb4 := hb2.trans (hb3.mono hb2.size)
  have hnew3 := (hb3.block _ (Array.getElem?_eq_some_iff.1 hnew2).1).trans hnew2
  refine hK _ _ (h.below hb4) ?_
  clear hK K
  try simp only [List.getElem_toArray, List.getElem_cons_succ, List.getElem_cons_zero, Act.put, List.setIfInBounds_toArray, List.set]
  have hS3 := h.below hb4
  refine wpAnyH_take (i := 16) (v := .agg pg.toArray) rfl (by kernel_rfl) (by kernel_rfl) (by kernel_rfl) (fun _ _ _ h => h) (Or.inl ⟨by rfl, ?_⟩) hS3 ?_
  · intro w' _; go_simp
  try simp only [List.getElem_toArray, List.getElem_cons_succ, List.getElem_cons_zero, Act.put, List.setIfInBounds_toArray, List.set]
  refine wpAnyH_take (i := 17) (v := (.int .i64 en)) rfl (by kernel_rfl) (by kernel_rfl) (by kernel_rfl) (fun _ _ _ h => h) (Or.inl ⟨by rfl, ?_⟩) hS3 ?_
  · intro w' _; go_simp
  try simp only [List.getElem_toArray, List.getElem_cons_succ, List.getElem_cons_zero, Act.put, List.setIfInBounds_toArray, List.set]
  have hb5 : Below w.heap.size w (w3.setRow w.heap.size pg.toArray) := below_setRow hb4 (Nat.le_refl _) _
  refine wpAnyH_oneR 18 _ rfl (by kernel_rfl) (by rfl) (fun K hK => ?_)
  refine wp_store_row 63 _ _ rfl w.heap.size pg.toArray rfl rfl 63 zeros64 hnew3 hz1.out hz3.out hz2.out ?_
  refine hK _ _ (h.below hb5) ?_
  clear hK K
  try simp only [List.getElem_toArray, List.getElem_cons_succ, List.getElem_cons_zero, Act.put, List.setIfInBounds_toArray, List.set]
  have hS5 := h.below hb5
  refine wpAnyH_take (i := 19) (v := (.int .i64 en)) rfl (by kernel_rfl) (by kernel_rfl) (by kernel_rfl) (fun _ _ _ h => h) (Or.inl ⟨by rfl, ?_⟩) hS5 ?_
  · intro w' _; go_simp
  try simp only [List.getElem_toArray, List.getElem_cons_succ, List.getElem_cons_zero, Act.put, List.setIfInBounds_toArray, List.set]
  refine wpAnyH_done (by kernel_rfl) ?_ _
  have hnew5 : (w3.setRow w.heap.size pg.toArray).heap[w.heap.size]? = some (.cells pg.toArray 63 (0, 0)) := setRow_heap _ _ _ _ _ _ hnew3
  generalize w3.setRow w.heap.size pg.toArray = w5 at hb5 hnew5 ⊢
  go_wp2
  refine bodyPost_ret (v := .tuple #[.agg pg.toArray, .int .i64 en]) ?_ rfl ⟨rfl, hb5⟩
  exact results_cell_row_tmp (ty := 63) rfl _ _ w.heap.size 63 _ (0, 0) _ rfl hnew5 Tryd.underlying63 rfl hz1.out _ rfl
end
end Go.Proofs.YtegdlpllljccgaaDoor
