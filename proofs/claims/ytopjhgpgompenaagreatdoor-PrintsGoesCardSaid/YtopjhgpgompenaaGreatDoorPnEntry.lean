/-
  Package prints: a table in memory; entry, has, right.
-/
import Derived.Test.YtopjhgpgompenaaGreatDoorPnPage
set_option linter.unusedSimpArgs false
set_option linter.unusedVariables false
namespace Go.Proofs.YtopjhgpgompenaaGreatDoor
open Go.RowKit Sh Go.Maps Go.Extern.Stop Go.Stop Go.Extern

def TQ2' (x : Value) (w : World) (e : Ending) (w' : World) : Prop := e = .returned (.tuple #[x, .nilIface]) ∧ Below w.heap.size w w'
/-- A table in block x: on the book in g. -/
def TabAt (x g first n : Nat) (w : World) : Prop := w.heap[x]? = some (.cells #[.pointer (some ⟨g, 0, none⟩), .int .i64 first, .int .i64 n] 139 (0, 0))
section
variable {w : World} {x g first n : Nat}
theorem TabAt.cells (h : TabAt x g first n w) : w.cell? ⟨x, 0, none⟩ = some (.pointer (some ⟨g, 0, none⟩)) ∧ w.cell? ⟨x, 1, none⟩ = some (.int .i64 first) ∧ w.cell? ⟨x, 2, none⟩ = some (.int .i64 n) := by
  refine ⟨?_, ?_, ?_⟩ <;> rw [cell_of_row w x _ _ _ _ h] <;> rfl
theorem TabAt.below {w' : World} (h : TabAt x g first n w) (hb : Below w.heap.size w w') : TabAt x g first n w' := (hb.block x (Array.getElem?_eq_some_iff.1 h).1).trans h
set_option maxRecDepth 100000 in
set_option maxHeartbeats 8000000 in
theorem pentry_any (h : TabAt x g first n w) (hf : first ≤ 2048) (i : Nat) (hi : i ≤ 100000) {q : List UInt8} (hql : q.length = 64)
    (hrd : ∀ W, Below w.heap.size w W → Calls Tryz.prog 89 #[.pointer (some ⟨g, 0, none⟩), .int .i64 (first + i : Nat)] W (PageP q 0 W)) :
    Calls Tryz.prog 104 #[.pointer (some ⟨x, 0, none⟩), .int .i64 i] w (RetP (.tuple #[entV (toldE q), .nilIface]) w) := by
  obtain ⟨qv, Hqv⟩ : ∃ qv : List Value, Hid (qv = q.map cu8) := ⟨_, rfl⟩
  have hqV : pageV q = .agg qv.toArray := by rw [Hqv.out]; rfl
  have hqi : Hid ((Tryz.prog.info? 28).map (·.size) = some qv.toArray.size) := by rw [Hqv.out]; exact pageInfo hql
  have hqz : Hid (zeros64.size = qv.toArray.size) := by rw [Hqv.out]; exact pageZ hql
  have hq1 : Hid (qv.toArray.all (·.oneCell') = true) := by rw [Hqv.out]; exact bytes_one _
  obtain ⟨zn, Hzn⟩ : ∃ zn : Array Value, Hid (zn = (entC noE).toArray) := ⟨_, rfl⟩
  have hal : ∀ w : World, (Instr.alloc 73 true (.tuple #[])).run Tryz.prog w = .ok (.pointer (some ⟨w.heap.size, 0, none⟩)) (w.alloc (.cells zn 73)) := by rw [Hzn.out]; exact allocEnt
  obtain ⟨A, hA⟩ : ∃ A, first + i = A := ⟨_, rfl⟩
  have hAI : (first : Int) + (i : Int) = (A : Int) := by omega
  have wA : IntKind.i64.wrap ((first : Int) + (i : Int)) = (A : Int) := by rw [IntWalk.i64_in _ (by omega)]; exact hAI
  have wA3 : IntKind.i64.wrap (A : Int) = (A : Int) := IntWalk.i64_in _ (by omega)
  have hb1 : Below w.heap.size w (w.alloc (.cells zn 73)) := (Below.refl _ _).alloc (Nat.le_refl _) _
  have hr1 : (w.alloc (.cells zn 73)).heap[w.heap.size]? = some (.cells zn 73 (0, 0)) := heap_alloc_new w _
  rw [hA] at hrd
  have hrd' : ∀ W, Below w.heap.size w W → Calls Tryz.prog 89 #[.pointer (some ⟨g, 0, none⟩), .int .i64 (A : Nat)] W (TQ2' (.agg qv.toArray) W) := fun W hW => (hrd W hW).mono fun e w' ⟨v, h1, h2, h3⟩ => ⟨by rw [h1, hqV, ErrV.zero h2], h3⟩
  have HrdW := Lib.hid hrd'
  have h1 := h.below hb1
  have Ht := Lib.hid (fun W => ptold_any q hql W)
  have hok := toldE_ok hql
  obtain ⟨E, hE⟩ : ∃ E, toldE q = E := ⟨_, rfl⟩
  rw [hE] at Ht hok ⊢
  obtain ⟨tv, Htv⟩ : ∃ tv : List Value, Hid (tv = entC E) := ⟨_, rfl⟩
  have htV : entV E = .agg tv.toArray := by rw [Htv.out]; rfl
  rw [htV, hqV] at Ht
  rw [htV]
  have htl : tv.length = 34 := by rw [Htv.out]; exact entC_len hok.dg
  have hti : Hid ((Tryz.prog.info? 73).map (·.size) = some tv.toArray.size) := by rw [List.size_toArray, htl]; exact infoEnt
  have htz : Hid (zn.size = tv.toArray.size) := by
    have e : tv.toArray.size = 34 := by rw [List.size_toArray, htl]
    rw [e, Hzn.out]; exact (rfl : (entC noE).toArray.size = 34)
  have ht1 : Hid (tv.toArray.all (·.oneCell') = true) := by rw [Htv.out]; exact all_oneCell_toArray (entC_one E)
  clear hrd hrd' h hA hE hok htV hqV htl
  go_enter Tryz.func104, Tryz.ntmps104
  go_upto_region 1 with (first
    | (refine wpList_alloc_arr rfl 73 rfl _ hal ?_))
  generalize w.alloc (.cells zn 73) = wr at hb1 hr1 h1 ⊢
  obtain ⟨r, hr⟩ : ∃ r, w.heap.size = r := ⟨_, rfl⟩
  rw [hr] at hr1 ⊢
  have Hr := Lib.hid hr
  clear hr hal
  have Hrd := Lib.hid (fun W (hW : Below wr.heap.size wr W) => HrdW.out W (hb1.trans (hW.mono hb1.size)))
  have HS := Lib.hid h1
  refine wp_region_up 16 (fun w' => Below wr.heap.size wr w') (by kernel_rfl) ?_
  have hb2 : Below wr.heap.size wr { wr with drawn := wr.drawn + 1 } := ⟨rfl, rfl, rfl, Nat.le_refl _, fun _ _ => rfl⟩
  obtain ⟨wd, hdr⟩ : ∃ wd : World, ({ wr with drawn := wr.drawn + 1 } : World) = wd := ⟨_, rfl⟩
  rw [hdr] at hb2 ⊢
  clear hdr h1 HrdW
  refine up_take (i := 0) (v := .pointer (some ⟨x, 0, none⟩)) rfl (by kernel_rfl) (by kernel_rfl) (fun _ _ _ h => h) (Or.inl ⟨by rfl, ?_⟩) hb2 ?_
  · intro w' _; go_simp
  try simp only [List.getElem_toArray, List.getElem_cons_succ, List.getElem_cons_zero, Act.put, List.setIfInBounds_toArray, List.set]
  refine up_take (i := 1) (v := .pointer (some ⟨x, 0, none⟩)) rfl (by kernel_rfl) (by kernel_rfl) (fun _ _ _ h => h) (Or.inl ⟨by rfl, ?_⟩) hb2 ?_
  · intro w' _; go_simp
  try simp only [List.getElem_toArray, List.getElem_cons_succ, List.getElem_cons_zero, Act.put, List.setIfInBounds_toArray, List.set]
  refine up_take (i := 2) (v := .pointer (some ⟨x, 0, none⟩)) rfl (by kernel_rfl) (by kernel_rfl) (fun _ _ _ h => h) (Or.inl ⟨by rfl, ?_⟩) hb2 ?_
  · intro w' _; go_simp
  try simp only [List.getElem_toArray, List.getElem_cons_succ, List.getElem_cons_zero, Act.put, List.setIfInBounds_toArray, List.set]
  refine up_take (i := 3) (v := .pointer (some ⟨g, 0, none⟩)) rfl (by kernel_rfl) (by kernel_rfl) (fun _ _ _ h => h) (Or.inl ⟨by rfl, ?_⟩) hb2 ?_
  · intro w' hS'
    obtain ⟨c0, c1, _⟩ := TabAt.cells (HS.out.below hS')
    clear hS'
    go_simp
  try simp only [List.getElem_toArray, List.getElem_cons_succ, List.getElem_cons_zero, Act.put, List.setIfInBounds_toArray, List.set]
  refine up_take (i := 4) (v := .pointer (some ⟨x, 0, none⟩)) rfl (by kernel_rfl) (by kernel_rfl) (fun _ _ _ h => h) (Or.inl ⟨by rfl, ?_⟩) hb2 ?_
  · intro w' _; go_simp
  try simp only [List.getElem_toArray, List.getElem_cons_succ, List.getElem_cons_zero, Act.put, List.setIfInBounds_toArray, List.set]
  refine up_take (i := 5) (v := .pointer (some ⟨x, 0, none⟩)) rfl (by kernel_rfl) (by kernel_rfl) (fun _ _ _ h => h) (Or.inl ⟨by rfl, ?_⟩) hb2 ?_
  · intro w' _; go_simp
  try simp only [List.getElem_toArray, List.getElem_cons_succ, List.getElem_cons_zero, Act.put, List.setIfInBounds_toArray, List.set]
  refine up_take (i := 6) (v := .pointer (some ⟨x, 1, none⟩)) rfl (by kernel_rfl) (by kernel_rfl) (fun _ _ _ h => h) (Or.inl ⟨by rfl, ?_⟩) hb2 ?_
  · intro w' _; go_simp
  try simp only [List.getElem_toArray, List.getElem_cons_succ, List.getElem_cons_zero, Act.put, List.setIfInBounds_toArray, List.set]
  refine up_take (i := 7) (v := .int .i64 first) rfl (by kernel_rfl) (by kernel_rfl) (fun _ _ _ h => h) (Or.inl ⟨by rfl, ?_⟩) hb2 ?_
  · intro w' hS'
    obtain ⟨c0, c1, _⟩ := TabAt.cells (HS.out.below hS')
    clear hS'
    go_simp
  try simp only [List.getElem_toArray, List.getElem_cons_succ, List.getElem_cons_zero, Act.put, List.setIfInBounds_toArray, List.set]
  refine up_take (i := 8) (v := .int .i64 i) rfl (by kernel_rfl) (by kernel_rfl) (fun _ _ _ h => h) (Or.inl ⟨by rfl, ?_⟩) hb2 ?_
  · intro w' _; go_simp
  try simp only [List.getElem_toArray, List.getElem_cons_succ, List.getElem_cons_zero, Act.put, List.setIfInBounds_toArray, List.set]
  refine up_take (i := 9) (v := .int .i64 A) rfl (by kernel_rfl) (by kernel_rfl) (fun _ _ _ h => h) (Or.inl ⟨by rfl, ?_⟩) hb2 ?_
  · intro w' _; go_simp
  try simp only [List.getElem_toArray, List.getElem_cons_succ, List.getElem_cons_zero, Act.put, List.setIfInBounds_toArray, List.set]
  refine up_two 10 14 _ _ rfl rfl (by kernel_rfl) (by decide) (by decide) (by rfl) (by rfl) (fun K hK => ?p1) (fun K hK => ?q1)
  case' p1 =>
    go_simp
    refine (Hrd.out _ hb2).mono ?_
    rintro e wt ⟨rfl, hbq⟩
    have hb4 := hb2.trans (hbq.mono hb2.size)
    refine hK _ _ hb4 ?_
    clear hK K
    try simp only [List.getElem_toArray, List.getElem_cons_succ, List.getElem_cons_zero, Act.put, List.setIfInBounds_toArray, List.set]
    refine up_take (i := 11) (v := .tuple #[.agg qv.toArray, .nilIface]) rfl (by kernel_rfl) (by kernel_rfl) (fun _ _ _ h => h) (Or.inl ⟨by rfl, ?_⟩) hb4 ?_
    · intro w' _; go_simp
    try simp only [List.getElem_toArray, List.getElem_cons_succ, List.getElem_cons_zero, Act.put, List.setIfInBounds_toArray, List.set]
    refine up_take (i := 12) (v := .agg qv.toArray) rfl (by kernel_rfl) (by kernel_rfl) (fun _ _ _ h => h) (Or.inl ⟨by rfl, ?_⟩) hb4 ?_
    · intro w' _; go_simp
    try simp only [List.getElem_toArray, List.getElem_cons_succ, List.getElem_cons_zero, Act.put, List.setIfInBounds_toArray, List.set]
    refine up_take (i := 13) (v := .nilIface) rfl (by kernel_rfl) (by kernel_rfl) (fun _ _ _ h => h) (Or.inl ⟨by rfl, ?_⟩) hb4 ?_
    · intro w' _; go_simp
    try simp only [List.getElem_toArray, List.getElem_cons_succ, List.getElem_cons_zero, Act.put, List.setIfInBounds_toArray, List.set]
    refine up_one 14 _ rfl (by kernel_rfl) (by decide) (by rfl) (fun K hK => ?_)
    refine wp_alloc_arr 28 rfl _ alloc64 ?_
    have hb5 := hb4.alloc hb4.size (.cells zeros64 28)
    obtain ⟨y, hye⟩ : ∃ y, wt.heap.size = y := ⟨_, rfl⟩
    have hy : (wt.alloc (.cells zeros64 28)).heap[y]? = some (.cells zeros64 28 (0, 0)) := by rw [← hye]; exact heap_alloc_new _ _
    generalize hwa : wt.alloc (.cells zeros64 28) = wu at *
    rw [hye]
    clear hwa
    have hyl : wr.heap.size ≤ y := by have := hb4.size; omega
    refine hK _ _ hb5 ?_
    clear hK K
    try simp only [List.getElem_toArray, List.getElem_cons_succ, List.getElem_cons_zero, Act.put, List.setIfInBounds_toArray, List.set]
    refine up_one 15 _ rfl (by kernel_rfl) (by decide) (by rfl) (fun K hK => ?_)
    refine wp_store_whole 28 _ _ rfl y qv.toArray rfl rfl zeros64 28 hy hqi.out hqz.out hq1.out ?_
    intro w6 Hs6 Hg6
    have hb6 := hb5.trans ((Only.of_grown (F := fun j => j = y) Hg6.out (fun j e => by simpa using e.symm)).base hb5.size (fun j hj => by have e : j = y := hj; omega))
    refine hK _ _ hb6 ?_
    clear hK K
    try simp only [List.getElem_toArray, List.getElem_cons_succ, List.getElem_cons_zero, Act.put, List.setIfInBounds_toArray, List.set]
    refine up_tail ?_
    refine up_last 16 _ rfl (by kernel_rfl) (by decide) (by rfl) (fun K hK => ?_)
    go_simp
    refine hK _ _ ?_
    clear hK K
    try simp only [List.getElem_toArray, List.getElem_cons_succ, List.getElem_cons_zero, Act.put, List.setIfInBounds_toArray, List.set]
    refine up_done (by kernel_rfl) ?_ _
  case' q1 =>
    refine wp_alloc_arr 28 rfl _ alloc64 ?_
    have hb3 := hb2.alloc hb2.size (.cells zeros64 28)
    obtain ⟨y, hye⟩ : ∃ y, wd.heap.size = y := ⟨_, rfl⟩
    have hy : (wd.alloc (.cells zeros64 28)).heap[y]? = some (.cells zeros64 28 (0, 0)) := by rw [← hye]; exact heap_alloc_new _ _
    generalize hwa : wd.alloc (.cells zeros64 28) = ws at *
    rw [hye]
    clear hwa
    have hyl : wr.heap.size ≤ y := by have := hb2.size; omega
    refine hK _ _ hb3 ?_
    clear hK K
    try simp only [List.getElem_toArray, List.getElem_cons_succ, List.getElem_cons_zero, Act.put, List.setIfInBounds_toArray, List.set]
    refine up_one 10 _ rfl (by kernel_rfl) (by decide) (by rfl) (fun K hK => ?_)
    go_simp
    refine (Hrd.out _ hb3).mono ?_
    rintro e wu ⟨rfl, hbq⟩
    have hb5 := hb3.trans (hbq.mono hb3.size)
    have hy := (hbq.block y (Array.getElem?_eq_some_iff.1 hy).1).trans hy
    refine hK _ _ hb5 ?_
    clear hK K
    try simp only [List.getElem_toArray, List.getElem_cons_succ, List.getElem_cons_zero, Act.put, List.setIfInBounds_toArray, List.set]
    refine up_take (i := 11) (v := .tuple #[.agg qv.toArray, .nilIface]) rfl (by kernel_rfl) (by kernel_rfl) (fun _ _ _ h => h) (Or.inl ⟨by rfl, ?_⟩) hb5 ?_
    · intro w' _; go_simp
    try simp only [List.getElem_toArray, List.getElem_cons_succ, List.getElem_cons_zero, Act.put, List.setIfInBounds_toArray, List.set]
    refine up_take (i := 12) (v := .agg qv.toArray) rfl (by kernel_rfl) (by kernel_rfl) (fun _ _ _ h => h) (Or.inl ⟨by rfl, ?_⟩) hb5 ?_
    · intro w' _; go_simp
    try simp only [List.getElem_toArray, List.getElem_cons_succ, List.getElem_cons_zero, Act.put, List.setIfInBounds_toArray, List.set]
    refine up_take (i := 13) (v := .nilIface) rfl (by kernel_rfl) (by kernel_rfl) (fun _ _ _ h => h) (Or.inl ⟨by rfl, ?_⟩) hb5 ?_
    · intro w' _; go_simp
    try simp only [List.getElem_toArray, List.getElem_cons_succ, List.getElem_cons_zero, Act.put, List.setIfInBounds_toArray, List.set]
    refine up_one 15 _ rfl (by kernel_rfl) (by decide) (by rfl) (fun K hK => ?_)
    refine wp_store_whole 28 _ _ rfl y qv.toArray rfl rfl zeros64 28 hy hqi.out hqz.out hq1.out ?_
    intro w6 Hs6 Hg6
    have hb6 := hb5.trans ((Only.of_grown (F := fun j => j = y) Hg6.out (fun j e => by simpa using e.symm)).base hb5.size (fun j hj => by have e : j = y := hj; omega))
    refine hK _ _ hb6 ?_
    clear hK K
    try simp only [List.getElem_toArray, List.getElem_cons_succ, List.getElem_cons_zero, Act.put, List.setIfInBounds_toArray, List.set]
    refine up_tail ?_
    refine up_last 16 _ rfl (by kernel_rfl) (by decide) (by rfl) (fun K hK => ?_)
    go_simp
    refine hK _ _ ?_
    clear hK K
    try simp only [List.getElem_toArray, List.getElem_cons_succ, List.getElem_cons_zero, Act.put, List.setIfInBounds_toArray, List.set]
    refine up_done (by kernel_rfl) ?_ _
  all_goals
    have hr6 := (hb6.block r (Array.getElem?_eq_some_iff.1 hr1).1).trans hr1
    have hbw := hb1.trans (hb6.mono hb1.size)
    have hy6 := Hs6.out
    clear Hs6 hr1 hy hb6 hb1
    go_wp2_with (first
      | (refine wpList_load_row rfl 28 _ rfl y rfl 28 qv.toArray (0, 0) _ hy6 Tryz.underlying28 rfl hqi.out ?_)
      | (go_at_call 133; refine (Ht.out _).mono ?_))
    rintro e w7 ⟨rfl, hb7⟩
    have hr7 := (hb7.block r (Array.getElem?_eq_some_iff.1 hr6).1).trans hr6
    have hbw7 := hbw.trans (hb7.mono hbw.size)
    clear Ht hy6 hr6 hbw hb7
    go_wp2_with (first
      | (refine wpList_store_row rfl 73 _ _ rfl r tv.toArray rfl rfl 73 zn hr7 hti.out htz.out ht1.out ?_))
    have hb8 := below_setRow (g := r) hbw7 (by rw [Hr.out]; exact Nat.le_refl _) tv.toArray
    refine bodyPost_ret (v := .tuple #[.agg tv.toArray, .nilIface]) ?_ rfl ⟨rfl, by first | exact hb8 | (rw [Hr.out]; exact hb8)⟩
    exact results_cell_row_tmp (ty := 73) rfl _ _ r 73 _ (0, 0) _ rfl (setRow_heap _ _ _ _ _ _ hr7) Tryz.underlying73 rfl hti.out _ rfl
end
end Go.Proofs.YtopjhgpgompenaaGreatDoor
