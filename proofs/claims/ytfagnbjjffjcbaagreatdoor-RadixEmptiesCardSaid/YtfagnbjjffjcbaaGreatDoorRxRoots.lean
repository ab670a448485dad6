/-
  Package radix: roots.
-/
import Derived.Test.YtfagnbjjffjcbaaGreatDoorRxTold
set_option linter.unusedSimpArgs false
set_option linter.unusedVariables false
namespace Go.Proofs.YtfagnbjjffjcbaaGreatDoor
open Go.RowKit Sh Go.Maps Go.Extern.Stop Go.Stop Go.Extern

theorem allocRoots (w : World) : (Instr.alloc 86 true (.tuple #[])).run Tryz.prog w = .ok (.pointer (some ⟨w.heap.size, 0, none⟩)) (w.alloc (.cells zeros64 86)) := by kernel_rfl
theorem rootsInfo {q : List UInt8} (h : q.length = 64) : Hid ((Tryz.prog.info? 86).map (·.size) = some (q.map cu8).toArray.size) := by
  have e : (q.map cu8).toArray.size = 64 := by simp [h]
  rw [e]; exact infoRoots
/-- What a forest's pages are read as. -/
def PgP (q : List UInt8) (w : World) (e : Ending) (w' : World) : Prop := e = .returned (.tuple #[pageV q, .nilIface]) ∧ Below w.heap.size w w'
def Reads (w : World) (g first n : Nat) (pg : Nat → List UInt8) : Prop := ∀ i, i ≤ n → ∀ W, Below w.heap.size w W → Calls Tryz.prog 64 #[.pointer (some ⟨g, 0, none⟩), .int .i64 (first + i : Nat)] W (PgP (pg (first + i)) W)
theorem Reads.below {w w' : World} {g first n : Nat} {pg : Nat → List UInt8} (h : Reads w g first n pg) (hb : Below w.heap.size w w') : Reads w' g first n pg := fun i hi W hW => h i hi W (hb.trans (hW.mono hb.size))
section
variable {w : World} {x g first n : Nat}
set_option maxRecDepth 100000 in
set_option maxHeartbeats 8000000 in
theorem roots_any (h : FoAt x g first n w) (hf : first ≤ 100000) (hn : n ≤ 100000) {pg : Nat → List UInt8} (hR : Reads w g first n pg) (hql : (pg first).length = 64) (hle : ∀ j, j < 64 → (at8 (pg first) j).toNat ≤ n) :
    Calls Tryz.prog 41 #[.pointer (some ⟨x, 0, none⟩)] w (PgP (pg first) w) := by
  have hrd := hR 0 (Nat.zero_le _)
  obtain ⟨q, hq⟩ : ∃ q, pg first = q := ⟨_, rfl⟩
  rw [Nat.add_zero, hq] at hrd
  rw [hq] at hql hle ⊢
  clear hq hR
  obtain ⟨qv, Hqv⟩ : ∃ qv : List Value, Hid (qv = q.map cu8) := ⟨_, rfl⟩
  have hqV : pageV q = .agg qv.toArray := by rw [Hqv.out]; rfl
  have hqi : Hid ((Tryz.prog.info? 65).map (·.size) = some qv.toArray.size) := by rw [Hqv.out]; exact pageInfo hql
  have hqr : Hid ((Tryz.prog.info? 86).map (·.size) = some qv.toArray.size) := by rw [Hqv.out]; exact rootsInfo hql
  have hqz : Hid (zeros64.size = qv.toArray.size) := by rw [Hqv.out]; exact pageZ hql
  have hq1 : Hid (qv.toArray.all (·.oneCell') = true) := by rw [Hqv.out]; exact bytes_one _
  obtain ⟨zn, Hzn⟩ : ∃ zn : Array Value, Hid (zn = zeros64) := ⟨_, rfl⟩
  have hal : ∀ w : World, (Instr.alloc 86 true (.tuple #[])).run Tryz.prog w = .ok (.pointer (some ⟨w.heap.size, 0, none⟩)) (w.alloc (.cells zn 86)) := by rw [Hzn.out]; exact allocRoots
  have hzq : Hid (zn.size = qv.toArray.size) := by rw [Hzn.out]; exact hqz
  have hb1 : Below w.heap.size w (w.alloc (.cells zn 86)) := (Below.refl _ _).alloc (Nat.le_refl _) _
  have hr1 : (w.alloc (.cells zn 86)).heap[w.heap.size]? = some (.cells zn 86 (0, 0)) := heap_alloc_new w _
  have hrd2 : ∀ W, Below w.heap.size w W → Calls Tryz.prog 64 #[.pointer (some ⟨g, 0, none⟩), .int .i64 first] W (fun e w' => e = .returned (.tuple #[.agg qv.toArray, .nilIface]) ∧ Below W.heap.size W w') := fun W hW => (hrd W hW).mono fun e w' ⟨h1, h2⟩ => ⟨by rw [h1, hqV], h2⟩
  have HrdW := Lib.hid hrd2
  have h1 := h.below hb1
  clear hrd hrd2 h hqV
  go_enter Tryz.func41, Tryz.ntmps41
  go_upto_region 1 with (first
    | (refine wpList_alloc_arr rfl 86 rfl _ hal ?_))
  generalize w.alloc (.cells zn 86) = wr at hb1 hr1 h1 ⊢
  obtain ⟨r, hr⟩ : ∃ r, w.heap.size = r := ⟨_, rfl⟩
  have Hr := Lib.hid hr
  rw [hr] at hr1 ⊢
  have Hrd := Lib.hid (fun W (hW : Below wr.heap.size wr W) => HrdW.out W (hb1.trans (hW.mono hb1.size)))
  have HS := Lib.hid h1
  refine wp_region_up 14 (fun w' => Below wr.heap.size wr w') (by kernel_rfl) ?_
  have hb2 : Below wr.heap.size wr { wr with drawn := wr.drawn + 1 } := ⟨rfl, rfl, rfl, Nat.le_refl _, fun _ _ => rfl⟩
  obtain ⟨wd, hdr⟩ : ∃ wd : World, ({ wr with drawn := wr.drawn + 1 } : World) = wd := ⟨_, rfl⟩
  rw [hdr] at hb2 ⊢
  clear hdr HrdW h1 hr hal
  refine up_take (i := 0) (v := .pointer (some ⟨x, 0, none⟩)) rfl (by kernel_rfl) (by kernel_rfl) (fun _ _ _ h => h) (Or.inl ⟨by rfl, ?_⟩) hb2 ?_
  · intro w' _; go_simp
  try simp only [List.getElem_toArray, List.getElem_cons_succ, List.getElem_cons_zero, Act.put, List.setIfInBounds_toArray, List.set]
  refine up_take (i := 1) (v := .pointer (some ⟨x, 0, none⟩)) rfl (by kernel_rfl) (by kernel_rfl) (fun _ _ _ h => h) (Or.inl ⟨by rfl, ?_⟩) hb2 ?_
  · intro w' _; go_simp
  try simp only [List.getElem_toArray, List.getElem_cons_succ, List.getElem_cons_zero, Act.put, List.setIfInBounds_toArray, List.set]
  refine up_take (i := 2) (v := .pointer (some ⟨x, 0, none⟩)) rfl (by kernel_rfl) (by kernel_rfl) (fun _ _ _ h => h) (Or.inl ⟨by rfl, ?_⟩) hb2 ?_
  · intro w' _; go_simp
  try simp only [List.getElem_toArray, List.getElem_cons_succ, List.getElem_cons_zero, Act.put, List.setIfInBounds_toArray, List.set]
  refine up_take (i := 3) (v := .pointer (some ⟨g, 0, none⟩)) rfl (by kernel_rfl) (by kernel_rfl) (fun _ _ _ h => h) (Or.inl ⟨by rfl, ?_⟩) hb2 ?_
  · intro w' hS'
    obtain ⟨c0, c1, _⟩ := FoAt.cells (HS.out.below hS')
    clear hS'
    go_simp
  try simp only [List.getElem_toArray, List.getElem_cons_succ, List.getElem_cons_zero, Act.put, List.setIfInBounds_toArray, List.set]
  refine up_take (i := 4) (v := .pointer (some ⟨x, 0, none⟩)) rfl (by kernel_rfl) (by kernel_rfl) (fun _ _ _ h => h) (Or.inl ⟨by rfl, ?_⟩) hb2 ?_
  · intro w' _; go_simp
  try simp only [List.getElem_toArray, List.getElem_cons_succ, List.getElem_cons_zero, Act.put, List.setIfInBounds_toArray, List.set]
  refine up_take (i := 5) (v := .pointer (some ⟨x, 0, none⟩)) rfl (by kernel_rfl) (by kernel_rfl) (fun _ _ _ h => h) (Or.inl ⟨by rfl, ?_⟩) hb2 ?_
  · intro w' _; go_simp
  try simp only [List.getElem_toArray, List.getElem_cons_succ, List.getElem_cons_zero, Act.put, List.setIfInBounds_toArray, List.set]
  refine up_take (i := 6) (v := .pointer (some ⟨x, 1, none⟩)) rfl (by kernel_rfl) (by kernel_rfl) (fun _ _ _ h => h) (Or.inl ⟨by rfl, ?_⟩) hb2 ?_
  · intro w' _; go_simp
  try simp only [List.getElem_toArray, List.getElem_cons_succ, List.getElem_cons_zero, Act.put, List.setIfInBounds_toArray, List.set]
  refine up_take (i := 7) (v := .int .i64 first) rfl (by kernel_rfl) (by kernel_rfl) (fun _ _ _ h => h) (Or.inl ⟨by rfl, ?_⟩) hb2 ?_
  · intro w' hS'
    obtain ⟨c0, c1, _⟩ := FoAt.cells (HS.out.below hS')
    clear hS'
    go_simp
  try simp only [List.getElem_toArray, List.getElem_cons_succ, List.getElem_cons_zero, Act.put, List.setIfInBounds_toArray, List.set]
  refine up_two 8 12 _ _ rfl rfl (by kernel_rfl) (by decide) (by decide) (by rfl) (by rfl) (fun K hK => ?p1) (fun K hK => ?q1)
  case' p1 =>
    go_simp
    refine (Hrd.out _ hb2).mono ?_
    rintro e wt ⟨rfl, hbq⟩
    have hb4 := hb2.trans (hbq.mono hb2.size)
    refine hK _ _ hb4 ?_
    clear hK K
    try simp only [List.getElem_toArray, List.getElem_cons_succ, List.getElem_cons_zero, Act.put, List.setIfInBounds_toArray, List.set]
    refine up_take (i := 9) (v := .tuple #[.agg qv.toArray, .nilIface]) rfl (by kernel_rfl) (by kernel_rfl) (fun _ _ _ h => h) (Or.inl ⟨by rfl, ?_⟩) hb4 ?_
    · intro w' _; go_simp
    try simp only [List.getElem_toArray, List.getElem_cons_succ, List.getElem_cons_zero, Act.put, List.setIfInBounds_toArray, List.set]
    refine up_take (i := 10) (v := .agg qv.toArray) rfl (by kernel_rfl) (by kernel_rfl) (fun _ _ _ h => h) (Or.inl ⟨by rfl, ?_⟩) hb4 ?_
    · intro w' _; go_simp
    try simp only [List.getElem_toArray, List.getElem_cons_succ, List.getElem_cons_zero, Act.put, List.setIfInBounds_toArray, List.set]
    refine up_take (i := 11) (v := .nilIface) rfl (by kernel_rfl) (by kernel_rfl) (fun _ _ _ h => h) (Or.inl ⟨by rfl, ?_⟩) hb4 ?_
    · intro w' _; go_simp
    try simp only [List.getElem_toArray, List.getElem_cons_succ, List.getElem_cons_zero, Act.put, List.setIfInBounds_toArray, List.set]
    refine up_one 12 _ rfl (by kernel_rfl) (by decide) (by rfl) (fun K hK => ?_)
    refine wp_alloc_arr 65 rfl _ alloc64 ?_
    have hb5 := hb4.alloc hb4.size (.cells zeros64 65)
    obtain ⟨y, hye⟩ : ∃ y, wt.heap.size = y := ⟨_, rfl⟩
    have hy : (wt.alloc (.cells zeros64 65)).heap[y]? = some (.cells zeros64 65 (0, 0)) := by rw [← hye]; exact heap_alloc_new _ _
    generalize hwa : wt.alloc (.cells zeros64 65) = wu at *
    rw [hye]
    clear hwa
    have hyl : wr.heap.size ≤ y := by have := hb4.size; omega
    refine hK _ _ hb5 ?_
    clear hK K
    try simp only [List.getElem_toArray, List.getElem_cons_succ, List.getElem_cons_zero, Act.put, List.setIfInBounds_toArray, List.set]
    refine up_one 13 _ rfl (by kernel_rfl) (by decide) (by rfl) (fun K hK => ?_)
    refine wp_store_whole 65 _ _ rfl y qv.toArray rfl rfl zeros64 65 hy hqi.out hqz.out hq1.out ?_
    intro w6 Hs6 Hg6
    have hb6 := hb5.trans ((Only.of_grown (F := fun j => j = y) Hg6.out (fun j e => by simpa using e.symm)).base hb5.size (fun j hj => by have e : j = y := hj; omega))
    refine hK _ _ hb6 ?_
    clear hK K
    try simp only [List.getElem_toArray, List.getElem_cons_succ, List.getElem_cons_zero, Act.put, List.setIfInBounds_toArray, List.set]
    refine up_tail ?_
    refine up_last 14 _ rfl (by kernel_rfl) (by decide) (by rfl) (fun K hK => ?_)
    go_simp
    refine hK _ _ ?_
    clear hK K
    try simp only [List.getElem_toArray, List.getElem_cons_succ, List.getElem_cons_zero, Act.put, List.setIfInBounds_toArray, List.set]
    refine up_done (by kernel_rfl) ?_ _
  case' q1 =>
    refine wp_alloc_arr 65 rfl _ alloc64 ?_
    have hb4 := hb2.alloc hb2.size (.cells zeros64 65)
    obtain ⟨y, hye⟩ : ∃ y, wd.heap.size = y := ⟨_, rfl⟩
    have hy : (wd.alloc (.cells zeros64 65)).heap[y]? = some (.cells zeros64 65 (0, 0)) := by rw [← hye]; exact heap_alloc_new _ _
    generalize hwa : wd.alloc (.cells zeros64 65) = wt at *
    rw [hye]
    clear hwa
    have hyl : wr.heap.size ≤ y := by have := hb2.size; omega
    refine hK _ _ hb4 ?_
    clear hK K
    try simp only [List.getElem_toArray, List.getElem_cons_succ, List.getElem_cons_zero, Act.put, List.setIfInBounds_toArray, List.set]
    refine up_one 8 _ rfl (by kernel_rfl) (by decide) (by rfl) (fun K hK => ?_)
    go_simp
    refine (Hrd.out _ hb4).mono ?_
    rintro e wu ⟨rfl, hbq⟩
    have hb5 := hb4.trans (hbq.mono hb4.size)
    have hy := (hbq.block y (Array.getElem?_eq_some_iff.1 hy).1).trans hy
    refine hK _ _ hb5 ?_
    clear hK K
    try simp only [List.getElem_toArray, List.getElem_cons_succ, List.getElem_cons_zero, Act.put, List.setIfInBounds_toArray, List.set]
    refine up_take (i := 9) (v := .tuple #[.agg qv.toArray, .nilIface]) rfl (by kernel_rfl) (by kernel_rfl) (fun _ _ _ h => h) (Or.inl ⟨by rfl, ?_⟩) hb5 ?_
    · intro w' _; go_simp
    try simp only [List.getElem_toArray, List.getElem_cons_succ, List.getElem_cons_zero, Act.put, List.setIfInBounds_toArray, List.set]
    refine up_take (i := 10) (v := .agg qv.toArray) rfl (by kernel_rfl) (by kernel_rfl) (fun _ _ _ h => h) (Or.inl ⟨by rfl, ?_⟩) hb5 ?_
    · intro w' _; go_simp
    try simp only [List.getElem_toArray, List.getElem_cons_succ, List.getElem_cons_zero, Act.put, List.setIfInBounds_toArray, List.set]
    refine up_take (i := 11) (v := .nilIface) rfl (by kernel_rfl) (by kernel_rfl) (fun _ _ _ h => h) (Or.inl ⟨by rfl, ?_⟩) hb5 ?_
    · intro w' _; go_simp
    try simp only [List.getElem_toArray, List.getElem_cons_succ, List.getElem_cons_zero, Act.put, List.setIfInBounds_toArray, List.set]
    refine up_one 13 _ rfl (by kernel_rfl) (by decide) (by rfl) (fun K hK => ?_)
    refine wp_store_whole 65 _ _ rfl y qv.toArray rfl rfl zeros64 65 hy hqi.out hqz.out hq1.out ?_
    intro w6 Hs6 Hg6
    have hb6 := hb5.trans ((Only.of_grown (F := fun j => j = y) Hg6.out (fun j e => by simpa using e.symm)).base hb5.size (fun j hj => by have e : j = y := hj; omega))
    refine hK _ _ hb6 ?_
    clear hK K
    try simp only [List.getElem_toArray, List.getElem_cons_succ, List.getElem_cons_zero, Act.put, List.setIfInBounds_toArray, List.set]
    refine up_tail ?_
    refine up_last 14 _ rfl (by kernel_rfl) (by decide) (by rfl) (fun K hK => ?_)
    go_simp
    refine hK _ _ ?_
    clear hK K
    try simp only [List.getElem_toArray, List.getElem_cons_succ, List.getElem_cons_zero, Act.put, List.setIfInBounds_toArray, List.set]
    refine up_done (by kernel_rfl) ?_ _
  all_goals
    have hrl := (Array.getElem?_eq_some_iff.1 hr1).1
    have hr6 := (hb6.block r hrl).trans hr1
    have hbw := hb1.trans (hb6.mono hb1.size)
    have hx6 := HS.out.below hb6
    have hy6 := Hs6.out
    have hyr : r < y := by omega
    clear Hs6 Hg6 hr1 hy hb6
    have halr : ∀ w : World, (Instr.alloc 86 true (.tuple #[])).run Tryz.prog w = .ok (.pointer (some ⟨w.heap.size, 0, none⟩)) (w.alloc (.cells zeros64 86)) := allocRoots
    go_upto_region 3 with (first
      | (refine wpList_load_row rfl 65 _ rfl y rfl 65 qv.toArray (0, 0) _ hy6 Tryz.underlying65 rfl hqi.out ?_)
      | (refine wpList_alloc_arr rfl 86 rfl _ halr ?_)
      | (refine wpList_store_new rfl 86 _ _ rfl w6.heap.size rfl qv.toArray rfl rfl 86 _ hqr.out hqz.out hq1.out ?_))
    have hb7 : Below w6.heap.size w6 (w6.alloc (.cells qv.toArray 86)) := (Below.refl _ _).alloc (Nat.le_refl _) _
    have hz7 : (w6.alloc (.cells qv.toArray 86)).heap[w6.heap.size]? = some (.cells qv.toArray 86 (0, 0)) := heap_alloc_new w6 _
    have hr7 := (hb7.block r (Array.getElem?_eq_some_iff.1 hr6).1).trans hr6
    have hbw7 := hbw.trans (hb7.mono hbw.size)
    have hx7 := hx6.below hb7
    generalize w6.alloc (.cells qv.toArray 86) = w7 at hb7 hz7 hr7 hbw7 hx7 ⊢
    obtain ⟨z, hz⟩ : ∃ z, w6.heap.size = z := ⟨_, rfl⟩
    rw [hz] at hz7 ⊢
    have HX := Lib.hid hx7; have HR7 := Lib.hid hr7; have HB7 := Lib.hid hbw7; have HZ7 := Lib.hid hz7
    clear hz hb7 hx6 hbw hr6 hy6 halr hx7 hr7 hbw7 hz7
    go_wp2
    go_loopg [21] 64 (fun m v wq => ∃ k : Nat, m = 64 - k ∧ k ≤ 64 ∧ v = .int .i64 k ∧ Below w7.heap.size w7 wq)
    case atStart => exact ⟨0, rfl, by omega, rfl, Below.refl _ _⟩
    case round =>
      rename World => wq
      obtain ⟨k, rfl, hk, rfl, hb⟩ := hrel
      by_cases hlt : k < 64
      · have hlt' : (k : Int) < 64 := by omega
        obtain ⟨_, _, c2⟩ := (HX.out.below hb).cells
        have hzl := (Array.getElem?_eq_some_iff.1 HZ7.out).1
        have cz : wq.cell? ⟨z, k, none⟩ = some (.int .u8 ((at8 q k).toNat : Int)) := by
          rw [cell_of_row wq z k _ _ _ ((hb.block z hzl).trans HZ7.out), List.getElem?_toArray, Hqv.out, List.getElem?_map, at8_take_list (by omega), ← cu8N]; rfl
        have hc := hle k hlt
        have hc8 := (at8 q k).toNat_lt
        obtain ⟨C, hC⟩ : ∃ C : Nat, (at8 q k).toNat = C := ⟨_, rfl⟩
        rw [hC] at cz hc hc8
        have w3 : IntKind.i64.wrap (C : Int) = (C : Int) := IntWalk.i64_in _ (by omega)
        have hng : ¬ ((n : Int) < (C : Int)) := by omega
        have HBd := Lib.hid (fun m => hb.trans (⟨rfl, rfl, rfl, Nat.le_refl _, fun _ _ => rfl⟩ : Below w7.heap.size wq (wq.drewN m)))
        clear hb hC
        go_wp2_with fail
        go_quiet (fail)
        go_wp2
        go_roundg (64 - (k + 1))
        case measure => omega
        case rel => exact ⟨k + 1, rfl, by omega, by go_num, HBd.out _⟩
      · obtain rfl : k = 64 := by omega
        have hz8 := (hb.block z (Array.getElem?_eq_some_iff.1 HZ7.out).1).trans HZ7.out
        have hr8 := (hb.block r (Array.getElem?_eq_some_iff.1 HR7.out).1).trans HR7.out
        have hb8 := HB7.out.trans (hb.mono HB7.out.size)
        clear hb hlt
        go_wp2_with (first
          | (refine wpList_load_row rfl 86 _ rfl z rfl 86 qv.toArray (0, 0) _ hz8 Tryz.underlying86 rfl hqr.out ?_)
          | (refine wpList_store_row rfl 86 _ _ rfl r qv.toArray rfl rfl 86 zn hr8 hqr.out hzq.out hq1.out ?_))
        have hb9 := below_setRow (g := r) hb8 (by rw [Hr.out]; exact Nat.le_refl _) qv.toArray
        refine bodyPost_ret (v := .tuple #[.agg qv.toArray, .nilIface]) ?_ rfl ⟨by rw [Hqv.out]; rfl, hb9⟩
        exact results_cell_row_tmp (ty := 86) rfl _ _ r 86 _ (0, 0) _ rfl (setRow_heap _ _ _ _ _ _ hr8) Tryz.underlying86 rfl hqr.out _ rfl
end
end Go.Proofs.YtfagnbjjffjcbaaGreatDoor
