/-
  Package radix: leaf.
-/
import Derived.Test.YtfagnbjjffjcbaaGreatDoorRxRoots
set_option linter.unusedSimpArgs false
set_option linter.unusedVariables false
namespace Go.Proofs.YtfagnbjjffjcbaaGreatDoor
open Go.RowKit Sh Go.Maps Go.Extern.Stop Go.Stop Go.Extern

theorem built_leaf : Tryz.prog.built 126 [] = some (cellsL noneL).toArray := by kernel_rfl
theorem leafInfo {l : List Nat} (h : l.length = 16) : Hid ((Tryz.prog.info? 126).map (·.size) = some (cellsL l).toArray.size) := by
  have e : (cellsL l).toArray.size = 16 := by rw [List.size_toArray, cellsL_len, h]
  rw [e]; exact infoLeaf
theorem leafOf_len (pg : Nat → List UInt8) (first : Nat) (c : UInt8) : (leafOf pg first c).length = 16 := by unfold leafOf; split; exact rfl; exact toldL_len _
/-- A leaf, and no error. -/
def LfP (l : List Nat) (w : World) (e : Ending) (w' : World) : Prop := e = .returned (.tuple #[leafV l, .nilIface]) ∧ Below w.heap.size w w'
section
variable {w : World} {x g first n : Nat}
set_option maxRecDepth 100000 in
set_option maxHeartbeats 8000000 in
theorem leaf_any (h : FoAt x g first n w) (hf : first ≤ 100000) (hn : n ≤ 100000) {pg : Nat → List UInt8} (hR : Reads w g first n pg) (c : UInt8) (hc : c.toNat ≤ n) (hql : (pg (first + c.toNat)).length = 64) :
    Calls Tryz.prog 67 #[.pointer (some ⟨x, 0, none⟩), .int .u8 (c.toNat : Int)] w (LfP (leafOf pg first c) w) := by
  have hrd := hR c.toNat hc
  obtain ⟨q, hq⟩ : ∃ q, pg (first + c.toNat) = q := ⟨_, rfl⟩
  rw [hq] at hrd hql
  have hlf : leafOf pg first c = if c = 0 then noneL else toldL q := by unfold leafOf; rw [hq]
  clear hq hR
  obtain ⟨zn, Hzn⟩ : ∃ zn : Array Value, Hid (zn = (cellsL noneL).toArray) := ⟨_, rfl⟩
  have hal : ∀ w : World, (Instr.alloc 126 true (.tuple #[])).run Tryz.prog w = .ok (.pointer (some ⟨w.heap.size, 0, none⟩)) (w.alloc (.cells zn 126)) := by rw [Hzn.out]; exact allocLeaf
  have hbz : Hid (Tryz.prog.built 126 [] = some zn) := by rw [Hzn.out]; exact built_leaf
  have hzi : Hid ((Tryz.prog.info? 126).map (·.size) = some zn.size) := by rw [Hzn.out]; exact leafInfo rfl
  have hzz : Hid (zn.size = zn.size) := by exact (rfl : zn.size = zn.size)
  have hz1 : Hid (zn.all (·.oneCell') = true) := by rw [Hzn.out]; exact cellsL_one _
  have hb1 : Below w.heap.size w (w.alloc (.cells zn 126)) := (Below.refl _ _).alloc (Nat.le_refl _) _
  have hr1 : (w.alloc (.cells zn 126)).heap[w.heap.size]? = some (.cells zn 126 (0, 0)) := heap_alloc_new w _
  have hhd := fun W (hW : Below w.heap.size w W) => leafAt_any (h.below hW) hf c
  have h1 := h.below hb1
  obtain ⟨C, hC⟩ : ∃ C : Nat, c.toNat = C := ⟨_, rfl⟩
  have hC8 : C < 256 := by rw [← hC]; exact c.toNat_lt
  rw [hC] at hrd hhd ⊢
  by_cases e0 : C = 0
  · have ec : c = 0 := UInt8.toNat_inj.1 (by rw [hC, e0]; rfl)
    have hV : leafV (leafOf pg first c) = .agg zn := by rw [hlf, if_pos ec, Hzn.out]; rfl
    subst e0
    clear hrd hhd h h1 hlf hC ec
    go_enter Tryz.func67, Tryz.ntmps67
    go_upto_region 1 with (first
      | (refine wpList_alloc_arr rfl 126 rfl _ hal ?_))
    generalize w.alloc (.cells zn 126) = wr at hb1 hr1 ⊢
    obtain ⟨r, hr⟩ : ∃ r, w.heap.size = r := ⟨_, rfl⟩
    have Hr := Lib.hid hr
    rw [hr] at hr1 ⊢
    clear hr
    have HV := Lib.hid hV
    clear hV
    go_wp2_with (first
      | (refine wpList_buildZ 126 rfl zn hbz.out (by rfl) ?_)
      | (refine wpList_store_row rfl 126 _ _ rfl r zn rfl rfl 126 zn hr1 hzi.out hzz.out hz1.out ?_))
    have hb9 := below_setRow (g := r) hb1 (by rw [Hr.out]; exact Nat.le_refl _) zn
    refine bodyPost_ret (v := .tuple #[.agg zn, .nilIface]) ?_ rfl ⟨by rw [HV.out], hb9⟩
    exact results_cell_row_tmp (ty := 126) rfl _ _ r 126 _ (0, 0) _ rfl (setRow_heap _ _ _ _ _ _ hr1) Tryz.underlying126 rfl hzi.out _ rfl
  have ec : ¬ c = 0 := fun h => e0 (by rw [← hC, h]; rfl)
  rw [if_neg ec] at hlf
  have e0' : ¬ ((C : Int) = 0) := by omega
  obtain ⟨qv, Hqv⟩ : ∃ qv : List Value, Hid (qv = q.map cu8) := ⟨_, rfl⟩
  have hqV : pageV q = .agg qv.toArray := by rw [Hqv.out]; rfl
  have hqi : Hid ((Tryz.prog.info? 65).map (·.size) = some qv.toArray.size) := by rw [Hqv.out]; exact pageInfo hql
  have hqz : Hid (zeros64.size = qv.toArray.size) := by rw [Hqv.out]; exact pageZ hql
  have hq1 : Hid (qv.toArray.all (·.oneCell') = true) := by rw [Hqv.out]; exact bytes_one _
  have hrd2 : ∀ W, Below w.heap.size w W → Calls Tryz.prog 64 #[.pointer (some ⟨g, 0, none⟩), .int .i64 (first + C : Nat)] W (fun e w' => e = .returned (.tuple #[.agg qv.toArray, .nilIface]) ∧ Below W.heap.size W w') := fun W hW => (hrd W hW).mono fun e w' ⟨h1, h2⟩ => ⟨by rw [h1, hqV], h2⟩
  have HrdW := Lib.hid hrd2; have HhdW := Lib.hid hhd
  have HtW := Lib.hid (fun W => rtold_any (w := W) q hql)
  rw [hqV] at HtW
  have HLf := Lib.hid hlf
  obtain ⟨tv, Htv⟩ : ∃ tv : List Value, Hid (tv = cellsL (toldL q)) := ⟨_, rfl⟩
  have htV : leafV (toldL q) = .agg tv.toArray := by rw [Htv.out]; rfl
  have hti : Hid ((Tryz.prog.info? 126).map (·.size) = some tv.toArray.size) := by rw [Htv.out]; exact leafInfo (toldL_len q)
  have htz : Hid (zn.size = tv.toArray.size) := by
    have e : tv.toArray.size = 16 := by rw [List.size_toArray, Htv.out, cellsL_len, toldL_len]
    rw [e, Hzn.out]; exact (rfl : (cellsL noneL).toArray.size = 16)
  have ht1 : Hid (tv.toArray.all (·.oneCell') = true) := by rw [Htv.out]; exact cellsL_one _
  rw [htV] at HtW
  clear hrd hrd2 hhd h hqV htV hlf hC ec e0 hbz hzi hzz hz1
  go_enter Tryz.func67, Tryz.ntmps67
  go_upto_region 3 with (first
    | (refine wpList_alloc_arr rfl 126 rfl _ hal ?_))
  generalize w.alloc (.cells zn 126) = wr at hb1 hr1 h1 ⊢
  obtain ⟨r, hr⟩ : ∃ r, w.heap.size = r := ⟨_, rfl⟩
  have Hr := Lib.hid hr
  rw [hr] at hr1 ⊢
  have Hrd := Lib.hid (fun W (hW : Below wr.heap.size wr W) => HrdW.out W (hb1.trans (hW.mono hb1.size)))
  have Hhd := Lib.hid (fun W (hW : Below wr.heap.size wr W) => HhdW.out W (hb1.trans (hW.mono hb1.size)))
  have HS := Lib.hid h1
  refine wp_region_up 13 (fun w' => Below wr.heap.size wr w') (by kernel_rfl) ?_
  have hb2 : Below wr.heap.size wr { wr with drawn := wr.drawn + 1 } := ⟨rfl, rfl, rfl, Nat.le_refl _, fun _ _ => rfl⟩
  obtain ⟨wd, hdr⟩ : ∃ wd : World, ({ wr with drawn := wr.drawn + 1 } : World) = wd := ⟨_, rfl⟩
  rw [hdr] at hb2 ⊢
  clear hdr HrdW HhdW h1 hr hal
  refine up_take (i := 0) (v := .pointer (some ⟨x, 0, none⟩)) rfl (by kernel_rfl) (by kernel_rfl) (fun _ _ _ h => h) (Or.inl ⟨by rfl, ?_⟩) hb2 ?_
  · intro w' _; go_simp
  try simp only [List.getElem_toArray, List.getElem_cons_succ, List.getElem_cons_zero, Act.put, List.setIfInBounds_toArray, List.set]
  refine up_take (i := 1) (v := .pointer (some ⟨x, 0, none⟩)) rfl (by kernel_rfl) (by kernel_rfl) (fun _ _ _ h => h) (Or.inl ⟨by rfl, ?_⟩) hb2 ?_
  · intro w' _; go_simp
  try simp only [List.getElem_toArray, List.getElem_cons_succ, List.getElem_cons_zero, Act.put, List.setIfInBounds_toArray, List.set]
  refine up_take (i := 2) (v := .pointer (some ⟨x, 0, none⟩)) rfl (by kernel_rfl) (by kernel_rfl) (fun _ _ _ h => h) (Or.inl ⟨by rfl, ?_⟩) hb2 ?_
  · intro w' _; go_simp
  try simp only [List.getElem_toArray, List.getElem_cons_succ, List.getElem_cons_zero, Act.put, List.setIfInBounds_toArray, List.set]
  refine up_take (i := 3) (v := .pointer (some ⟨g, 0, none⟩)) rfl (by kernel_rfl) (by kernel_rfl) (fun _ _ _ h => h) (Or.inl ⟨by rfl, ?_⟩) hb2 ?_
  · intro w' hS'
    obtain ⟨c0, c1, _⟩ := FoAt.cells (HS.out.below hS')
    clear hS'
    go_simp
  try simp only [List.getElem_toArray, List.getElem_cons_succ, List.getElem_cons_zero, Act.put, List.setIfInBounds_toArray, List.set]
  refine up_take (i := 4) (v := .pointer (some ⟨x, 0, none⟩)) rfl (by kernel_rfl) (by kernel_rfl) (fun _ _ _ h => h) (Or.inl ⟨by rfl, ?_⟩) hb2 ?_
  · intro w' _; go_simp
  try simp only [List.getElem_toArray, List.getElem_cons_succ, List.getElem_cons_zero, Act.put, List.setIfInBounds_toArray, List.set]
  refine up_take (i := 5) (v := .int .u8 C) rfl (by kernel_rfl) (by kernel_rfl) (fun _ _ _ h => h) (Or.inl ⟨by rfl, ?_⟩) hb2 ?_
  · intro w' _; go_simp
  try simp only [List.getElem_toArray, List.getElem_cons_succ, List.getElem_cons_zero, Act.put, List.setIfInBounds_toArray, List.set]
  refine up_two 6 11 _ _ rfl rfl (by kernel_rfl) (by decide) (by decide) (by rfl) (by rfl) (fun K hK => ?p3) (fun K hK => ?q3)
  case' p3 =>
    go_simp
    refine (Hhd.out _ hb2).mono ?_
    rintro e w7 ⟨rfl, rfl⟩
    refine hK _ _ hb2 ?_
    clear hK K
    try simp only [List.getElem_toArray, List.getElem_cons_succ, List.getElem_cons_zero, Act.put, List.setIfInBounds_toArray, List.set]
    refine up_two 7 11 _ _ rfl rfl (by kernel_rfl) (by decide) (by decide) (by rfl) (by rfl) (fun K hK => ?p2) (fun K hK => ?q2)
    case' p2 =>
      go_simp
      refine (Hrd.out _ hb2).mono ?_
      rintro e wt ⟨rfl, hbq⟩
      have hb4 := hb2.trans (hbq.mono hb2.size)
      refine hK _ _ hb4 ?_
      clear hK K
      try simp only [List.getElem_toArray, List.getElem_cons_succ, List.getElem_cons_zero, Act.put, List.setIfInBounds_toArray, List.set]
      refine up_take (i := 8) (v := .tuple #[.agg qv.toArray, .nilIface]) rfl (by kernel_rfl) (by kernel_rfl) (fun _ _ _ h => h) (Or.inl ⟨by rfl, ?_⟩) hb4 ?_
      · intro w' _; go_simp
      try simp only [List.getElem_toArray, List.getElem_cons_succ, List.getElem_cons_zero, Act.put, List.setIfInBounds_toArray, List.set]
      refine up_take (i := 9) (v := .agg qv.toArray) rfl (by kernel_rfl) (by kernel_rfl) (fun _ _ _ h => h) (Or.inl ⟨by rfl, ?_⟩) hb4 ?_
      · intro w' _; go_simp
      try simp only [List.getElem_toArray, List.getElem_cons_succ, List.getElem_cons_zero, Act.put, List.setIfInBounds_toArray, List.set]
      refine up_take (i := 10) (v := .nilIface) rfl (by kernel_rfl) (by kernel_rfl) (fun _ _ _ h => h) (Or.inl ⟨by rfl, ?_⟩) hb4 ?_
      · intro w' _; go_simp
      try simp only [List.getElem_toArray, List.getElem_cons_succ, List.getElem_cons_zero, Act.put, List.setIfInBounds_toArray, List.set]
      refine up_one 11 _ rfl (by kernel_rfl) (by decide) (by rfl) (fun K hK => ?_)
      refine wp_alloc_arr 65 rfl _ alloc64 ?_
      have hb5 := hb4.alloc hb4.size (.cells zeros64 65)
      obtain ⟨y, hye⟩ : ∃ y, wt.heap.size = y := ⟨_, rfl⟩
      have hy : (wt.alloc (.cells zeros64 65)).heap[y]? = some (.cells zeros64 65 (0, 0)) := by rw [← hye]; exact heap_alloc_new _ _
      generalize hwa : wt.alloc (.cells zeros64 65) = wu at *
      rw [hye]
      clear hwa
      have hyl : wr.heap.size ≤ y := by have := hb4.size; omega
      refine hK _ _ hb5 ?_
      clear hK K
      try simp only [List.getElem_toArray, List.getElem_cons_succ, List.getElem_cons_zero, Act.put, List.setIfInBounds_toArray, List.set]
      refine up_one 12 _ rfl (by kernel_rfl) (by decide) (by rfl) (fun K hK => ?_)
      refine wp_store_whole 65 _ _ rfl y qv.toArray rfl rfl zeros64 65 hy hqi.out hqz.out hq1.out ?_
      intro w6 Hs6 Hg6
      have hb6 := hb5.trans ((Only.of_grown (F := fun j => j = y) Hg6.out (fun j e => by simpa using e.symm)).base hb5.size (fun j hj => by have e : j = y := hj; omega))
      refine hK _ _ hb6 ?_
      clear hK K
      try simp only [List.getElem_toArray, List.getElem_cons_succ, List.getElem_cons_zero, Act.put, List.setIfInBounds_toArray, List.set]
      refine up_tail ?_
      refine up_last 13 _ rfl (by kernel_rfl) (by decide) (by rfl) (fun K hK => ?_)
      go_simp
      refine hK _ _ ?_
      clear hK K
      try simp only [List.getElem_toArray, List.getElem_cons_succ, List.getElem_cons_zero, Act.put, List.setIfInBounds_toArray, List.set]
      refine up_done (by kernel_rfl) ?_ _
    case' q2 =>
      refine wp_alloc_arr 65 rfl _ alloc64 ?_
      have hb4 := hb2.alloc hb2.size (.cells zeros64 65)
      obtain ⟨y, hye⟩ : ∃ y, wd.heap.size = y := ⟨_, rfl⟩
      have hy : (wd.alloc (.cells zeros64 65)).heap[y]? = some (.cells zeros64 65 (0, 0)) := by rw [← hye]; exact heap_alloc_new _ _
      generalize hwa : wd.alloc (.cells zeros64 65) = wt at *
      rw [hye]
      clear hwa
      have hyl : wr.heap.size ≤ y := by have := hb2.size; omega
      refine hK _ _ hb4 ?_
      clear hK K
      try simp only [List.getElem_toArray, List.getElem_cons_succ, List.getElem_cons_zero, Act.put, List.setIfInBounds_toArray, List.set]
      refine up_one 7 _ rfl (by kernel_rfl) (by decide) (by rfl) (fun K hK => ?_)
      go_simp
      refine (Hrd.out _ hb4).mono ?_
      rintro e wu ⟨rfl, hbq⟩
      have hb5 := hb4.trans (hbq.mono hb4.size)
      have hy := (hbq.block y (Array.getElem?_eq_some_iff.1 hy).1).trans hy
      refine hK _ _ hb5 ?_
      clear hK K
      try simp only [List.getElem_toArray, List.getElem_cons_succ, List.getElem_cons_zero, Act.put, List.setIfInBounds_toArray, List.set]
      refine up_take (i := 8) (v := .tuple #[.agg qv.toArray, .nilIface]) rfl (by kernel_rfl) (by kernel_rfl) (fun _ _ _ h => h) (Or.inl ⟨by rfl, ?_⟩) hb5 ?_
      · intro w' _; go_simp
      try simp only [List.getElem_toArray, List.getElem_cons_succ, List.getElem_cons_zero, Act.put, List.setIfInBounds_toArray, List.set]
      refine up_take (i := 9) (v := .agg qv.toArray) rfl (by kernel_rfl) (by kernel_rfl) (fun _ _ _ h => h) (Or.inl ⟨by rfl, ?_⟩) hb5 ?_
      · intro w' _; go_simp
      try simp only [List.getElem_toArray, List.getElem_cons_succ, List.getElem_cons_zero, Act.put, List.setIfInBounds_toArray, List.set]
      refine up_take (i := 10) (v := .nilIface) rfl (by kernel_rfl) (by kernel_rfl) (fun _ _ _ h => h) (Or.inl ⟨by rfl, ?_⟩) hb5 ?_
      · intro w' _; go_simp
      try simp only [List.getElem_toArray, List.getElem_cons_succ, List.getElem_cons_zero, Act.put, List.setIfInBounds_toArray, List.set]
      refine up_one 12 _ rfl (by kernel_rfl) (by decide) (by rfl) (fun K hK => ?_)
      refine wp_store_whole 65 _ _ rfl y qv.toArray rfl rfl zeros64 65 hy hqi.out hqz.out hq1.out ?_
      intro w6 Hs6 Hg6
      have hb6 := hb5.trans ((Only.of_grown (F := fun j => j = y) Hg6.out (fun j e => by simpa using e.symm)).base hb5.size (fun j hj => by have e : j = y := hj; omega))
      refine hK _ _ hb6 ?_
      clear hK K
      try simp only [List.getElem_toArray, List.getElem_cons_succ, List.getElem_cons_zero, Act.put, List.setIfInBounds_toArray, List.set]
      refine up_tail ?_
      refine up_last 13 _ rfl (by kernel_rfl) (by decide) (by rfl) (fun K hK => ?_)
      go_simp
      refine hK _ _ ?_
      clear hK K
      try simp only [List.getElem_toArray, List.getElem_cons_succ, List.getElem_cons_zero, Act.put, List.setIfInBounds_toArray, List.set]
      refine up_done (by kernel_rfl) ?_ _
  case' q3 =>
    refine wp_alloc_arr 65 rfl _ alloc64 ?_
    have hb3 := hb2.alloc hb2.size (.cells zeros64 65)
    obtain ⟨y, hye⟩ : ∃ y, wd.heap.size = y := ⟨_, rfl⟩
    have hy : (wd.alloc (.cells zeros64 65)).heap[y]? = some (.cells zeros64 65 (0, 0)) := by rw [← hye]; exact heap_alloc_new _ _
    generalize hwa : wd.alloc (.cells zeros64 65) = ws at *
    rw [hye]
    clear hwa
    have hyl : wr.heap.size ≤ y := by have := hb2.size; omega
    refine hK _ _ hb3 ?_
    clear hK K
    try simp only [List.getElem_toArray, List.getElem_cons_succ, List.getElem_cons_zero, Act.put, List.setIfInBounds_toArray, List.set]
    refine up_one 6 _ rfl (by kernel_rfl) (by decide) (by rfl) (fun K hK => ?_)
    go_simp
    refine (Hhd.out _ hb3).mono ?_
    rintro e w7 ⟨rfl, rfl⟩
    refine hK _ _ hb3 ?_
    clear hK K
    try simp only [List.getElem_toArray, List.getElem_cons_succ, List.getElem_cons_zero, Act.put, List.setIfInBounds_toArray, List.set]
    refine up_one 7 _ rfl (by kernel_rfl) (by decide) (by rfl) (fun K hK => ?_)
    go_simp
    refine (Hrd.out _ hb3).mono ?_
    rintro e wu ⟨rfl, hbq⟩
    have hb5 := hb3.trans (hbq.mono hb3.size)
    have hy := (hbq.block y (Array.getElem?_eq_some_iff.1 hy).1).trans hy
    refine hK _ _ hb5 ?_
    clear hK K
    try simp only [List.getElem_toArray, List.getElem_cons_succ, List.getElem_cons_zero, Act.put, List.setIfInBounds_toArray, List.set]
    refine up_take (i := 8) (v := .tuple #[.agg qv.toArray, .nilIface]) rfl (by kernel_rfl) (by kernel_rfl) (fun _ _ _ h => h) (Or.inl ⟨by rfl, ?_⟩) hb5 ?_
    · intro w' _; go_simp
    try simp only [List.getElem_toArray, List.getElem_cons_succ, List.getElem_cons_zero, Act.put, List.setIfInBounds_toArray, List.set]
    refine up_take (i := 9) (v := .agg qv.toArray) rfl (by kernel_rfl) (by kernel_rfl) (fun _ _ _ h => h) (Or.inl ⟨by rfl, ?_⟩) hb5 ?_
    · intro w' _; go_simp
    try simp only [List.getElem_toArray, List.getElem_cons_succ, List.getElem_cons_zero, Act.put, List.setIfInBounds_toArray, List.set]
    refine up_take (i := 10) (v := .nilIface) rfl (by kernel_rfl) (by kernel_rfl) (fun _ _ _ h => h) (Or.inl ⟨by rfl, ?_⟩) hb5 ?_
    · intro w' _; go_simp
    try simp only [List.getElem_toArray, List.getElem_cons_succ, List.getElem_cons_zero, Act.put, List.setIfInBounds_toArray, List.set]
    refine up_one 12 _ rfl (by kernel_rfl) (by decide) (by rfl) (fun K hK => ?_)
    refine wp_store_whole 65 _ _ rfl y qv.toArray rfl rfl zeros64 65 hy hqi.out hqz.out hq1.out ?_
    intro w6 Hs6 Hg6
    have hb6 := hb5.trans ((Only.of_grown (F := fun j => j = y) Hg6.out (fun j e => by simpa using e.symm)).base hb5.size (fun j hj => by have e : j = y := hj; omega))
    refine hK _ _ hb6 ?_
    clear hK K
    try simp only [List.getElem_toArray, List.getElem_cons_succ, List.getElem_cons_zero, Act.put, List.setIfInBounds_toArray, List.set]
    refine up_tail ?_
    refine up_last 13 _ rfl (by kernel_rfl) (by decide) (by rfl) (fun K hK => ?_)
    go_simp
    refine hK _ _ ?_
    clear hK K
    try simp only [List.getElem_toArray, List.getElem_cons_succ, List.getElem_cons_zero, Act.put, List.setIfInBounds_toArray, List.set]
    refine up_done (by kernel_rfl) ?_ _
  all_goals
    have hrl := (Array.getElem?_eq_some_iff.1 hr1).1
    have hr6 := (hb6.block r hrl).trans hr1
    have hbw := hb1.trans (hb6.mono hb1.size)
    have hy6 := Hs6.out
    clear Hs6 Hg6 hr1 hy hb6
    go_wp2_with (first
      | (refine wpList_load_row rfl 65 _ rfl y rfl 65 qv.toArray (0, 0) _ hy6 Tryz.underlying65 rfl hqi.out ?_)
      | (go_at_call 91; refine (HtW.out _).mono ?_))
    rintro e w7 ⟨rfl, hb7⟩
    have hr7 := (hb7.block r (Array.getElem?_eq_some_iff.1 hr6).1).trans hr6
    have hbw7 := hbw.trans (hb7.mono hbw.size)
    clear HtW hy6 hr6 hbw hb7
    go_wp2_with (first
      | (refine wpList_store_row rfl 126 _ _ rfl r tv.toArray rfl rfl 126 zn hr7 hti.out htz.out ht1.out ?_))
    have hb9 := below_setRow (g := r) hbw7 (by rw [Hr.out]; exact Nat.le_refl _) tv.toArray
    refine bodyPost_ret (v := .tuple #[.agg tv.toArray, .nilIface]) ?_ rfl ⟨by rw [HLf.out, Htv.out]; rfl, hb9⟩
    exact results_cell_row_tmp (ty := 126) rfl _ _ r 126 _ (0, 0) _ rfl (setRow_heap _ _ _ _ _ _ hr7) Tryz.underlying126 rfl hti.out _ rfl
end
end Go.Proofs.YtfagnbjjffjcbaaGreatDoor
