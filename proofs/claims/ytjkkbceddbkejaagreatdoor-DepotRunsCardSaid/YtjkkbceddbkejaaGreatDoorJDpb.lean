import Derived.Test.YtjkkbceddbkejaaGreatDoorJDpa
set_option linter.unusedSimpArgs false
set_option linter.unusedVariables false
/-
  Package depot: head.
-/
namespace Go.Proofs.YtjkkbceddbkejaaGreatDoor
open Go.RowKit Sh Go.Maps Go.Extern.Stop Go.Stop Go.Extern

def headOf (q : List UInt8) (n : Int) : List UInt8 := if n = 0 then toldH q else z4
theorem headOf_len {q : List UInt8} {n : Int} (h : q.length = 64) : (headOf q n).length = 4 := by unfold headOf; split; exact toldH_len h; rfl
def HeadP (q : List UInt8) (n : Int) (w : World) (e : Ending) (w' : World) : Prop := ∃ v, e = .returned (.tuple #[headV (headOf q n), v]) ∧ ErrV w' n v ∧ Below w.heap.size w w'
section
variable {w : World} {x g first boxes : Nat}
set_option maxRecDepth 100000 in
set_option maxHeartbeats 8000000 in
theorem dhead_any (h : DepAt x g first boxes w) (hf : first ≤ 2048) (box : Nat) (hbx : box ≤ 100000) {q : List UInt8} {n : Int} (hql : q.length = 64)
    (hrd : ∀ W, Below w.heap.size w W → Calls Tryz.prog 78 #[.pointer (some ⟨g, 0, none⟩), .int .i64 (first + box * 5 : Nat)] W (PageP q n W)) :
    Calls Tryz.prog 77 #[.pointer (some ⟨x, 0, none⟩), .int .i64 box] w (HeadP q n w) := by
  obtain ⟨qv, Hqv⟩ : ∃ qv : List Value, Hid (qv = q.map cu8) := ⟨_, rfl⟩
  have hqV : pageV q = .agg qv.toArray := by rw [Hqv.out]; rfl
  have hqi : Hid ((Tryz.prog.info? 33).map (·.size) = some qv.toArray.size) := by rw [Hqv.out]; exact pageInfo hql
  have hqz : Hid (zeros64.size = qv.toArray.size) := by rw [Hqv.out]; exact pageZ hql
  have hq1 : Hid (qv.toArray.all (·.oneCell') = true) := by rw [Hqv.out]; exact bytes_one _
  obtain ⟨zn, Hzn⟩ : ∃ zn : Array Value, Hid (zn = zeroHead) := ⟨_, rfl⟩
  have hal : ∀ w : World, (Instr.alloc 91 true (.tuple #[])).run Tryz.prog w = .ok (.pointer (some ⟨w.heap.size, 0, none⟩)) (w.alloc (.cells zn 91)) := by rw [Hzn.out]; exact allocHead
  have hb1 : Below w.heap.size w (w.alloc (.cells zn 91)) := (Below.refl _ _).alloc (Nat.le_refl _) _
  have hr1 : (w.alloc (.cells zn 91)).heap[w.heap.size]? = some (.cells zn 91 (0, 0)) := heap_alloc_new w _
  obtain ⟨A, hA⟩ : ∃ A : Nat, first + box * 5 = A := ⟨_, rfl⟩
  have hhd := fun W (hW : Below w.heap.size w W) => headAt_any (h.below hW) hf box hbx
  rw [hA] at hrd hhd
  have hrd2 : ∀ W, Below w.heap.size w W → Calls Tryz.prog 78 #[.pointer (some ⟨g, 0, none⟩), .int .i64 A] W (fun e w' => ∃ v, e = .returned (.tuple #[.agg qv.toArray, v]) ∧ ErrV w' n v ∧ Below W.heap.size W w') := fun W hW => (hrd W hW).mono fun e w' ⟨v, h1, h2, h3⟩ => ⟨v, by rw [h1, hqV], h2, h3⟩
  have HrdW := Lib.hid hrd2; have HhdW := Lib.hid hhd
  have h1 := h.below hb1
  clear hA hrd hrd2 hhd h hqV
  go_enter Tryz.func77, Tryz.ntmps77
  go_upto_region 1 with (first
    | (refine wpList_alloc_arr rfl 91 rfl _ hal ?_))
  generalize w.alloc (.cells zn 91) = wr at hb1 hr1 h1 ⊢
  obtain ⟨r, hr⟩ : ∃ r, w.heap.size = r := ⟨_, rfl⟩
  have Hr := Lib.hid hr
  rw [hr] at hr1 ⊢
  have Hrd := Lib.hid (fun W (hW : Below wr.heap.size wr W) => HrdW.out W (hb1.trans (hW.mono hb1.size)))
  have Hhd := Lib.hid (fun W (hW : Below wr.heap.size wr W) => HhdW.out W (hb1.trans (hW.mono hb1.size)))
  have HS := Lib.hid h1
  refine wp_region_up 13 (fun w' => Below wr.heap.size wr w') (by kernel_rfl) ?_
  have hb2 : Below wr.heap.size wr { wr with drawn := wr.drawn + 1 } := ⟨rfl, rfl, rfl, Nat.le_refl _, fun _ _ => rfl⟩
  obtain ⟨wd, hdr⟩ : ∃ wd : World, ({ wr with drawn := wr.drawn + 1 } : World) = wd := ⟨_, rfl⟩
  rw [hdr] at hb2 ⊢
  clear hdr HrdW HhdW h1 hr hal
  refine up_take (i := 0) (v := .pointer (some ⟨x, 0, none⟩)) rfl (by kernel_rfl) (by kernel_rfl) (fun _ _ _ h => h) (Or.inl ⟨by rfl, ?_⟩) hb2 ?_
  · intro w' _; go_simp
  try simp only [List.getElem_toArray, List.getElem_cons_succ, List.getElem_cons_zero, Act.put, List.setIfInBounds_toArray, List.set]
  refine up_take (i := 1) (v := .pointer (some ⟨x, 0, none⟩)) rfl (by kernel_rfl) (by kernel_rfl) (fun _ _ _ h => h) (Or.inl ⟨by rfl, ?_⟩) hb2 ?_
  · intro w' _; go_simp
  try simp only [List.getElem_toArray, List.getElem_cons_succ, List.getElem_cons_zero, Act.put, List.setIfInBounds_toArray, List.set]
  refine up_take (i := 2) (v := .pointer (some ⟨x, 0, none⟩)) rfl (by kernel_rfl) (by kernel_rfl) (fun _ _ _ h => h) (Or.inl ⟨by rfl, ?_⟩) hb2 ?_
  · intro w' _; go_simp
  try simp only [List.getElem_toArray, List.getElem_cons_succ, List.getElem_cons_zero, Act.put, List.setIfInBounds_toArray, List.set]
  refine up_take (i := 3) (v := .pointer (some ⟨g, 0, none⟩)) rfl (by kernel_rfl) (by kernel_rfl) (fun _ _ _ h => h) (Or.inl ⟨by rfl, ?_⟩) hb2 ?_
  · intro w' hS'
    obtain ⟨c0, _⟩ := DepAt.cells (HS.out.below hS')
    clear hS'
    go_simp
  try simp only [List.getElem_toArray, List.getElem_cons_succ, List.getElem_cons_zero, Act.put, List.setIfInBounds_toArray, List.set]
  refine up_take (i := 4) (v := .pointer (some ⟨x, 0, none⟩)) rfl (by kernel_rfl) (by kernel_rfl) (fun _ _ _ h => h) (Or.inl ⟨by rfl, ?_⟩) hb2 ?_
  · intro w' _; go_simp
  try simp only [List.getElem_toArray, List.getElem_cons_succ, List.getElem_cons_zero, Act.put, List.setIfInBounds_toArray, List.set]
  refine up_take (i := 5) (v := .int .i64 box) rfl (by kernel_rfl) (by kernel_rfl) (fun _ _ _ h => h) (Or.inl ⟨by rfl, ?_⟩) hb2 ?_
  · intro w' _; go_simp
  try simp only [List.getElem_toArray, List.getElem_cons_succ, List.getElem_cons_zero, Act.put, List.setIfInBounds_toArray, List.set]
  refine up_two 6 11 _ _ rfl rfl (by kernel_rfl) (by decide) (by decide) (by rfl) (by rfl) (fun K hK => ?p2) (fun K hK => ?q2)
  case' p2 =>
    go_simp
    refine (Hhd.out _ hb2).mono ?_
    rintro e w7 ⟨rfl, rfl⟩
    refine hK _ _ hb2 ?_
    clear hK K
    try simp only [List.getElem_toArray, List.getElem_cons_succ, List.getElem_cons_zero, Act.put, List.setIfInBounds_toArray, List.set]
    refine up_two 7 11 _ _ rfl rfl (by kernel_rfl) (by decide) (by decide) (by rfl) (by rfl) (fun K hK => ?p1) (fun K hK => ?q1)
    case' p1 =>
      go_simp
      refine (Hrd.out _ hb2).mono ?_
      rintro e wt ⟨v, rfl, hE, hbq⟩
      have hb4 := hb2.trans (hbq.mono hb2.size)
      refine hK _ _ hb4 ?_
      clear hK K
      try simp only [List.getElem_toArray, List.getElem_cons_succ, List.getElem_cons_zero, Act.put, List.setIfInBounds_toArray, List.set]
      refine up_take (i := 8) (v := .tuple #[.agg qv.toArray, v]) rfl (by kernel_rfl) (by kernel_rfl) (fun _ _ _ h => h) (Or.inl ⟨by rfl, ?_⟩) hb4 ?_
      · intro w' _; go_simp
      try simp only [List.getElem_toArray, List.getElem_cons_succ, List.getElem_cons_zero, Act.put, List.setIfInBounds_toArray, List.set]
      refine up_take (i := 9) (v := .agg qv.toArray) rfl (by kernel_rfl) (by kernel_rfl) (fun _ _ _ h => h) (Or.inl ⟨by rfl, ?_⟩) hb4 ?_
      · intro w' _; go_simp
      try simp only [List.getElem_toArray, List.getElem_cons_succ, List.getElem_cons_zero, Act.put, List.setIfInBounds_toArray, List.set]
      refine up_take (i := 10) (v := v) rfl (by kernel_rfl) (by kernel_rfl) (fun _ _ _ h => h) (Or.inl ⟨by rfl, ?_⟩) hb4 ?_
      · intro w' _; go_simp
      try simp only [List.getElem_toArray, List.getElem_cons_succ, List.getElem_cons_zero, Act.put, List.setIfInBounds_toArray, List.set]
      refine up_one 11 _ rfl (by kernel_rfl) (by decide) (by rfl) (fun K hK => ?_)
      refine wp_alloc_arr 33 rfl _ alloc64 ?_
      have hb5 := hb4.alloc hb4.size (.cells zeros64 33)
      have hE := hE.below ((Below.refl wt.heap.size wt).alloc (Nat.le_refl _) (.cells zeros64 33))
      obtain ⟨y, hye⟩ : ∃ y, wt.heap.size = y := ⟨_, rfl⟩
      have hy : (wt.alloc (.cells zeros64 33)).heap[y]? = some (.cells zeros64 33 (0, 0)) := by rw [← hye]; exact heap_alloc_new _ _
      generalize hwa : wt.alloc (.cells zeros64 33) = wu at *
      rw [hye]
      clear hwa
      have hyl : wr.heap.size ≤ y := by have := hb4.size; omega
      refine hK _ _ hb5 ?_
      clear hK K
      try simp only [List.getElem_toArray, List.getElem_cons_succ, List.getElem_cons_zero, Act.put, List.setIfInBounds_toArray, List.set]
      refine up_one 12 _ rfl (by kernel_rfl) (by decide) (by rfl) (fun K hK => ?_)
      refine wp_store_whole 33 _ _ rfl y qv.toArray rfl rfl zeros64 33 hy hqi.out hqz.out hq1.out ?_
      intro w6 Hs6 Hg6
      have hE6 : ErrV w6 n v := hE.other (r := y) (fun s => by rw [cell_of_row wu y 0 _ _ _ hy, zerosV]; simp [cu8]) Hg6.out
      have hb6 := hb5.trans ((Only.of_grown (F := fun j => j = y) Hg6.out (fun j e => by simpa using e.symm)).base hb5.size (fun j hj => by have e : j = y := hj; omega))
      refine hK _ _ hb6 ?_
      clear hK K
      try simp only [List.getElem_toArray, List.getElem_cons_succ, List.getElem_cons_zero, Act.put, List.setIfInBounds_toArray, List.set]
      refine up_tail ?_
      refine up_last 13 _ rfl (by kernel_rfl) (by decide) (by rfl) (fun K hK => ?_)
      go_simp
      refine hK _ _ ?_
      clear hK K
      try simp only [List.getElem_toArray, List.getElem_cons_succ, List.getElem_cons_zero, Act.put, List.setIfInBounds_toArray, List.set]
      refine up_done (by kernel_rfl) ?_ _
    case' q1 =>
      refine wp_alloc_arr 33 rfl _ alloc64 ?_
      have hb4 := hb2.alloc hb2.size (.cells zeros64 33)
      obtain ⟨y, hye⟩ : ∃ y, wd.heap.size = y := ⟨_, rfl⟩
      have hy : (wd.alloc (.cells zeros64 33)).heap[y]? = some (.cells zeros64 33 (0, 0)) := by rw [← hye]; exact heap_alloc_new _ _
      generalize hwa : wd.alloc (.cells zeros64 33) = wt at *
      rw [hye]
      clear hwa
      have hyl : wr.heap.size ≤ y := by have := hb2.size; omega
      refine hK _ _ hb4 ?_
      clear hK K
      try simp only [List.getElem_toArray, List.getElem_cons_succ, List.getElem_cons_zero, Act.put, List.setIfInBounds_toArray, List.set]
      refine up_one 7 _ rfl (by kernel_rfl) (by decide) (by rfl) (fun K hK => ?_)
      go_simp
      refine (Hrd.out _ hb4).mono ?_
      rintro e wu ⟨v, rfl, hE, hbq⟩
      have hb5 := hb4.trans (hbq.mono hb4.size)
      have hy := (hbq.block y (Array.getElem?_eq_some_iff.1 hy).1).trans hy
      refine hK _ _ hb5 ?_
      clear hK K
      try simp only [List.getElem_toArray, List.getElem_cons_succ, List.getElem_cons_zero, Act.put, List.setIfInBounds_toArray, List.set]
      refine up_take (i := 8) (v := .tuple #[.agg qv.toArray, v]) rfl (by kernel_rfl) (by kernel_rfl) (fun _ _ _ h => h) (Or.inl ⟨by rfl, ?_⟩) hb5 ?_
      · intro w' _; go_simp
      try simp only [List.getElem_toArray, List.getElem_cons_succ, List.getElem_cons_zero, Act.put, List.setIfInBounds_toArray, List.set]
      refine up_take (i := 9) (v := .agg qv.toArray) rfl (by kernel_rfl) (by kernel_rfl) (fun _ _ _ h => h) (Or.inl ⟨by rfl, ?_⟩) hb5 ?_
      · intro w' _; go_simp
      try simp only [List.getElem_toArray, List.getElem_cons_succ, List.getElem_cons_zero, Act.put, List.setIfInBounds_toArray, List.set]
      refine up_take (i := 10) (v := v) rfl (by kernel_rfl) (by kernel_rfl) (fun _ _ _ h => h) (Or.inl ⟨by rfl, ?_⟩) hb5 ?_
      · intro w' _; go_simp
      try simp only [List.getElem_toArray, List.getElem_cons_succ, List.getElem_cons_zero, Act.put, List.setIfInBounds_toArray, List.set]
      refine up_one 12 _ rfl (by kernel_rfl) (by decide) (by rfl) (fun K hK => ?_)
      refine wp_store_whole 33 _ _ rfl y qv.toArray rfl rfl zeros64 33 hy hqi.out hqz.out hq1.out ?_
      intro w6 Hs6 Hg6
      have hE6 : ErrV w6 n v := hE.other (r := y) (fun s => by rw [cell_of_row wu y 0 _ _ _ hy, zerosV]; simp [cu8]) Hg6.out
      have hb6 := hb5.trans ((Only.of_grown (F := fun j => j = y) Hg6.out (fun j e => by simpa using e.symm)).base hb5.size (fun j hj => by have e : j = y := hj; omega))
      refine hK _ _ hb6 ?_
      clear hK K
      try simp only [List.getElem_toArray, List.getElem_cons_succ, List.getElem_cons_zero, Act.put, List.setIfInBounds_toArray, List.set]
      refine up_tail ?_
      refine up_last 13 _ rfl (by kernel_rfl) (by decide) (by rfl) (fun K hK => ?_)
      go_simp
      refine hK _ _ ?_
      clear hK K
      try simp only [List.getElem_toArray, List.getElem_cons_succ, List.getElem_cons_zero, Act.put, List.setIfInBounds_toArray, List.set]
      refine up_done (by kernel_rfl) ?_ _
  case' q2 =>
    refine wp_alloc_arr 33 rfl _ alloc64 ?_
    have hb3 := hb2.alloc hb2.size (.cells zeros64 33)
    obtain ⟨y, hye⟩ : ∃ y, wd.heap.size = y := ⟨_, rfl⟩
    have hy : (wd.alloc (.cells zeros64 33)).heap[y]? = some (.cells zeros64 33 (0, 0)) := by rw [← hye]; exact heap_alloc_new _ _
    generalize hwa : wd.alloc (.cells zeros64 33) = ws at *
    rw [hye]
    clear hwa
    have hyl : wr.heap.size ≤ y := by have := hb2.size; omega
    refine hK _ _ hb3 ?_
    clear hK K
    try simp only [List.getElem_toArray, List.getElem_cons_succ, List.getElem_cons_zero, Act.put, List.setIfInBounds_toArray, List.set]
    refine up_one 6 _ rfl (by kernel_rfl) (by decide) (by rfl) (fun K hK => ?_)
    go_simp
    refine (Hhd.out _ hb3).mono ?_
    rintro e w7 ⟨rfl, rfl⟩
    refine hK _ _ hb3 ?_
    clear hK K
    try simp only [List.getElem_toArray, List.getElem_cons_succ, List.getElem_cons_zero, Act.put, List.setIfInBounds_toArray, List.set]
    refine up_one 7 _ rfl (by kernel_rfl) (by decide) (by rfl) (fun K hK => ?_)
    go_simp
    refine (Hrd.out _ hb3).mono ?_
    rintro e wu ⟨v, rfl, hE, hbq⟩
    have hb5 := hb3.trans (hbq.mono hb3.size)
    have hy := (hbq.block y (Array.getElem?_eq_some_iff.1 hy).1).trans hy
    refine hK _ _ hb5 ?_
    clear hK K
    try simp only [List.getElem_toArray, List.getElem_cons_succ, List.getElem_cons_zero, Act.put, List.setIfInBounds_toArray, List.set]
    refine up_take (i := 8) (v := .tuple #[.agg qv.toArray, v]) rfl (by kernel_rfl) (by kernel_rfl) (fun _ _ _ h => h) (Or.inl ⟨by rfl, ?_⟩) hb5 ?_
    · intro w' _; go_simp
    try simp only [List.getElem_toArray, List.getElem_cons_succ, List.getElem_cons_zero, Act.put, List.setIfInBounds_toArray, List.set]
    refine up_take (i := 9) (v := .agg qv.toArray) rfl (by kernel_rfl) (by kernel_rfl) (fun _ _ _ h => h) (Or.inl ⟨by rfl, ?_⟩) hb5 ?_
    · intro w' _; go_simp
    try simp only [List.getElem_toArray, List.getElem_cons_succ, List.getElem_cons_zero, Act.put, List.setIfInBounds_toArray, List.set]
    refine up_take (i := 10) (v := v) rfl (by kernel_rfl) (by kernel_rfl) (fun _ _ _ h => h) (Or.inl ⟨by rfl, ?_⟩) hb5 ?_
    · intro w' _; go_simp
    try simp only [List.getElem_toArray, List.getElem_cons_succ, List.getElem_cons_zero, Act.put, List.setIfInBounds_toArray, List.set]
    refine up_one 12 _ rfl (by kernel_rfl) (by decide) (by rfl) (fun K hK => ?_)
    refine wp_store_whole 33 _ _ rfl y qv.toArray rfl rfl zeros64 33 hy hqi.out hqz.out hq1.out ?_
    intro w6 Hs6 Hg6
    have hE6 : ErrV w6 n v := hE.other (r := y) (fun s => by rw [cell_of_row wu y 0 _ _ _ hy, zerosV]; simp [cu8]) Hg6.out
    have hb6 := hb5.trans ((Only.of_grown (F := fun j => j = y) Hg6.out (fun j e => by simpa using e.symm)).base hb5.size (fun j hj => by have e : j = y := hj; omega))
    refine hK _ _ hb6 ?_
    clear hK K
    try simp only [List.getElem_toArray, List.getElem_cons_succ, List.getElem_cons_zero, Act.put, List.setIfInBounds_toArray, List.set]
    refine up_tail ?_
    refine up_last 13 _ rfl (by kernel_rfl) (by decide) (by rfl) (fun K hK => ?_)
    go_simp
    refine hK _ _ ?_
    clear hK K
    try simp only [List.getElem_toArray, List.getElem_cons_succ, List.getElem_cons_zero, Act.put, List.setIfInBounds_toArray, List.set]
    refine up_done (by kernel_rfl) ?_ _
  all_goals
    have hrl := (Array.getElem?_eq_some_iff.1 hr1).1
    have hr6 := (hb6.block r hrl).trans hr1
    have hbw := hb1.trans (hb6.mono hb1.size)
    have hy6 := Hs6.out
    have HE := Lib.hid hE6
    have hyr : r < y := by omega
    clear Hs6 Hg6 hr1 hE hy
    by_cases n0 : n = 0
    · subst n0
      obtain rfl := ErrV.zero HE.out
      have Ht := Lib.hid (fun W => dtold_any (w := W) q hql)
      obtain ⟨tv, Htv⟩ : ∃ tv : List Value, Hid (tv = (toldH q).map cu8) := ⟨_, rfl⟩
      have htl := toldH_len hql
      have htV : headV (toldH q) = .agg tv.toArray := by rw [Htv.out]; rfl
      have hpV : pageV q = .agg qv.toArray := by rw [Hqv.out]; rfl
      have hti : Hid ((Tryz.prog.info? 91).map (·.size) = some tv.toArray.size) := by
        have e : tv.toArray.size = 4 := by rw [List.size_toArray, Htv.out]; simp [htl]
        rw [e]; exact infoHead
      have htz : Hid (zn.size = tv.toArray.size) := by
        have e : tv.toArray.size = 4 := by rw [List.size_toArray, Htv.out]; simp [htl]
        rw [e, Hzn.out]; exact (rfl : zeroHead.size = 4)
      have ht1 : Hid (tv.toArray.all (·.oneCell') = true) := by rw [Htv.out]; exact bytes_one _
      rw [htV, hpV] at Ht
      go_wp2_with (first
        | (refine wpList_load_row rfl 33 _ rfl y rfl 33 qv.toArray (0, 0) _ hy6 Tryz.underlying33 rfl hqi.out ?_)
        | (go_at_call 108; refine (Ht.out _).mono ?_))
      rintro e w7 ⟨rfl, hb7⟩
      have hr7 := (hb7.block r (Array.getElem?_eq_some_iff.1 hr6).1).trans hr6
      have hbw7 := hbw.trans (hb7.mono hbw.size)
      clear Ht hy6
      go_wp2_with (first
        | (refine wpList_store_row rfl 91 _ _ rfl r tv.toArray rfl rfl 91 zn hr7 hti.out htz.out ht1.out ?_))
      have hb8 := below_setRow (g := r) hbw7 (by rw [Hr.out]; exact Nat.le_refl _) tv.toArray
      refine bodyPost_ret (v := .tuple #[.agg tv.toArray, .nilIface]) ?_ rfl ⟨.nilIface, by unfold headOf; rw [if_pos rfl, htV], ErrV.nil, hb8⟩
      exact results_cell_row_tmp (ty := 91) rfl _ _ r 91 _ (0, 0) _ rfl (setRow_heap _ _ _ _ _ _ hr7) Tryz.underlying91 rfl hti.out _ rfl
    · obtain ⟨t, z, rfl⟩ := HE.out.held n0
      have hq := neq_held t z
      obtain ⟨zv, Hzv⟩ : ∃ zv : List Value, Hid (zv = z4.map cu8) := ⟨_, rfl⟩
      have hbz : Hid (Tryz.prog.built 91 [] = some zv.toArray) := by rw [Hzv.out]; exact built_head
      have hzi : Hid ((Tryz.prog.info? 91).map (·.size) = some zv.toArray.size) := by rw [Hzv.out]; exact infoHead
      have hzs : Hid (zn.size = zv.toArray.size) := by rw [Hzv.out, Hzn.out]; exact (rfl : zeroHead.size = 4)
      have hz1 : Hid (zv.toArray.all (·.oneCell') = true) := by rw [Hzv.out]; exact bytes_one _
      have hzn : zn = zv.toArray := by rw [Hzn.out, Hzv.out]; rfl
      have hr6' : w6.heap[r]? = some (.cells zv.toArray 91 (0, 0)) := by rw [← hzn]; exact hr6
      have hfit : Hid (0 + zv.toArray.size ≤ zv.length) := by
        have : 0 + zv.toArray.size ≤ zv.length := by rw [List.size_toArray]; omega
        exact this
      have Hone : Hid (∀ v ∈ zv.toArray.toList, v.oneCell' = true) := by
        have : ∀ v ∈ zv.toArray.toList, v.oneCell' = true := fun v hv => by rw [Hzv.out] at hv; obtain ⟨c, _, rfl⟩ := List.mem_map.1 (by simpa using hv); rfl
        exact this
      clear hy6 hr6 hzn
      go_wp2_with (first
        | (refine wpList_buildZ 91 rfl zv.toArray hbz.out (by rfl) ?_)
        | (refine wpList_store_into rfl 91 _ _ rfl r 0 zv.toArray rfl rfl zv 91 hr6' hzi.out hfit.out Hone.out ?_; intro w8 Hs8 Hg8))
      have hE8 : ErrV w8 n (.iface t z) := HE.out.other (r := r) (fun s => by rw [cell_of_row w6 r 0 _ _ _ hr6', Hzv.out]; simp [z4, cu8]) Hg8.out
      have hb8 := hbw.trans ((Only.of_grown (F := fun j => j = r) Hg8.out (fun j e => by simpa using e.symm)).base hbw.size (fun j hj => by have e : j = r := hj; have := Hr.out; omega))
      have hs8 : w8.heap[r]? = some (.cells zv.toArray 91 (0, 0)) := by
        have := Hs8.out
        rw [splice_whole zv zv rfl] at this
        exact this
      refine bodyPost_ret (v := .tuple #[.agg zv.toArray, .iface t z]) ?_ rfl ⟨.iface t z, by unfold headOf; rw [if_neg n0, Hzv.out]; rfl, hE8, by have e := Hr.out; first | exact hb8 | (rw [← e]; exact hb8)⟩
      exact results_cell_row_tmp (ty := 91) rfl _ _ r 91 _ (0, 0) _ rfl hs8 Tryz.underlying91 rfl hzi.out _ rfl
end
end Go.Proofs.YtjkkbceddbkejaaGreatDoor

/-
  Package depot: mark.
-/
namespace Go.Proofs.YtjkkbceddbkejaaGreatDoor
open Go.RowKit Sh Go.Maps Go.Extern.Stop Go.Stop Go.Extern

section
variable {w : World} {x g first boxes : Nat}
set_option maxRecDepth 100000 in
set_option maxHeartbeats 8000000 in
/-- mark, where the head is read. -/
theorem dmark_ok (h : DepAt x g first boxes w) (hf : first ≤ 2048) (slot : Nat) (hs : slot ≤ 100000) (s : UInt8) {q : List UInt8} (hql : q.length = 64) {n : Int} {Q : World → Prop}
    (hrd : ∀ W, Below w.heap.size w W → Calls Tryz.prog 78 #[.pointer (some ⟨g, 0, none⟩), .int .i64 (first + slot / 4 * 5 : Nat)] W (PageP q 0 W))
    (hwr : ∀ W, Below w.heap.size w W → Calls Tryz.prog 70 #[.pointer (some ⟨g, 0, none⟩), .int .i64 (first + slot / 4 * 5 : Nat), pageV (pageH ((toldH q).set (slot % 4) s))] W (TQ n Q)) :
    Calls Tryz.prog 72 #[.pointer (some ⟨x, 0, none⟩), .int .i64 slot, cu8 s] w (TQ n Q) := by
  have hhd := dhead_any h hf (slot / 4) (by omega) hql hrd
  have hhA := fun W (hW : Below w.heap.size w W) => headAt_any (h.below hW) hf (slot / 4) (by omega)
  obtain ⟨b, hb⟩ : ∃ b, slot / 4 = b := ⟨_, rfl⟩
  obtain ⟨r, hr⟩ : ∃ r, slot % 4 = r := ⟨_, rfl⟩
  have hr4 : r < 4 := by omega
  have hbl : b ≤ 100000 := by omega
  have hd : ((slot : Int)).tdiv 4 = (b : Int) := by rw [Int.tdiv_eq_ediv_of_nonneg (by omega)]; omega
  have hm : ((slot : Int)).tmod 4 = (r : Int) := by rw [Int.tmod_eq_emod_of_nonneg (by omega)]; omega
  rw [hb] at hhd hhA hwr
  rw [hr] at hwr
  obtain ⟨A, hA⟩ : ∃ A, first + b * 5 = A := ⟨_, rfl⟩
  rw [hA] at hhA hwr
  obtain ⟨hd0, hhd0⟩ : ∃ hd0, toldH q = hd0 := ⟨_, rfl⟩
  have hdl : hd0.length = 4 := by rw [← hhd0]; exact toldH_len hql
  have e0 : headOf q 0 = hd0 := by unfold headOf; rw [if_pos rfl, hhd0]
  rw [hhd0] at hwr
  obtain ⟨hv, Hhv⟩ : ∃ hv : List Value, Hid (hv = hd0.map cu8) := ⟨_, rfl⟩
  have hV : headV hd0 = .agg hv.toArray := by rw [Hhv.out]; rfl
  have hhd' : Calls Tryz.prog 77 #[.pointer (some ⟨x, 0, none⟩), .int .i64 b] w (fun e w' => ∃ v, e = .returned (.tuple #[.agg hv.toArray, v]) ∧ ErrV w' 0 v ∧ Below w.heap.size w w') := hhd.mono fun e w' ⟨v, h1, h2, h3⟩ => ⟨v, by rw [h1, e0, hV], h2, h3⟩
  have Hhead := Lib.hid hhd'
  have hvl : hv.length = 4 := by rw [Hhv.out]; simp [hdl]
  have hi : Hid ((Tryz.prog.info? 91).map (·.size) = some hv.toArray.size) := by rw [List.size_toArray, hvl]; exact infoHead
  have hz : Hid (zeroHead.size = hv.toArray.size) := by
    have e : hv.toArray.size = 4 := by rw [List.size_toArray, hvl]
    rw [e]; exact (rfl : zeroHead.size = 4)
  have h1 : Hid (hv.toArray.all (·.oneCell') = true) := by rw [Hhv.out]; exact bytes_one _
  obtain ⟨zn, Hzn⟩ : ∃ zn : Array Value, Hid (zn = zeroHead) := ⟨_, rfl⟩
  rw [← Hzn.out] at hz
  have hal : ∀ w : World, (Instr.alloc 91 true (.tuple #[])).run Tryz.prog w = .ok (.pointer (some ⟨w.heap.size, 0, none⟩)) (w.alloc (.cells zn 91)) := by rw [Hzn.out]; exact allocHead
  obtain ⟨sv, hsv⟩ : ∃ sv, cu8 s = sv := ⟨_, rfl⟩
  have Hsv := Lib.hid hsv
  have HhA := Lib.hid hhA; have HwrW := Lib.hid hwr; have HD := Lib.hid h
  rw [hsv]
  clear hhd hhd' hhA hwr hrd hb hr hA hhd0 e0 hV hsv h
  go_enter Tryz.func72, Tryz.ntmps72
  go_wp2_with (first
    | (go_at_call 77; refine Hhead.out.mono ?_))
  rintro e w2 ⟨v2, rfl, hE2, hb2⟩
  obtain rfl := ErrV.zero hE2
  clear hE2 Hhead
  go_upto_region 3 with (first
    | (refine wpList_alloc_arr rfl 91 rfl _ hal ?_)
    | (refine wpList_store_new rfl 91 _ _ rfl w2.heap.size rfl hv.toArray rfl rfl 91 _ hi.out hz.out h1.out ?_))
  have hb3 : Below w2.heap.size w2 (w2.alloc (.cells hv.toArray 91)) := (Below.refl _ _).alloc (Nat.le_refl _) _
  have hy3 : (w2.alloc (.cells hv.toArray 91)).heap[w2.heap.size]? = some (.cells hv.toArray 91 (0, 0)) := heap_alloc_new w2 _
  have hb23 := hb2.trans (hb3.mono hb2.size)
  generalize w2.alloc (.cells hv.toArray 91) = w3 at hb3 hy3 hb23 ⊢
  obtain ⟨y, hye⟩ : ∃ y, w2.heap.size = y := ⟨_, rfl⟩
  rw [hye] at hy3 ⊢
  have hyw : w.heap.size ≤ y := by have := hb2.size; omega
  clear hb3 hb2 hye hal
  have cz : ∃ u, w3.cell? ⟨y, r, none⟩ = some u := by
    rw [cell_of_row w3 y r _ _ _ hy3, List.getElem?_toArray]
    exact ⟨_, List.getElem?_eq_getElem (by omega)⟩
  obtain ⟨u, cz⟩ := cz
  have fz : w3.frozen? ⟨y, r, none⟩ = false := by simp [World.frozen?, hy3]
  obtain ⟨mv, Hmv⟩ : ∃ mv : List Value, Hid (mv = (hd0.set r s).map cu8) := ⟨_, rfl⟩
  have hmvl : mv.length = 4 := by rw [Hmv.out]; simp [hdl]
  have hset : (w3.setCell ⟨y, r, none⟩ sv).heap[y]? = some (.cells mv.toArray 91 (0, 0)) := by
    rw [Hmv.out, List.map_set, Hsv.out, ← Hhv.out]
    simp [World.setCell, Array.getElem?_modify, hy3]
  have hg4 := grown_setCell w3 ⟨y, r, none⟩ sv
  have hb4 : Below w.heap.size w (w3.setCell ⟨y, r, none⟩ sv) := hb23.trans ((Only.of_grown (F := fun j => j = y) hg4 (fun j e => by simpa using e.symm)).base hb23.size (fun j hj => by have e : j = y := hj; omega))
  have hone : (Value.oneCell' sv) = true := by rw [← Hsv.out]; rfl
  obtain ⟨svx, hsvx⟩ : ∃ k : Int, sv = .int .u8 k := ⟨_, by rw [← Hsv.out]; exact cu8_nat s⟩
  subst hsvx
  clear hg4 hb23
  go_upto_region 6 with (fail)
  generalize w3.setCell ⟨y, r, none⟩ (.int .u8 svx) = w4 at hset hb4 ⊢
  clear cz fz hy3
  have hyl := (Array.getElem?_eq_some_iff.1 hset).1
  have hh4 := HD.out.below hb4
  have HS := Lib.hid hh4
  have HL := Lib.hid (fun W (hW : Below w4.heap.size w4 W) => run_loadAt_mid (P := Tryz.prog) W y 0 91 mv _ (fun j v hj => by rw [Nat.zero_add, cell_of_row W y j _ _ _ ((hW.block y hyl).trans hset)]; simpa using hj) Tryz.underlying91 rfl (by rw [hmvl]; exact infoHead))
  obtain ⟨pv, Hpv⟩ : ∃ pv : List Value, Hid (pv = (pageH (hd0.set r s)).map cu8) := ⟨_, rfl⟩
  have hpV : pageV (pageH (hd0.set r s)) = .agg pv.toArray := by rw [Hpv.out]; rfl
  have hmV : headV (hd0.set r s) = .agg mv.toArray := by rw [Hmv.out]; rfl
  have hpg0 := fun W => hpage_any (w := W) (hd0.set r s) (by simp [hdl])
  rw [hpV, hmV] at hpg0
  have Hpg := Lib.hid (fun W (_ : Below w4.heap.size w4 W) => hpg0 W)
  have hwr0 := HwrW.out
  rw [hpV] at hwr0
  have Hwr := Lib.hid (fun W (hW : Below w4.heap.size w4 W) => hwr0 W (hb4.trans (hW.mono hb4.size)))
  have Hhd := Lib.hid (fun W (hW : Below w4.heap.size w4 W) => HhA.out W (hb4.trans (hW.mono hb4.size)))
  refine wp_region_up 9 (fun w' => Below w4.heap.size w4 w') (by kernel_rfl) ?_
  have hb5 : Below w4.heap.size w4 { w4 with drawn := w4.drawn + 1 } := ⟨rfl, rfl, rfl, Nat.le_refl _, fun _ _ => rfl⟩
  obtain ⟨wd, hdr⟩ : ∃ wd : World, ({ w4 with drawn := w4.drawn + 1 } : World) = wd := ⟨_, rfl⟩
  rw [hdr] at hb5 ⊢
  clear hdr hpg0 hwr0 HwrW HhA hh4
  refine up_take (i := 0) (v := .pointer (some ⟨x, 0, none⟩)) rfl (by kernel_rfl) (by kernel_rfl) (fun _ _ _ h => h) (Or.inl ⟨by rfl, ?_⟩) hb5 ?_
  · intro w' _; go_simp
  try simp only [List.getElem_toArray, List.getElem_cons_succ, List.getElem_cons_zero, Act.put, List.setIfInBounds_toArray, List.set]
  refine up_take (i := 1) (v := .pointer (some ⟨x, 0, none⟩)) rfl (by kernel_rfl) (by kernel_rfl) (fun _ _ _ h => h) (Or.inl ⟨by rfl, ?_⟩) hb5 ?_
  · intro w' _; go_simp
  try simp only [List.getElem_toArray, List.getElem_cons_succ, List.getElem_cons_zero, Act.put, List.setIfInBounds_toArray, List.set]
  refine up_take (i := 2) (v := .pointer (some ⟨x, 0, none⟩)) rfl (by kernel_rfl) (by kernel_rfl) (fun _ _ _ h => h) (Or.inl ⟨by rfl, ?_⟩) hb5 ?_
  · intro w' _; go_simp
  try simp only [List.getElem_toArray, List.getElem_cons_succ, List.getElem_cons_zero, Act.put, List.setIfInBounds_toArray, List.set]
  refine up_take (i := 3) (v := .pointer (some ⟨g, 0, none⟩)) rfl (by kernel_rfl) (by kernel_rfl) (fun _ _ _ h => h) (Or.inl ⟨by rfl, ?_⟩) hb5 ?_
  · intro w' hS'
    obtain ⟨c0, _⟩ := DepAt.cells (HS.out.below hS')
    clear hS'
    go_simp
  try simp only [List.getElem_toArray, List.getElem_cons_succ, List.getElem_cons_zero, Act.put, List.setIfInBounds_toArray, List.set]
  refine up_take (i := 4) (v := .pointer (some ⟨x, 0, none⟩)) rfl (by kernel_rfl) (by kernel_rfl) (fun _ _ _ h => h) (Or.inl ⟨by rfl, ?_⟩) hb5 ?_
  · intro w' _; go_simp
  try simp only [List.getElem_toArray, List.getElem_cons_succ, List.getElem_cons_zero, Act.put, List.setIfInBounds_toArray, List.set]
  refine up_take (i := 5) (v := .int .i64 b) rfl (by kernel_rfl) (by kernel_rfl) (fun _ _ _ h => h) (Or.inl ⟨by rfl, ?_⟩) hb5 ?_
  · intro w' _; go_simp
  try simp only [List.getElem_toArray, List.getElem_cons_succ, List.getElem_cons_zero, Act.put, List.setIfInBounds_toArray, List.set]
  refine up_take (i := 7) (v := .agg mv.toArray) rfl (by kernel_rfl) (by kernel_rfl) (fun _ _ _ h => h) (Or.inl ⟨by rfl, ?_⟩) hb5 ?_
  · intro w' hS'; exact exec_load _ _ 91 _ rfl y 0 rfl _ (HL.out w' hS')
  try simp only [List.getElem_toArray, List.getElem_cons_succ, List.getElem_cons_zero, Act.put, List.setIfInBounds_toArray, List.set]
  refine up_one 6 _ rfl (by kernel_rfl) (by decide) (by rfl) (fun K hK => ?_)
  go_simp
  refine (Hhd.out _ hb5).mono ?_
  rintro e w' ⟨rfl, rfl⟩
  refine hK _ _ hb5 ?_
  clear hK K
  try simp only [List.getElem_toArray, List.getElem_cons_succ, List.getElem_cons_zero, Act.put, List.setIfInBounds_toArray, List.set]
  refine up_one 8 _ rfl (by kernel_rfl) (by decide) (by rfl) (fun K hK => ?_)
  go_simp
  refine (Hpg.out _ hb5).mono ?_
  rintro e w6 ⟨rfl, hq6⟩
  have hb6 := hb5.trans (hq6.mono hb5.size)
  refine hK _ _ hb6 ?_
  clear hK K
  try simp only [List.getElem_toArray, List.getElem_cons_succ, List.getElem_cons_zero, Act.put, List.setIfInBounds_toArray, List.set]
  refine up_tail ?_
  refine up_last 9 _ rfl (by kernel_rfl) (by decide) (by rfl) (fun K hK => ?_)
  go_simp
  refine (Hwr.out _ hb6).mono ?_
  rintro e w7 ⟨v7, rfl, hE7, hq7⟩
  refine hK _ _ ?_
  clear hK K
  try simp only [List.getElem_toArray, List.getElem_cons_succ, List.getElem_cons_zero, Act.put, List.setIfInBounds_toArray, List.set]
  refine up_last 10 _ rfl (by kernel_rfl) (by decide) (by rfl) (fun K hK => ?_)
  go_simp
  refine hK _ _ ?_
  clear hK K
  try simp only [List.getElem_toArray, List.getElem_cons_succ, List.getElem_cons_zero, Act.put, List.setIfInBounds_toArray, List.set]
  refine up_done (by kernel_rfl) ?_ _
  have Hfin := Lib.hid (show TQ n Q (.returned v7) w7 from ⟨v7, rfl, hE7, hq7⟩)
  clear hE7 hq7
  go_wp2
  go_ret
  exact Hfin.out
end
end Go.Proofs.YtjkkbceddbkejaaGreatDoor
