/-
  'CrcFits': its walk.
-/
import Derived.Test.YtmbhfmipmadjpaaCrcRest
namespace Go.Proofs.Ytmbhfmipmadjpaa
open Go.RowKit Sh Cr

theorem fits_own (bs : List UInt8) : fitsB ([] ++ bs ++ le4 (Cr.sum bs)) = true := by
  rw [List.nil_append, fitsB_append _ _ rfl]; exact decide_eq_true rfl
theorem fits_tail (bs tl : List UInt8) (h : tl.length = 4) : fitsB ([] ++ bs ++ tl) = decide (le4 (Cr.sum bs) = tl) := by
  rw [List.nil_append, fitsB_append _ _ h]
theorem tail_bytes {w : World} {g : Nat} {tv : Array Value} {tl : List UInt8} {t : TypeId} (h : w.heap[g]? = some (.cells tv t (0, 0))) (hr : Hid (tv = (tl.map cu8).toArray)) (hl : tl.length = 4) : Bytes w.heap.size w (some ⟨g, 0, none⟩) 4 4 tl :=
  ⟨hl, Nat.le_refl _, by unfold maxLen; omega, .inr ⟨g, 0, rfl, (Array.getElem?_eq_some_iff.1 h).1, fun j hj => by
    rw [cell_of_row w g _ _ _ _ h, hr.out, List.getElem?_toArray, List.getElem?_map, Nat.zero_add, at8, List.getD_eq_getElem?_getD, List.getElem?_eq_getElem (by omega)]; rfl⟩⟩
theorem block_range {w : World} {g : Nat} {tv : Array Value} {tl : List UInt8} {t : TypeId} (h : w.heap[g]? = some (.cells tv t (0, 0))) (hr : Hid (tv = (tl.map cu8).toArray)) : w.rangeAt g 0 (tl.map cu8) := fun j v hv => by
  rw [Nat.zero_add, cell_of_row w g j _ _ _ h, hr.out, List.getElem?_toArray]; exact hv
theorem range_below {w w' : World} {g o : Nat} {cs : List Value} (h : w.rangeAt g o cs) (hg : g < w.heap.size) (hb : Below w.heap.size w w') : w'.rangeAt g o cs := fun j v hv => by
  rw [hb.cell (p := ⟨g, o + j, none⟩) hg]; exact h j v hv

set_option maxRecDepth 100000 in
set_option maxHeartbeats 1600000 in
theorem crcFits_any (bp : Option Addr) (len cap : Nat) (bs tl : List UInt8) (tv : Array Value) (w : World) (hB : Bytes w.heap.size w bp len cap bs) (hlen : len ≤ 140737488351232) (Htv : Hid (tv = (tl.map cu8).toArray)) (htl : Hid (tl.length = 4)) :
    Calls Try.prog 5 #[.slice bp len cap, .agg tv] w (TruePost w) := by
  have hm := Lib.hid hB.hmax
  obtain ⟨L, HL⟩ : ∃ L, Hid (len + 4 = L) := ⟨_, rfl⟩
  go_enter Try.func5, Try.ntmps5
  have hr0 : (w.alloc (.cells tv 36)).heap[w.heap.size]? = some (.cells tv 36 (0, 0)) := heap_alloc_new w _
  have hW0 : Below w.heap.size w (w.alloc (.cells tv 36)) := (Below.refl _ _).alloc (Nat.le_refl _) _
  obtain ⟨w0, hw0⟩ : ∃ w0, Hid (w.alloc (.cells tv 36) = w0) := ⟨_, rfl⟩
  obtain ⟨g3, hg3⟩ : ∃ g3, Hid (w.heap.size = g3) := ⟨_, rfl⟩
  rw [hw0.out] at hr0 hW0
  have hr0' : w0.heap[g3]? = some (.cells tv 36 (0, 0)) := by rw [← hg3.out]; exact hr0
  clear hr0
  go_wp2_with (first
    | (rw [hw0.out, hg3.out]; go_at_call 8; refine (stands_any _).mono ?_; rintro e w1 ⟨rfl, hb1⟩
       have hW1 : Below w.heap.size w w1 := hW0.trans (hb1.mono hW0.size))
    | (go_at_call 12; refine (plain_any bp len cap _ bs w1 (hB.below hW1)).mono ?_; rintro e w' ⟨rfl, rfl⟩)
    | (go_at_call 14; refine (bytes_any _ w1).mono ?_; rintro e w3 ⟨rv, Hrv, rfl, hb3⟩; have hB3 : Below w.heap.size w w3 := hW1.trans (hb3.mono hW1.size))
    | (refine wpList_alloc_arr rfl 36 rfl _ alloc4 ?_)
    | (refine wpList_store_new rfl 36 _ _ rfl w3.heap.size rfl rv rfl rfl 36 _ (by rw [(a4_size Hrv).out]; kernel_rfl) (by rw [(a4_size Hrv).out]; kernel_rfl) (a4_one Hrv).out ?_
       have hr4 : (w3.alloc (.cells rv 36)).heap[w3.heap.size]? = some (.cells rv 36 (0, 0)) := heap_alloc_new w3 _
       have hW4 : Below w.heap.size w (w3.alloc (.cells rv 36)) := hB3.alloc hB3.size _
       have hr3 : (w3.alloc (.cells rv 36)).heap[g3]? = some (.cells tv 36 (0, 0)) := by
         have e1 := hb1.block g3 (Array.getElem?_eq_some_iff.1 hr0').1
         have l1 : g3 < w1.heap.size := (Array.getElem?_eq_some_iff.1 (e1.trans hr0')).1
         have e3 := hb3.block g3 l1
         have l3 : g3 < w3.heap.size := (Array.getElem?_eq_some_iff.1 ((e3.trans e1).trans hr0')).1
         exact (Below.heap_alloc _ _ _ l3).trans ((e3.trans e1).trans hr0')
       clear hb1 hb3 hB3 hW1 hW0 hr0'
       generalize w3.alloc (.cells rv 36) = w4 at hr4 hW4 hr3 ⊢
       generalize w3.heap.size = g4 at hr4 ⊢))
  have hT4 := a4_bytes hr4 Hrv
  have hU4 := tail_bytes hr3 Htv htl.out
  have hB4 := (hB.below hW4).mono hW4.size
  have hR4 : w4.rangeAt g4 0 ((le4 (Cr.sum bs)).map cu8) := block_range hr4 Hrv
  have hR3 : w4.rangeAt g3 0 (tl.map cu8) := block_range hr3 Htv
  have hg4l : g4 < w4.heap.size := (Array.getElem?_eq_some_iff.1 hr4).1
  have hg3l : g3 < w4.heap.size := (Array.getElem?_eq_some_iff.1 hr3).1
  obtain ⟨q, hq⟩ : ∃ q, Hid (decide (le4 (Cr.sum bs) = tl) = q) := ⟨_, rfl⟩
  have F1 := Lib.hid (fits_own bs)
  have F2 : Hid (fitsB ([] ++ bs ++ tl) = q) := Lib.hid ((fits_tail bs tl htl.out).trans hq.out)
  have E2 : Hid (∀ w : World, (binOp .eql 36 (.agg (tl.map cu8).toArray) (.agg ((le4 (Cr.sum bs)).map cu8).toArray)).run Try.prog w = .ok (.bool q) w) := Lib.hid fun w => by
    rw [eql4 _ _ htl.out rfl, ← hq.out]
    congr 3
    exact propext eq_comm
  obtain ⟨s, hs⟩ : ∃ s, Hid (Cr.sum bs = s) := ⟨_, rfl⟩
  rw [hs.out] at hT4 hR4 F1 E2
  clear hB hr4 hr3
  refine wp_region_held (S := fun w' => Below w4.heap.size w4 w') (by kernel_rfl) ?_
  change wpAnyH _ _ _ _ _ _ _ _ (World.drew _)
  have hS5 : Below w4.heap.size w4 w4.drew := ⟨rfl, rfl, rfl, Nat.le_refl _, fun _ _ => rfl⟩
  generalize w4.drew = w5 at hS5 ⊢
  refine wpAnyH_take (i := 0) (v := .slice bp len cap) rfl (by kernel_rfl) (by kernel_rfl) (by kernel_rfl) (fun _ _ _ h => h) (Or.inl ⟨by rfl, ?_⟩) hS5 ?_
  · intro w _; go_simp
  try simp only [List.getElem_toArray, List.getElem_cons_zero, Act.put, List.setIfInBounds_toArray, List.set]
  refine wpAnyH_take (i := 2) (v := .slice (some ⟨g4, 0, none⟩) 4 4) rfl (by kernel_rfl) (by kernel_rfl) (by kernel_rfl) (fun _ _ _ h => h) (Or.inl ⟨by rfl, ?_⟩) hS5 ?_
  · intro w _; go_simp
  try simp only [List.getElem_toArray, List.getElem_cons_succ, List.getElem_cons_zero, Act.put, List.setIfInBounds_toArray, List.set]
  refine wpAnyH_one 1 _ rfl (by kernel_rfl) (by rfl) (fun K hK => ?_)
  refine wp_join w4 w5 (.const (.slice none 0 0)) _ rfl (.slice none 0 0) 0 [] rfl (Own.start hS5) _ bp len cap bs rfl (hB4.below hS5) len (by omega) (by omega) ?_
  intro v6 w6 hO6 hX6
  have hS6 : Below w4.heap.size w4 w6 := hO6.below
  obtain ⟨p6, c6, rfl, hP6⟩ := hO6.bytes
  refine hK _ _ hS6 ?_
  clear hK K
  try simp only [List.getElem_toArray, List.getElem_cons_succ, List.getElem_cons_zero, Act.put, List.setIfInBounds_toArray, List.set]
  refine wpAnyH_one 3 _ rfl (by kernel_rfl) (by rfl) (fun K hK => ?_)
  refine wp_join w4 w6 _ _ rfl _ _ _ rfl hO6 _ (some ⟨g4, 0, none⟩) 4 4 (le4 s) rfl (hT4.below hS6) L HL.out (by have := HL.out; omega) ?_
  intro v7 w7 hO7 hX7
  have hS7 : Below w4.heap.size w4 w7 := hO7.below
  obtain ⟨p7, c7, rfl, hP7⟩ := hO7.bytes
  refine hK _ _ hS7 ?_
  clear hK K
  try simp only [List.getElem_toArray, List.getElem_cons_succ, List.getElem_cons_zero, Act.put, List.setIfInBounds_toArray, List.set]
  refine wpAnyH_take (i := 4) (v := .slice p7 L c7) rfl (by kernel_rfl) (by kernel_rfl) (by kernel_rfl) (fun _ _ _ h => h) (Or.inl ⟨by rfl, ?_⟩) hS7 ?_
  · intro w _; go_simp
  try simp only [List.getElem_toArray, List.getElem_cons_succ, List.getElem_cons_zero, Act.put, List.setIfInBounds_toArray, List.set]
  refine wpAnyH_done (by kernel_rfl) ?_ _
  have hW7 : Below w.heap.size w w7 := hW4.trans (hS7.mono hW4.size)
  have hB7 := (hB4.below hS7).mono hS7.size
  clear hX6 hX7 hO6 hP6
  have hU7 := (hU4.below hS7).mono hS7.size
  have hR7 := range_below hR4 hg4l hS7
  have hQ7 := range_below hR3 hg3l hS7
  have hg7l := Nat.lt_of_lt_of_le hg4l hS7.size
  have hh7l := Nat.lt_of_lt_of_le hg3l hS7.size
  clear hU4 hT4 hR4 hR3 hS5 hS6 hO7
  go_wp2
  refine wp_region_held (S := fun w' => Below w7.heap.size w7 w') (by kernel_rfl) ?_
  change wpAnyH _ _ _ _ _ _ _ _ (World.drew _)
  have hS8 : Below w7.heap.size w7 w7.drew := ⟨rfl, rfl, rfl, Nat.le_refl _, fun _ _ => rfl⟩
  generalize w7.drew = w8 at hS8 ⊢
  refine wpAnyH_take (i := 0) (v := .slice bp len cap) rfl (by kernel_rfl) (by kernel_rfl) (by kernel_rfl) (fun _ _ _ h => h) (Or.inl ⟨by rfl, ?_⟩) hS8 ?_
  · intro w _; go_simp
  try simp only [List.getElem_toArray, List.getElem_cons_zero, Act.put, List.setIfInBounds_toArray, List.set]
  refine wpAnyH_take (i := 2) (v := .slice (some ⟨g3, 0, none⟩) 4 4) rfl (by kernel_rfl) (by kernel_rfl) (by kernel_rfl) (fun _ _ _ h => h) (Or.inl ⟨by rfl, ?_⟩) hS8 ?_
  · intro w _; go_simp
  try simp only [List.getElem_toArray, List.getElem_cons_succ, List.getElem_cons_zero, Act.put, List.setIfInBounds_toArray, List.set]
  refine wpAnyH_one 1 _ rfl (by kernel_rfl) (by rfl) (fun K hK => ?_)
  refine wp_join w7 w8 (.const (.slice none 0 0)) _ rfl (.slice none 0 0) 0 [] rfl (Own.start hS8) _ bp len cap bs rfl (hB7.below hS8) len (by omega) (by omega) ?_
  intro v9 w9 hO9 hX9
  have hS9 : Below w7.heap.size w7 w9 := hO9.below
  obtain ⟨p9, c9, rfl, hP9⟩ := hO9.bytes
  refine hK _ _ hS9 ?_
  clear hK K
  try simp only [List.getElem_toArray, List.getElem_cons_succ, List.getElem_cons_zero, Act.put, List.setIfInBounds_toArray, List.set]
  refine wpAnyH_one 3 _ rfl (by kernel_rfl) (by rfl) (fun K hK => ?_)
  refine wp_join w7 w9 _ _ rfl _ _ _ rfl hO9 _ (some ⟨g3, 0, none⟩) 4 4 tl rfl (hU7.below hS9) L HL.out (by have := HL.out; omega) ?_
  intro v10 w10 hO10 hX10
  have hS10 : Below w7.heap.size w7 w10 := hO10.below
  obtain ⟨p10, c10, rfl, hP10⟩ := hO10.bytes
  refine hK _ _ hS10 ?_
  clear hK K
  try simp only [List.getElem_toArray, List.getElem_cons_succ, List.getElem_cons_zero, Act.put, List.setIfInBounds_toArray, List.set]
  refine wpAnyH_take (i := 4) (v := .slice p10 L c10) rfl (by kernel_rfl) (by kernel_rfl) (by kernel_rfl) (fun _ _ _ h => h) (Or.inl ⟨by rfl, ?_⟩) hS10 ?_
  · intro w _; go_simp
  try simp only [List.getElem_toArray, List.getElem_cons_succ, List.getElem_cons_zero, Act.put, List.setIfInBounds_toArray, List.set]
  refine wpAnyH_done (by kernel_rfl) ?_ _
  have hW10 : Below w.heap.size w w10 := hW7.trans (hS10.mono hW7.size)
  have hB10 := (hB7.below hS10).mono hS10.size
  clear hX9 hX10 hO9 hP9
  have hR10 := range_below hR7 hg7l hS10
  have hQ10 := range_below hQ7 hh7l hS10
  have hA10 := (hP7.below hS10).mono hS10.size
  have hg10l := Nat.lt_of_lt_of_le hg7l hS10.size
  have hh10l := Nat.lt_of_lt_of_le hh7l hS10.size
  clear hR7 hQ7 hS8 hS9 hO10 hU7 hP7 hS7 hg7l hh7l hg4l hg3l
  have hend : ∀ w20 : World, Below w10.heap.size w10 w20 → Hid (Below w10.heap.size w10 w20) := fun _ h => Lib.hid h
  by_cases hsh : len < 4
  · have hsh' : (len : Int) < 4 := by omega
    have F0 : Hid (fitsB bs = false) := Lib.hid (by unfold fitsB; rw [hB10.hlen, decide_eq_false (by omega)]; rfl)
    go_wp2_with (first | (go_at_call 15; refine (fits_any none bp len cap bs w10 (TabOk.nil _ _) hB10).mono ?_; rintro e w20 ⟨he, hX20⟩; rw [F0.out] at he; subst he))
    have hR20 := range_below hR10 hg10l hX20
    have hQ20 := range_below hQ10 hh10l hX20
    have hA20 := (hA10.below hX20).mono hX20.size
    have hO20 := (hP10.below hX20).mono hX20.size
    have hg20l := Nat.lt_of_lt_of_le hg10l hX20.size
    have hh20l := Nat.lt_of_lt_of_le hh10l hX20.size
    have hW20 : Below w.heap.size w w20 := hW10.trans (hX20.mono hW10.size)
    clear hR10 hQ10 hA10 hP10 hend hX20
    refine wp_region_held (S := fun w' => Below w20.heap.size w20 w') (by kernel_rfl) ?_
    change wpAnyH _ _ _ _ _ _ _ _ (World.drew _)
    have hS21 : Below w20.heap.size w20 w20.drew := ⟨rfl, rfl, rfl, Nat.le_refl _, fun _ _ => rfl⟩
    generalize w20.drew = w21 at hS21 ⊢
    refine wpAnyH_take (i := 1) (v := .slice p7 L c7) rfl (by kernel_rfl) (by kernel_rfl) (by kernel_rfl) (fun _ _ _ h => h) (Or.inl ⟨by rfl, ?_⟩) hS21 ?_
    · intro w _; go_simp
    try simp only [List.getElem_toArray, List.getElem_cons_succ, List.getElem_cons_zero, Act.put, List.setIfInBounds_toArray, List.set]
    refine wpAnyH_one 0 _ rfl (by kernel_rfl) (by rfl) (fun K hK => ?_)
    go_simp
    refine (table_any w21).mono ?_
    rintro e w22 ⟨gt, rfl, hgt, hTT, hX22⟩
    have hS22 : Below w20.heap.size w20 w22 := hS21.trans (hX22.mono hS21.size)
    refine hK _ _ hS22 ?_
    clear hK K
    try simp only [List.getElem_toArray, List.getElem_cons_succ, List.getElem_cons_zero, Act.put, List.setIfInBounds_toArray, List.set]
    refine wpAnyH_one 2 _ rfl (by kernel_rfl) (by rfl) (fun K hK => ?_)
    go_simp
    refine (fits_any (some ⟨gt, 0, none⟩) _ _ _ _ w22 (.inr ⟨gt, rfl, hTT.lt, hTT⟩) ((hA20.below hS22).mono hS22.size)).mono ?_
    rintro e w23 ⟨he, hX23⟩
    rw [F1.out] at he
    subst he
    have hS23 : Below w20.heap.size w20 w23 := hS22.trans (hX23.mono hS22.size)
    refine hK _ _ hS23 ?_
    clear hK K
    try simp only [List.getElem_toArray, List.getElem_cons_succ, List.getElem_cons_zero, Act.put, List.setIfInBounds_toArray, List.set]
    refine wpAnyH_take (i := 3) (v := .bool true) rfl (by kernel_rfl) (by kernel_rfl) (by kernel_rfl) (fun _ _ _ h => h) (Or.inl ⟨by rfl, ?_⟩) hS23 ?_
    · intro w _; go_simp
    try simp only [List.getElem_toArray, List.getElem_cons_succ, List.getElem_cons_zero, Act.put, List.setIfInBounds_toArray, List.set]
    refine wpAnyH_take (i := 4) (v := .slice p7 L c7) rfl (by kernel_rfl) (by kernel_rfl) (by kernel_rfl) (fun _ _ _ h => h) (Or.inl ⟨by rfl, ?_⟩) hS23 ?_
    · intro w _; go_simp
    try simp only [List.getElem_toArray, List.getElem_cons_succ, List.getElem_cons_zero, Act.put, List.setIfInBounds_toArray, List.set]
    refine wpAnyH_one 5 _ rfl (by kernel_rfl) (by rfl) (fun K hK => ?_)
    go_simp
    refine (fits_any none _ _ _ _ w23 (TabOk.nil _ _) ((hA20.below hS23).mono hS23.size)).mono ?_
    rintro e w24 ⟨he, hX24⟩
    rw [F1.out] at he
    subst he
    have hS24 : Below w20.heap.size w20 w24 := hS23.trans (hX24.mono hS23.size)
    refine hK _ _ hS24 ?_
    clear hK K
    try simp only [List.getElem_toArray, List.getElem_cons_succ, List.getElem_cons_zero, Act.put, List.setIfInBounds_toArray, List.set]
    refine wpAnyH_take (i := 6) (v := .bool true) rfl (by kernel_rfl) (by kernel_rfl) (by kernel_rfl) (fun _ _ _ h => h) (Or.inl ⟨by rfl, ?_⟩) hS24 ?_
    · intro w _; go_simp
    try simp only [List.getElem_toArray, List.getElem_cons_succ, List.getElem_cons_zero, Act.put, List.setIfInBounds_toArray, List.set]
    refine wpAnyH_take (i := 7) (v := .bool true) rfl (by kernel_rfl) (by kernel_rfl) (by kernel_rfl) (fun _ _ _ h => h) (Or.inl ⟨by rfl, ?_⟩) hS24 ?_
    · intro w _; go_simp
    try simp only [List.getElem_toArray, List.getElem_cons_succ, List.getElem_cons_zero, Act.put, List.setIfInBounds_toArray, List.set]
    refine wpAnyH_take (i := 8) (v := .slice p10 L c10) rfl (by kernel_rfl) (by kernel_rfl) (by kernel_rfl) (fun _ _ _ h => h) (Or.inl ⟨by rfl, ?_⟩) hS24 ?_
    · intro w _; go_simp
    try simp only [List.getElem_toArray, List.getElem_cons_succ, List.getElem_cons_zero, Act.put, List.setIfInBounds_toArray, List.set]
    refine wpAnyH_take (i := 10) (v := .agg (tl.map cu8).toArray) rfl (by kernel_rfl) (by kernel_rfl) (by kernel_rfl) (fun _ _ _ h => h) (Or.inl ⟨by rfl, fun w hw => exec_load _ _ 36 _ rfl g3 0 rfl _ (load4 (range_below hQ20 hh20l hw) htl.out)⟩) hS24 ?_
    try simp only [List.getElem_toArray, List.getElem_cons_succ, List.getElem_cons_zero, Act.put, List.setIfInBounds_toArray, List.set]
    refine wpAnyH_take (i := 11) (v := .agg ((le4 s).map cu8).toArray) rfl (by kernel_rfl) (by kernel_rfl) (by kernel_rfl) (fun _ _ _ h => h) (Or.inl ⟨by rfl, fun w hw => exec_load _ _ 36 _ rfl g4 0 rfl _ (load4 (range_below hR20 hg20l hw) rfl)⟩) hS24 ?_
    try simp only [List.getElem_toArray, List.getElem_cons_succ, List.getElem_cons_zero, Act.put, List.setIfInBounds_toArray, List.set]
    have e2 := E2.out
    refine wpAnyH_take (i := 12) (v := .bool q) rfl (by kernel_rfl) (by kernel_rfl) (by kernel_rfl) (fun _ _ _ h => h) (Or.inl ⟨by rfl, ?_⟩) hS24 ?_
    · intro w _; go_simp
    try simp only [List.getElem_toArray, List.getElem_cons_succ, List.getElem_cons_zero, Act.put, List.setIfInBounds_toArray, List.set]
    clear e2
    refine wpAnyH_one 9 _ rfl (by kernel_rfl) (by rfl) (fun K hK => ?_)
    go_simp
    refine (fits_any none _ _ _ _ w24 (TabOk.nil _ _) ((hO20.below hS24).mono hS24.size)).mono ?_
    rintro e w25 ⟨he, hX25⟩
    rw [F2.out] at he
    subst he
    have hS25 : Below w20.heap.size w20 w25 := hS24.trans (hX25.mono hS24.size)
    refine hK _ _ hS25 ?_
    clear hK K
    try simp only [List.getElem_toArray, List.getElem_cons_succ, List.getElem_cons_zero, Act.put, List.setIfInBounds_toArray, List.set]
    refine wpAnyH_take (i := 13) (v := .bool true) rfl (by kernel_rfl) (by kernel_rfl) (by kernel_rfl) (fun _ _ _ h => h) (Or.inl ⟨by rfl, ?_⟩) hS25 ?_
    · intro w _; go_simp
    try simp only [List.getElem_toArray, List.getElem_cons_succ, List.getElem_cons_zero, Act.put, List.setIfInBounds_toArray, List.set]
    refine wpAnyH_take (i := 14) (v := .bool true) rfl (by kernel_rfl) (by kernel_rfl) (by kernel_rfl) (fun _ _ _ h => h) (Or.inl ⟨by rfl, ?_⟩) hS25 ?_
    · intro w _; go_simp
    try simp only [List.getElem_toArray, List.getElem_cons_succ, List.getElem_cons_zero, Act.put, List.setIfInBounds_toArray, List.set]
    refine wpAnyH_take (i := 15) (v := .bool true) rfl (by kernel_rfl) (by kernel_rfl) (by kernel_rfl) (fun _ _ _ h => h) (Or.inl ⟨by rfl, ?_⟩) hS25 ?_
    · intro w _; go_simp
    try simp only [List.getElem_toArray, List.getElem_cons_succ, List.getElem_cons_zero, Act.put, List.setIfInBounds_toArray, List.set]
    refine wpAnyH_take (i := 16) (v := .bool false) rfl (by kernel_rfl) (by kernel_rfl) (by kernel_rfl) (fun _ _ _ h => h) (Or.inl ⟨by rfl, ?_⟩) hS25 ?_
    · intro w _; go_simp
    try simp only [List.getElem_toArray, List.getElem_cons_succ, List.getElem_cons_zero, Act.put, List.setIfInBounds_toArray, List.set]
    refine wpAnyH_take (i := 17) (v := .bool true) rfl (by kernel_rfl) (by kernel_rfl) (by kernel_rfl) (fun _ _ _ h => h) (Or.inl ⟨by rfl, ?_⟩) hS25 ?_
    · intro w _; go_simp
    try simp only [List.getElem_toArray, List.getElem_cons_succ, List.getElem_cons_zero, Act.put, List.setIfInBounds_toArray, List.set]
    refine wpAnyH_take (i := 18) (v := .bool true) rfl (by kernel_rfl) (by kernel_rfl) (by kernel_rfl) (fun _ _ _ h => h) (Or.inl ⟨by rfl, ?_⟩) hS25 ?_
    · intro w _; go_simp
    try simp only [List.getElem_toArray, List.getElem_cons_succ, List.getElem_cons_zero, Act.put, List.setIfInBounds_toArray, List.set]
    refine wpAnyH_take (i := 19) (v := .bool true) rfl (by kernel_rfl) (by kernel_rfl) (by kernel_rfl) (fun _ _ _ h => h) (Or.inl ⟨by rfl, ?_⟩) hS25 ?_
    · intro w _; go_simp
    try simp only [List.getElem_toArray, List.getElem_cons_succ, List.getElem_cons_zero, Act.put, List.setIfInBounds_toArray, List.set]
    refine wpAnyH_done (by kernel_rfl) ?_ _
    go_wp2
    go_ret
    exact ⟨rfl, hW20.trans (hS25.mono hW20.size)⟩
  · have hsh' : ¬ ((len : Int) < 4) := by omega
    go_wp2
    have hX20 : Below w10.heap.size w10 w10 := Below.refl _ _
    obtain ⟨w20, hw20⟩ : ∃ w20, w20 = w10 := ⟨_, rfl⟩
    have hX20 : Below w10.heap.size w10 w20 := by rw [hw20]; exact Below.refl _ _
    rw [← hw20]
    clear hw20
    have hR20 := range_below hR10 hg10l hX20
    have hQ20 := range_below hQ10 hh10l hX20
    have hA20 := (hA10.below hX20).mono hX20.size
    have hO20 := (hP10.below hX20).mono hX20.size
    have hg20l := Nat.lt_of_lt_of_le hg10l hX20.size
    have hh20l := Nat.lt_of_lt_of_le hh10l hX20.size
    have hW20 : Below w.heap.size w w20 := hW10.trans (hX20.mono hW10.size)
    clear hR10 hQ10 hA10 hP10 hend hX20
    refine wp_region_held (S := fun w' => Below w20.heap.size w20 w') (by kernel_rfl) ?_
    change wpAnyH _ _ _ _ _ _ _ _ (World.drew _)
    have hS21 : Below w20.heap.size w20 w20.drew := ⟨rfl, rfl, rfl, Nat.le_refl _, fun _ _ => rfl⟩
    generalize w20.drew = w21 at hS21 ⊢
    refine wpAnyH_take (i := 1) (v := .slice p7 L c7) rfl (by kernel_rfl) (by kernel_rfl) (by kernel_rfl) (fun _ _ _ h => h) (Or.inl ⟨by rfl, ?_⟩) hS21 ?_
    · intro w _; go_simp
    try simp only [List.getElem_toArray, List.getElem_cons_succ, List.getElem_cons_zero, Act.put, List.setIfInBounds_toArray, List.set]
    refine wpAnyH_one 0 _ rfl (by kernel_rfl) (by rfl) (fun K hK => ?_)
    go_simp
    refine (table_any w21).mono ?_
    rintro e w22 ⟨gt, rfl, hgt, hTT, hX22⟩
    have hS22 : Below w20.heap.size w20 w22 := hS21.trans (hX22.mono hS21.size)
    refine hK _ _ hS22 ?_
    clear hK K
    try simp only [List.getElem_toArray, List.getElem_cons_succ, List.getElem_cons_zero, Act.put, List.setIfInBounds_toArray, List.set]
    refine wpAnyH_one 2 _ rfl (by kernel_rfl) (by rfl) (fun K hK => ?_)
    go_simp
    refine (fits_any (some ⟨gt, 0, none⟩) _ _ _ _ w22 (.inr ⟨gt, rfl, hTT.lt, hTT⟩) ((hA20.below hS22).mono hS22.size)).mono ?_
    rintro e w23 ⟨he, hX23⟩
    rw [F1.out] at he
    subst he
    have hS23 : Below w20.heap.size w20 w23 := hS22.trans (hX23.mono hS22.size)
    refine hK _ _ hS23 ?_
    clear hK K
    try simp only [List.getElem_toArray, List.getElem_cons_succ, List.getElem_cons_zero, Act.put, List.setIfInBounds_toArray, List.set]
    refine wpAnyH_take (i := 3) (v := .bool true) rfl (by kernel_rfl) (by kernel_rfl) (by kernel_rfl) (fun _ _ _ h => h) (Or.inl ⟨by rfl, ?_⟩) hS23 ?_
    · intro w _; go_simp
    try simp only [List.getElem_toArray, List.getElem_cons_succ, List.getElem_cons_zero, Act.put, List.setIfInBounds_toArray, List.set]
    refine wpAnyH_take (i := 4) (v := .slice p7 L c7) rfl (by kernel_rfl) (by kernel_rfl) (by kernel_rfl) (fun _ _ _ h => h) (Or.inl ⟨by rfl, ?_⟩) hS23 ?_
    · intro w _; go_simp
    try simp only [List.getElem_toArray, List.getElem_cons_succ, List.getElem_cons_zero, Act.put, List.setIfInBounds_toArray, List.set]
    refine wpAnyH_one 5 _ rfl (by kernel_rfl) (by rfl) (fun K hK => ?_)
    go_simp
    refine (fits_any none _ _ _ _ w23 (TabOk.nil _ _) ((hA20.below hS23).mono hS23.size)).mono ?_
    rintro e w24 ⟨he, hX24⟩
    rw [F1.out] at he
    subst he
    have hS24 : Below w20.heap.size w20 w24 := hS23.trans (hX24.mono hS23.size)
    refine hK _ _ hS24 ?_
    clear hK K
    try simp only [List.getElem_toArray, List.getElem_cons_succ, List.getElem_cons_zero, Act.put, List.setIfInBounds_toArray, List.set]
    refine wpAnyH_take (i := 6) (v := .bool true) rfl (by kernel_rfl) (by kernel_rfl) (by kernel_rfl) (fun _ _ _ h => h) (Or.inl ⟨by rfl, ?_⟩) hS24 ?_
    · intro w _; go_simp
    try simp only [List.getElem_toArray, List.getElem_cons_succ, List.getElem_cons_zero, Act.put, List.setIfInBounds_toArray, List.set]
    refine wpAnyH_take (i := 7) (v := .bool true) rfl (by kernel_rfl) (by kernel_rfl) (by kernel_rfl) (fun _ _ _ h => h) (Or.inl ⟨by rfl, ?_⟩) hS24 ?_
    · intro w _; go_simp
    try simp only [List.getElem_toArray, List.getElem_cons_succ, List.getElem_cons_zero, Act.put, List.setIfInBounds_toArray, List.set]
    refine wpAnyH_take (i := 8) (v := .slice p10 L c10) rfl (by kernel_rfl) (by kernel_rfl) (by kernel_rfl) (fun _ _ _ h => h) (Or.inl ⟨by rfl, ?_⟩) hS24 ?_
    · intro w _; go_simp
    try simp only [List.getElem_toArray, List.getElem_cons_succ, List.getElem_cons_zero, Act.put, List.setIfInBounds_toArray, List.set]
    refine wpAnyH_take (i := 10) (v := .agg (tl.map cu8).toArray) rfl (by kernel_rfl) (by kernel_rfl) (by kernel_rfl) (fun _ _ _ h => h) (Or.inl ⟨by rfl, fun w hw => exec_load _ _ 36 _ rfl g3 0 rfl _ (load4 (range_below hQ20 hh20l hw) htl.out)⟩) hS24 ?_
    try simp only [List.getElem_toArray, List.getElem_cons_succ, List.getElem_cons_zero, Act.put, List.setIfInBounds_toArray, List.set]
    refine wpAnyH_take (i := 11) (v := .agg ((le4 s).map cu8).toArray) rfl (by kernel_rfl) (by kernel_rfl) (by kernel_rfl) (fun _ _ _ h => h) (Or.inl ⟨by rfl, fun w hw => exec_load _ _ 36 _ rfl g4 0 rfl _ (load4 (range_below hR20 hg20l hw) rfl)⟩) hS24 ?_
    try simp only [List.getElem_toArray, List.getElem_cons_succ, List.getElem_cons_zero, Act.put, List.setIfInBounds_toArray, List.set]
    have e2 := E2.out
    refine wpAnyH_take (i := 12) (v := .bool q) rfl (by kernel_rfl) (by kernel_rfl) (by kernel_rfl) (fun _ _ _ h => h) (Or.inl ⟨by rfl, ?_⟩) hS24 ?_
    · intro w _; go_simp
    try simp only [List.getElem_toArray, List.getElem_cons_succ, List.getElem_cons_zero, Act.put, List.setIfInBounds_toArray, List.set]
    clear e2
    refine wpAnyH_one 9 _ rfl (by kernel_rfl) (by rfl) (fun K hK => ?_)
    go_simp
    refine (fits_any none _ _ _ _ w24 (TabOk.nil _ _) ((hO20.below hS24).mono hS24.size)).mono ?_
    rintro e w25 ⟨he, hX25⟩
    rw [F2.out] at he
    subst he
    have hS25 : Below w20.heap.size w20 w25 := hS24.trans (hX25.mono hS24.size)
    refine hK _ _ hS25 ?_
    clear hK K
    try simp only [List.getElem_toArray, List.getElem_cons_succ, List.getElem_cons_zero, Act.put, List.setIfInBounds_toArray, List.set]
    refine wpAnyH_take (i := 13) (v := .bool true) rfl (by kernel_rfl) (by kernel_rfl) (by kernel_rfl) (fun _ _ _ h => h) (Or.inl ⟨by rfl, ?_⟩) hS25 ?_
    · intro w _; go_simp
    try simp only [List.getElem_toArray, List.getElem_cons_succ, List.getElem_cons_zero, Act.put, List.setIfInBounds_toArray, List.set]
    refine wpAnyH_take (i := 14) (v := .bool true) rfl (by kernel_rfl) (by kernel_rfl) (by kernel_rfl) (fun _ _ _ h => h) (Or.inl ⟨by rfl, ?_⟩) hS25 ?_
    · intro w _; go_simp
    try simp only [List.getElem_toArray, List.getElem_cons_succ, List.getElem_cons_zero, Act.put, List.setIfInBounds_toArray, List.set]
    refine wpAnyH_take (i := 15) (v := .bool true) rfl (by kernel_rfl) (by kernel_rfl) (by kernel_rfl) (fun _ _ _ h => h) (Or.inl ⟨by rfl, ?_⟩) hS25 ?_
    · intro w _; go_simp
    try simp only [List.getElem_toArray, List.getElem_cons_succ, List.getElem_cons_zero, Act.put, List.setIfInBounds_toArray, List.set]
    refine wpAnyH_take (i := 16) (v := .bool false) rfl (by kernel_rfl) (by kernel_rfl) (by kernel_rfl) (fun _ _ _ h => h) (Or.inl ⟨by rfl, ?_⟩) hS25 ?_
    · intro w _; go_simp
    try simp only [List.getElem_toArray, List.getElem_cons_succ, List.getElem_cons_zero, Act.put, List.setIfInBounds_toArray, List.set]
    refine wpAnyH_take (i := 17) (v := .bool true) rfl (by kernel_rfl) (by kernel_rfl) (by kernel_rfl) (fun _ _ _ h => h) (Or.inl ⟨by rfl, ?_⟩) hS25 ?_
    · intro w _; go_simp
    try simp only [List.getElem_toArray, List.getElem_cons_succ, List.getElem_cons_zero, Act.put, List.setIfInBounds_toArray, List.set]
    refine wpAnyH_take (i := 18) (v := .bool true) rfl (by kernel_rfl) (by kernel_rfl) (by kernel_rfl) (fun _ _ _ h => h) (Or.inl ⟨by rfl, ?_⟩) hS25 ?_
    · intro w _; go_simp
    try simp only [List.getElem_toArray, List.getElem_cons_succ, List.getElem_cons_zero, Act.put, List.setIfInBounds_toArray, List.set]
    refine wpAnyH_take (i := 19) (v := .bool true) rfl (by kernel_rfl) (by kernel_rfl) (by kernel_rfl) (fun _ _ _ h => h) (Or.inl ⟨by rfl, ?_⟩) hS25 ?_
    · intro w _; go_simp
    try simp only [List.getElem_toArray, List.getElem_cons_succ, List.getElem_cons_zero, Act.put, List.setIfInBounds_toArray, List.set]
    refine wpAnyH_done (by kernel_rfl) ?_ _
    go_wp2
    go_ret
    exact ⟨rfl, hW20.trans (hS25.mono hW20.size)⟩
end Go.Proofs.Ytmbhfmipmadjpaa
