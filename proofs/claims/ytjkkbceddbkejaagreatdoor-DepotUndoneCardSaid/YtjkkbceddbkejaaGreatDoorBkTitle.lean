/-
  Package pages: title, behind.
-/
import Derived.Test.YtjkkbceddbkejaaGreatDoorBkTold
set_option linter.unusedSimpArgs false
set_option linter.unusedVariables false
namespace Go.Proofs.YtjkkbceddbkejaaGreatDoor
open Go.RowKit Sh

theorem splice_pad (pre bs : List UInt8) (k : Nat) (h : bs.length ≤ k) : splice ((pre ++ List.replicate k 0).map cu8) pre.length (bs.map cu8) = ((pre ++ bs) ++ List.replicate (k - bs.length) 0).map cu8 := by
  rw [splice_mapB]
  unfold spliceB
  rw [List.take_left' rfl, ← List.drop_drop, List.drop_left' rfl, List.drop_replicate]
structure TtW (x r q : Nat) (m : Mk) (bs : List UInt8) (w wr : World) : Prop where
  box : wr.heap[x]? = some (.cells (markCells m).toArray 156 (0, 0))
  res : wr.heap[r]? = some (.cells zeros64 33 (0, 0))
  pg : wr.heap[q]? = some (.cells (bs.map cu8).toArray 33 (0, 0))
  bel : Below x w wr
theorem TtW.below {x r q : Nat} {m : Mk} {bs : List UInt8} {w wr w' : World} (h : TtW x r q m bs w wr) (hxq : x < r ∧ r < q) (hb : Below wr.heap.size wr w') : TtW x r q m bs w w' := by
  have hq := (Array.getElem?_eq_some_iff.1 h.pg).1
  exact ⟨(hb.block x (by omega)).trans h.box, (hb.block r (by omega)).trans h.res, (hb.block q hq).trans h.pg, h.bel.trans (hb.mono (by omega))⟩
theorem TtW.turn {x r q : Nat} {m : Mk} {bs bs' : List UInt8} {w wr w' : World} (h : TtW x r q m bs w wr) (hxq : x < r ∧ r < q) (hp : w'.heap[q]? = some (.cells (bs'.map cu8).toArray 33 (0, 0))) (hg : wr.grownBy w' (some q)) : TtW x r q m bs' w w' := by
  have hq := (Array.getElem?_eq_some_iff.1 h.pg).1
  exact ⟨(hg.block x (by omega) (by simp; omega)).trans h.box, (hg.block r (by omega) (by simp; omega)).trans h.res, hp, below_of_grown h.bel hg (by omega) (by omega)⟩
def TitleP (g : Nat) (m : Mk) (w : World) (e : Ending) (w' : World) : Prop := e = .returned (pageV (titleB g m)) ∧ Below w.heap.size w w'
set_option maxRecDepth 100000 in
set_option maxHeartbeats 8000000 in
/-- title. -/
theorem title_any (g : Nat) (m : Mk) (hl : m.last.length = 32) (hpl : m.place < 65536) (w : World) : Calls Tryz.prog 113 #[.int .u64 g, .agg (markCells m).toArray] w (TitleP g m w) := by
  obtain ⟨mv, Hmv⟩ : ∃ mv : List Value, Hid (mv = markCells m) := ⟨_, rfl⟩
  rw [← Hmv.out]
  have hb3 : Below w.heap.size w (((w.alloc (.cells mv.toArray 156)).alloc (.cells zeros64 33)).alloc (.cells zeros64 33)) := (((Below.refl _ _).alloc (Nat.le_refl _) _).alloc (by simp) _).alloc (by simp; omega) _
  have hx3 : (((w.alloc (.cells mv.toArray 156)).alloc (.cells zeros64 33)).alloc (.cells zeros64 33)).heap[w.heap.size]? = some (.cells mv.toArray 156 (0, 0)) := by
    rw [Below.heap_alloc _ _ _ (by simp; omega), Below.heap_alloc _ _ _ (by simp)]; exact heap_alloc_new _ _
  have hr3 : (((w.alloc (.cells mv.toArray 156)).alloc (.cells zeros64 33)).alloc (.cells zeros64 33)).heap[w.heap.size + 1]? = some (.cells zeros64 33 (0, 0)) := by
    rw [Below.heap_alloc _ _ _ (by simp)]
    have := heap_alloc_new (w.alloc (.cells mv.toArray 156)) (.cells zeros64 33)
    simpa using this
  have hq3 : (((w.alloc (.cells mv.toArray 156)).alloc (.cells zeros64 33)).alloc (.cells zeros64 33)).heap[w.heap.size + 2]? = some (.cells zeros64 33 (0, 0)) := by
    have := heap_alloc_new ((w.alloc (.cells mv.toArray 156)).alloc (.cells zeros64 33)) (.cells zeros64 33)
    simpa using this
  go_enter Tryz.func113, Tryz.ntmps113
  go_upto_region 2 with (first
    | (refine wpList_alloc_arr rfl 33 rfl _ alloc64 ?_))
  try simp only [World.size_alloc]
  generalize ((w.alloc (.cells mv.toArray 156)).alloc (.cells zeros64 33)).alloc (.cells zeros64 33) = wa at hb3 hx3 hr3 hq3 ⊢
  have nrm : w.heap.size + 1 + 1 = w.heap.size + 2 := rfl
  try rw [nrm]
  obtain ⟨q, hq⟩ : ∃ q, w.heap.size + 2 = q := ⟨_, rfl⟩
  obtain ⟨r, hr⟩ : ∃ r, w.heap.size + 1 = r := ⟨_, rfl⟩
  obtain ⟨x, hx⟩ : ∃ x, w.heap.size = x := ⟨_, rfl⟩
  rw [hq] at hq3 ⊢
  rw [hr] at hr3 ⊢
  rw [hx] at hx3 hb3 ⊢
  have hxq : x < r ∧ r < q := by omega
  have Hx := Lib.hid hx
  clear hq hr hx nrm
  rw [Hmv.out] at hx3
  have hz : zeros64 = ((List.replicate 64 (0 : UInt8)).map cu8).toArray := by rw [List.map_replicate]; rfl
  have hW0 : TtW x r q m (List.replicate 64 0) w wa := ⟨hx3, hr3, by rw [← hz]; exact hq3, hb3⟩
  clear hb3 hx3 hr3 hq3 hz
  -- the sign
  have c0 : wa.cell? ⟨q, 0, none⟩ = some (.int .u8 0) := by rw [cell_of_row wa q 0 _ _ _ hW0.pg]; rfl
  have f0 := thawed_row hW0.pg 0
  have h1 := setCell_row hW0.pg 0 (cu8 66)
  have e1 : ((List.replicate 64 (0 : UInt8)).map cu8).set 0 (cu8 66) = (([66] : List UInt8) ++ List.replicate 63 0).map cu8 := by simp [List.replicate]
  rw [e1] at h1
  have hW1 : TtW x r q m ([66] ++ List.replicate 63 0) w (wa.setCell ⟨q, 0, none⟩ (cu8 66)) := hW0.turn hxq h1 (grown_setCell _ _ _)
  have Hput1 := Lib.hid (bput_any (w := wa.setCell ⟨q, 0, none⟩ (cu8 66)) (g := q) (o := 1) (n := 8) (cap := 63) (x := g) hW1.pg (by simp) (by omega))
  clear h1 e1
  go_upto_region 4 with (first
    | (go_at_call 130; refine Hput1.out.mono ?_; rintro e w2 ⟨rfl, hp2, hg2⟩))
  have e2 := splice_pad [66] (leN 8 g) 63 (by rw [leN_length]; omega)
  rw [show ([66] : List UInt8).length = 1 from rfl, leN_length] at e2
  rw [e2] at hp2
  have hW2 := hW1.turn hxq hp2 hg2
  clear Hput1 hW1 hW0 hp2 hg2 e2 c0 f0
  -- the number
  have cN : ∀ W, TtW x r q m (([66] ++ leN 8 g) ++ List.replicate (63 - 8) 0) w W → W.cell? ⟨x, 1, none⟩ = some (.int .u64 m.num) := fun W h => by rw [cell_of_row W x 1 _ _ _ h.box]; rfl
  have hbd : Below w2.heap.size w2 { w2 with drawn := w2.drawn + 1 } := ⟨rfl, rfl, rfl, Nat.le_refl _, fun _ _ => rfl⟩
  obtain ⟨wd, hdr⟩ : ∃ wd : World, ({ w2 with drawn := w2.drawn + 1 } : World) = wd := ⟨_, rfl⟩
  refine wp_region_up 3 (fun v => v = wd) (by kernel_rfl) ?_
  rw [hdr] at hbd ⊢
  have hW3 := hW2.below hxq hbd
  have c1 := cN _ hW3
  have Hput := Lib.hid (bput_any (w := wd) (g := q) (o := 9) (n := 8) (cap := 55) (x := m.num) hW3.pg (by simp [leN_length]) (by omega))
  have hS : wd = wd := rfl
  clear hdr hbd hW2 cN
  refine up_take (i := 0) (v := .slice (some ⟨q, 9, none⟩) 8 55) rfl (by kernel_rfl) (by kernel_rfl) (fun _ _ _ h => h) (Or.inl ⟨by rfl, ?_⟩) hS ?_
  · intro w' _; go_simp
  try simp only [List.getElem_toArray, List.getElem_cons_succ, List.getElem_cons_zero, Act.put, List.setIfInBounds_toArray, List.set]
  refine up_take (i := 1) (v := .pointer (some ⟨x, 1, none⟩)) rfl (by kernel_rfl) (by kernel_rfl) (fun _ _ _ h => h) (Or.inl ⟨by rfl, ?_⟩) hS ?_
  · intro w' _; go_simp
  try simp only [List.getElem_toArray, List.getElem_cons_succ, List.getElem_cons_zero, Act.put, List.setIfInBounds_toArray, List.set]
  refine up_take (i := 2) (v := .int .u64 m.num) rfl (by kernel_rfl) (by kernel_rfl) (fun _ _ _ h => h) (Or.inl ⟨by rfl, ?_⟩) hS ?_
  · intro w' hS'
    subst hS'
    go_simp
  try simp only [List.getElem_toArray, List.getElem_cons_succ, List.getElem_cons_zero, Act.put, List.setIfInBounds_toArray, List.set]
  refine up_tail ?_
  refine up_last 3 _ rfl (by kernel_rfl) (by decide) (by rfl) (fun K hK => ?_)
  go_simp
  refine Hput.out.mono ?_
  rintro e w4 ⟨rfl, hp4, hg4⟩
  refine hK _ _ ?_
  clear hK K
  try simp only [List.getElem_toArray, List.getElem_cons_succ, List.getElem_cons_zero, Act.put, List.setIfInBounds_toArray, List.set]
  refine up_done (by kernel_rfl) ?_ _
  have e4 := splice_pad ([66] ++ leN 8 g) (leN 8 m.num) (63 - 8) (by rw [leN_length]; omega)
  rw [show ([66] ++ leN 8 g : List UInt8).length = 9 from by simp [leN_length], leN_length] at e4
  rw [e4] at hp4
  have hW4 := hW3.turn hxq hp4 hg4
  clear Hput hW3 hp4 hg4 e4 c1 hS
  -- the place
  go_upto_region 5 with (fail)
  have hbd : Below w4.heap.size w4 { w4 with drawn := w4.drawn + 1 } := ⟨rfl, rfl, rfl, Nat.le_refl _, fun _ _ => rfl⟩
  obtain ⟨wd, hdr⟩ : ∃ wd : World, ({ w4 with drawn := w4.drawn + 1 } : World) = wd := ⟨_, rfl⟩
  refine wp_region_up 4 (fun v => v = wd) (by kernel_rfl) ?_
  rw [hdr] at hbd ⊢
  have hW5 := hW4.below hxq hbd
  have c1 : wd.cell? ⟨x, 0, none⟩ = some (.int .i64 m.place) := by rw [cell_of_row wd x 0 _ _ _ hW5.box]; rfl
  have wPl : IntKind.u64.wrap (m.place : Int) = (m.place : Int) := by rw [IntKind.wrap_u64]; omega
  have Hput := Lib.hid (bput_any (w := wd) (g := q) (o := 17) (n := 2) (cap := 47) (x := m.place) hW5.pg (by simp [leN_length]) (by omega))
  have hS : wd = wd := rfl
  clear hdr hbd hW4
  refine up_take (i := 0) (v := .slice (some ⟨q, 17, none⟩) 2 47) rfl (by kernel_rfl) (by kernel_rfl) (fun _ _ _ h => h) (Or.inl ⟨by rfl, ?_⟩) hS ?_
  · intro w' _; go_simp
  try simp only [List.getElem_toArray, List.getElem_cons_succ, List.getElem_cons_zero, Act.put, List.setIfInBounds_toArray, List.set]
  refine up_take (i := 1) (v := .pointer (some ⟨x, 0, none⟩)) rfl (by kernel_rfl) (by kernel_rfl) (fun _ _ _ h => h) (Or.inl ⟨by rfl, ?_⟩) hS ?_
  · intro w' _; go_simp
  try simp only [List.getElem_toArray, List.getElem_cons_succ, List.getElem_cons_zero, Act.put, List.setIfInBounds_toArray, List.set]
  refine up_take (i := 2) (v := .int .i64 m.place) rfl (by kernel_rfl) (by kernel_rfl) (fun _ _ _ h => h) (Or.inl ⟨by rfl, ?_⟩) hS ?_
  · intro w' hS'
    subst hS'
    go_simp
  try simp only [List.getElem_toArray, List.getElem_cons_succ, List.getElem_cons_zero, Act.put, List.setIfInBounds_toArray, List.set]
  refine up_take (i := 3) (v := .int .u64 m.place) rfl (by kernel_rfl) (by kernel_rfl) (fun _ _ _ h => h) (Or.inl ⟨by rfl, ?_⟩) hS ?_
  · intro w' _; go_simp
  try simp only [List.getElem_toArray, List.getElem_cons_succ, List.getElem_cons_zero, Act.put, List.setIfInBounds_toArray, List.set]
  refine up_tail ?_
  refine up_last 4 _ rfl (by kernel_rfl) (by decide) (by rfl) (fun K hK => ?_)
  go_simp
  refine Hput.out.mono ?_
  rintro e w6 ⟨rfl, hp6, hg6⟩
  refine hK _ _ ?_
  clear hK K
  try simp only [List.getElem_toArray, List.getElem_cons_succ, List.getElem_cons_zero, Act.put, List.setIfInBounds_toArray, List.set]
  refine up_done (by kernel_rfl) ?_ _
  have e6 := splice_pad ([66] ++ leN 8 g ++ leN 8 m.num) (leN 2 m.place) (63 - 8 - 8) (by rw [leN_length]; omega)
  rw [show ([66] ++ leN 8 g ++ leN 8 m.num : List UInt8).length = 17 from by simp [leN_length], leN_length] at e6
  rw [e6] at hp6
  have hW6 := hW5.turn hxq hp6 hg6
  clear Hput hW5 hp6 hg6 e6 c1 hS wPl
  -- the Last
  go_upto_region 6 with (fail)
  have hbd : Below w6.heap.size w6 { w6 with drawn := w6.drawn + 1 } := ⟨rfl, rfl, rfl, Nat.le_refl _, fun _ _ => rfl⟩
  obtain ⟨wd, hdr⟩ : ∃ wd : World, ({ w6 with drawn := w6.drawn + 1 } : World) = wd := ⟨_, rfl⟩
  refine wp_region_up 3 (fun v => v = wd) (by kernel_rfl) ?_
  rw [hdr] at hbd ⊢
  have hW7 := hW6.below hxq hbd
  have hsrc : ∀ (j : Nat) (v : Value), (m.last.map cu8)[j]? = some v → wd.cell? ((⟨x, 2, none⟩ : Addr).add j) = some v := fun j v hj => by
    have : (⟨x, 2, none⟩ : Addr).add j = ⟨x, 2 + j, none⟩ := by unfold Addr.add; split <;> simp_all
    rw [this]; exact mark_range hW7.box j v hj
  have hS : wd = wd := rfl
  clear hdr hbd hW6
  refine up_take (i := 0) (v := .slice (some ⟨q, 19, none⟩) 32 45) rfl (by kernel_rfl) (by kernel_rfl) (fun _ _ _ h => h) (Or.inl ⟨by rfl, ?_⟩) hS ?_
  · intro w' _; go_simp
  try simp only [List.getElem_toArray, List.getElem_cons_succ, List.getElem_cons_zero, Act.put, List.setIfInBounds_toArray, List.set]
  refine up_take (i := 1) (v := .pointer (some ⟨x, 2, none⟩)) rfl (by kernel_rfl) (by kernel_rfl) (fun _ _ _ h => h) (Or.inl ⟨by rfl, ?_⟩) hS ?_
  · intro w' _; go_simp
  try simp only [List.getElem_toArray, List.getElem_cons_succ, List.getElem_cons_zero, Act.put, List.setIfInBounds_toArray, List.set]
  refine up_take (i := 2) (v := .slice (some ⟨x, 2, none⟩) 32 32) rfl (by kernel_rfl) (by kernel_rfl) (fun _ _ _ h => h) (Or.inl ⟨by rfl, ?_⟩) hS ?_
  · intro w' _; go_simp
  try simp only [List.getElem_toArray, List.getElem_cons_succ, List.getElem_cons_zero, Act.put, List.setIfInBounds_toArray, List.set]
  refine up_tail ?_
  refine up_last 3 _ rfl (by kernel_rfl) (by decide) (by rfl) (fun K hK => ?_)
  refine wp_copy_into rfl _ _ 169 169 rfl 5 Tryz.underlying169 (by kernel_rfl) q 19 32 45 ⟨x, 2, none⟩ 32 32 rfl rfl _ 33 hW7.pg (m.last.map cu8) (by rw [List.length_map, hl]; rfl) hsrc (by simp [leN_length, hl]) (fun v hv => by obtain ⟨z, _, rfl⟩ := List.mem_map.1 hv; rfl) ?_
  intro w8 Hs8 Hg8
  refine hK _ _ ?_
  clear hK K
  try simp only [List.getElem_toArray, List.getElem_cons_succ, List.getElem_cons_zero, Act.put, List.setIfInBounds_toArray, List.set]
  refine up_done (by kernel_rfl) ?_ _
  have e8 := splice_pad ([66] ++ leN 8 g ++ leN 8 m.num ++ leN 2 m.place) m.last (63 - 8 - 8 - 2) (by rw [hl]; omega)
  rw [show ([66] ++ leN 8 g ++ leN 8 m.num ++ leN 2 m.place : List UInt8).length = 19 from by simp [leN_length], hl] at e8
  have hp8 := Hs8.out
  rw [e8] at hp8
  have ehd : ([66] ++ leN 8 g ++ leN 8 m.num ++ leN 2 m.place ++ m.last : List UInt8) = titleHead g m := by simp [titleHead]
  rw [ehd, show 63 - 8 - 8 - 2 - 32 = 13 from rfl] at hp8
  have hW8 := hW7.turn hxq hp8 Hg8.out
  clear hW7 hp8 Hs8 Hg8 e8 ehd hS hsrc
  -- its digest
  have hhl := titleHead_len (g := g) hl
  have hB : Bytes w8.heap.size w8 (some ⟨q, 0, none⟩) 51 64 (titleHead g m) := ⟨hhl, by omega, by unfold maxLen; omega, .inr ⟨q, 0, rfl, (Array.getElem?_eq_some_iff.1 hW8.pg).1, fun j hj => by
    rw [Nat.zero_add, cell_of_row w8 q j _ _ _ hW8.pg, List.getElem?_toArray, List.getElem?_map, List.getElem?_append_left (by omega), List.getElem?_eq_getElem (by omega)]
    simp [at8, hhl, hj]⟩⟩
  have Hsum := Lib.hid (whole_any (some ⟨q, 0, none⟩) 51 64 (titleHead g m) w8 hB (by omega))
  clear hB
  go_wp2_with (first
    | (go_at_call 131; refine Hsum.out.mono ?_))
  rintro e w9 ⟨rv, Hrv, rfl, hb9⟩
  have hW9 := hW8.below hxq hb9
  have hdi := Lib.hid (show (Tryz.prog.info? 56).map (·.size) = some rv.size by rw [(dig_size Hrv).out]; kernel_rfl)
  have hdz : Hid (z32.toArray.size = rv.size) := by rw [(dig_size Hrv).out]; exact (rfl : z32.toArray.size = 32)
  clear Hsum hW8 hb9
  go_upto_region 8 with (first
    | (refine wpList_alloc_arr rfl 56 rfl _ alloc32 ?_)
    | (refine wpList_store_new rfl 56 _ _ rfl w9.heap.size rfl rv rfl rfl 56 _ hdi.out hdz.out (dig_one Hrv).out ?_))
  have hbA : Below w9.heap.size w9 (w9.alloc (.cells rv 56)) := (Below.refl _ _).alloc (Nat.le_refl _) _
  have hyA : (w9.alloc (.cells rv 56)).heap[w9.heap.size]? = some (.cells rv 56 (0, 0)) := heap_alloc_new w9 _
  have hWA := hW9.below hxq hbA
  generalize w9.alloc (.cells rv 56) = wA at hWA hyA ⊢
  rw [Hrv.out] at hyA
  obtain ⟨u, hu⟩ : ∃ u, w9.heap.size = u := ⟨_, rfl⟩
  rw [hu] at hyA ⊢
  clear hu hbA hW9 hdi hdz Hrv
  have hbd : Below wA.heap.size wA { wA with drawn := wA.drawn + 1 } := ⟨rfl, rfl, rfl, Nat.le_refl _, fun _ _ => rfl⟩
  obtain ⟨wd, hdr⟩ : ∃ wd : World, ({ wA with drawn := wA.drawn + 1 } : World) = wd := ⟨_, rfl⟩
  refine wp_region_up 2 (fun v => v = wd) (by kernel_rfl) ?_
  rw [hdr] at hbd ⊢
  have hWB := hWA.below hxq hbd
  have hyB := (hbd.block u (Array.getElem?_eq_some_iff.1 hyA).1).trans hyA
  have hsl51 := fun W => run_sliceArr (P := Tryz.prog) 33 5 64 Tryz.underlying33 (by kernel_rfl) q 0 51 64 (by omega) (by omega) (by omega) W
  have hsrc : ∀ (j : Nat) (v : Value), (((dig (titleHead g m)).take 13).map cu8)[j]? = some v → wd.cell? ((⟨u, 0, none⟩ : Addr).add j) = some v := fun j v hj => by
    refine byte_range hyB j v ?_
    have hj13 : j < 13 := by
      rcases Nat.lt_or_ge j 13 with h7 | h7
      · exact h7
      · rw [List.getElem?_eq_none (by simp; omega)] at hj; simp at hj
    rw [List.getElem?_map] at hj ⊢
    rw [List.getElem?_take_of_lt hj13] at hj
    exact hj
  have hd13 : (((dig (titleHead g m)).take 13).map cu8).length = 13 := by simp [dig_len]
  have hS : wd = wd := rfl
  clear hdr hbd hWA hyA
  refine up_take (i := 0) (v := .slice (some ⟨q, 51, none⟩) 13 13) rfl (by kernel_rfl) (by kernel_rfl) (fun _ _ _ h => h) (Or.inl ⟨by rfl, ?_⟩) hS ?_
  · intro w' _; go_simp
  try simp only [List.getElem_toArray, List.getElem_cons_succ, List.getElem_cons_zero, Act.put, List.setIfInBounds_toArray, List.set]
  refine up_take (i := 1) (v := .slice (some ⟨u, 0, none⟩) 32 32) rfl (by kernel_rfl) (by kernel_rfl) (fun _ _ _ h => h) (Or.inl ⟨by rfl, ?_⟩) hS ?_
  · intro w' _; go_simp
  try simp only [List.getElem_toArray, List.getElem_cons_succ, List.getElem_cons_zero, Act.put, List.setIfInBounds_toArray, List.set]
  refine up_tail ?_
  refine up_last 2 _ rfl (by kernel_rfl) (by decide) (by rfl) (fun K hK => ?_)
  refine wp_copy_into rfl _ _ 169 169 rfl 5 Tryz.underlying169 (by kernel_rfl) q 51 13 13 ⟨u, 0, none⟩ 32 32 rfl rfl _ 33 hWB.pg (((dig (titleHead g m)).take 13).map cu8) (by rw [hd13]; rfl) hsrc (by rw [hd13]; simp [hhl]) (fun v hv => by obtain ⟨z, _, rfl⟩ := List.mem_map.1 hv; rfl) ?_
  intro wC HsC HgC
  refine hK _ _ ?_
  clear hK K
  try simp only [List.getElem_toArray, List.getElem_cons_succ, List.getElem_cons_zero, Act.put, List.setIfInBounds_toArray, List.set]
  refine up_done (by kernel_rfl) ?_ _
  have eC := splice_pad (titleHead g m) ((dig (titleHead g m)).take 13) 13 (by rw [List.length_take]; omega)
  rw [hhl] at eC
  have hpC := HsC.out
  have l13 : ((dig (titleHead g m)).take 13).length = 13 := by rw [List.length_take, dig_len]; rfl
  rw [eC, l13, Nat.sub_self, List.replicate_zero, List.append_nil] at hpC
  have hWC := hWB.turn hxq hpC HgC.out
  clear hWB hpC HsC HgC eC hS hsrc hd13 hsl51 hyB
  have HpC := Lib.hid hWC.pg; have HrC := Lib.hid hWC.res; have HbC := Lib.hid hWC.bel
  have htl := titleB_len (g := g) hl
  obtain ⟨tv, Htv⟩ : ∃ tv : List Value, Hid (tv = (titleB g m).map cu8) := ⟨_, rfl⟩
  have htvl : tv.length = 64 := by rw [Htv.out, List.length_map, htl]
  have hti : Hid ((Tryz.prog.info? 33).map (·.size) = some tv.toArray.size) := by rw [List.size_toArray, htvl]; exact info64
  have htz : Hid (zeros64.size = tv.toArray.size) := by
    have e : tv.toArray.size = 64 := by rw [List.size_toArray, htvl]
    rw [e]; exact (rfl : zeros64.size = 64)
  have ht1 : Hid (tv.toArray.all (·.oneCell') = true) := by rw [Htv.out]; exact bytes_one _
  have HpD : Hid (wC.heap[q]? = some (.cells tv.toArray 33 (0, 0))) := by rw [Htv.out]; exact HpC.out
  clear hWC HpC
  go_wp2_with (first
    | (refine wpList_load_row rfl 33 _ rfl q rfl 33 tv.toArray (0, 0) _ HpD.out Tryz.underlying33 rfl hti.out ?_)
    | (refine wpList_store_row rfl 33 _ _ rfl r tv.toArray rfl rfl 33 zeros64 HrC.out hti.out htz.out ht1.out ?_))
  refine bodyPost_ret (v := .agg tv.toArray) ?_ rfl ⟨by rw [Htv.out]; rfl, by rw [Hx.out]; exact below_setRow HbC.out (by omega) _⟩
  exact results_cell_row (ty := 33) rfl _ _ r 33 _ (0, 0) _ rfl (setRow_heap _ _ _ _ _ _ HrC.out) Tryz.underlying33 rfl hti.out
end Go.Proofs.YtjkkbceddbkejaaGreatDoor
