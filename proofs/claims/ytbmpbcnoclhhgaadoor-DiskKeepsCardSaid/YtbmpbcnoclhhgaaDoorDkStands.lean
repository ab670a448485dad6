/-
  The laws' own: stands.
-/
import Derived.Test.YtbmpbcnoclhhgaaDoorDkPage
namespace Go.Proofs.YtbmpbcnoclhhgaaDoor
open Go.RowKit Sh Go.Extern.Stop Go.Stop Go.Extern

set_option maxRecDepth 100000 in
set_option maxHeartbeats 4000000 in
theorem stands_any (w : World) : Calls Tryd.prog 9 #[] w fun e w' => e = .returned (.bool true) ∧ Below w.heap.size w w' := by
  obtain ⟨p1, H1⟩ : ∃ p, Hid (p = page1 1) := ⟨_, rfl⟩
  obtain ⟨p2, H2⟩ : ∃ p, Hid (p = page1 2) := ⟨_, rfl⟩
  obtain ⟨p3, H3⟩ : ∃ p, Hid (p = page1 3) := ⟨_, rfl⟩
  have b1 : BP p1 := by rw [H1.out]; exact page1_bytes 1
  have b2 : BP p2 := by rw [H2.out]; exact page1_bytes 2
  have b3 : BP p3 := by rw [H3.out]; exact page1_bytes 3
  have hq1 : ∀ W : World, (binOp .eql 42 (.agg p1.toArray) (.agg p1.toArray)).run Tryd.prog W = .ok (.bool true) W := b1.eql
  have hq3 : ∀ W : World, (binOp .eql 42 (.agg p3.toArray) (.agg p3.toArray)).run Tryd.prog W = .ok (.bool true) W := b3.eql
  have hi1 : ∀ W : World, (Op.equalIn 10000 42 (.agg p1.toArray) (.agg p1.toArray)).run Tryd.prog W = .ok true W := b1.same
  have hi3 : ∀ W : World, (Op.equalIn 10000 42 (.agg p3.toArray) (.agg p3.toArray)).run Tryd.prog W = .ok true W := b3.same
  go_enter Tryd.func9, Tryd.ntmps9
  go_wp2_with (go_at_call 10; refine (pd_new 5 (by omega) (by omega) _).mono ?_)
  rintro e w1 ⟨v, rfl, hN⟩
  obtain ⟨g, F1, rfl, hP1, hF1, hb1⟩ := hN.next (Nat.le_refl _) (Below.refl _ _)
  clear hN
  have s1 := hb1.size
  go_wp2_with (first
    | (refine wpList_build_to rfl 42 _ rfl p1.toArray (by rw [H1.out]; kernel_rfl) ?_)
    | (go_at_call 19; refine (pd_write hP1 (good_new 5 (by omega) (by omega)) (by simp [newS]) 3 p1 b1.page).mono ?_))
  rintro e w2 ⟨v, rfl, hT⟩
  obtain ⟨F2, hE, hP2, hF2, hb2⟩ := hT.next s1 hF1 hb1
  obtain rfl := ErrV.zero hE
  have e2 : (writeOf (newS 5) 3 p1).1 = ⟨[zeroPage, zeroPage, zeroPage, zeroPage, zeroPage], [3], [p1], -1, false⟩ := rfl
  rw [e2] at hP2
  have g2 : Good ⟨[zeroPage, zeroPage, zeroPage, zeroPage, zeroPage], [3], [p1], -1, false⟩ := e2 ▸ good_write (good_new 5 (by omega) (by omega)) 3 p1
  clear hT hE hP1 hF1 hb1 s1 e2
  have s2 := hb2.size
  go_wp2_with (first
    | (go_at_call 20; refine (pd_flush hP2 g2 (by simp)).mono ?_))
  rintro e w3 ⟨v, rfl, hT⟩
  obtain ⟨F3, hE, hP3, hF3, hb3⟩ := hT.next s2 hF2 hb2
  obtain rfl := ErrV.zero hE
  have e3 : (flushOf ⟨[zeroPage, zeroPage, zeroPage, zeroPage, zeroPage], [3], [p1], -1, false⟩).1 = ⟨[zeroPage, zeroPage, zeroPage, p1, zeroPage], [], [], -1, false⟩ := rfl
  rw [e3] at hP3
  have g3 : Good ⟨[zeroPage, zeroPage, zeroPage, p1, zeroPage], [], [], -1, false⟩ := e3 ▸ good_flush g2
  clear hT hE hP2 hF2 hb2 s2 e3 g2
  have s3 := hb3.size
  go_wp2_with (first
    | (refine wpList_build_to rfl 42 _ rfl p2.toArray (by rw [H2.out]; kernel_rfl) ?_)
    | (go_at_call 19; refine (pd_write hP3 g3 (by simp) 3 p2 b2.page).mono ?_))
  rintro e w4 ⟨v, rfl, hT⟩
  obtain ⟨F4, hE, hP4, hF4, hb4⟩ := hT.next s3 hF3 hb3
  obtain rfl := ErrV.zero hE
  have e4 : (writeOf ⟨[zeroPage, zeroPage, zeroPage, p1, zeroPage], [], [], -1, false⟩ 3 p2).1 = ⟨[zeroPage, zeroPage, zeroPage, p1, zeroPage], [3], [p2], -1, false⟩ := rfl
  rw [e4] at hP4
  have g4 : Good ⟨[zeroPage, zeroPage, zeroPage, p1, zeroPage], [3], [p2], -1, false⟩ := e4 ▸ good_write g3 3 p2
  clear hT hE hP3 hF3 hb3 s3 e4 g3
  have s4 := hb4.size
  go_wp2_with (first
    | (refine wpList_build_to rfl 42 _ rfl p3.toArray (by rw [H3.out]; kernel_rfl) ?_)
    | (go_at_call 19; refine (pd_write hP4 g4 (by simp) 4 p3 b3.page).mono ?_))
  rintro e w5 ⟨v, rfl, hT⟩
  obtain ⟨F5, hE, hP5, hF5, hb5⟩ := hT.next s4 hF4 hb4
  obtain rfl := ErrV.zero hE
  have e5 : (writeOf ⟨[zeroPage, zeroPage, zeroPage, p1, zeroPage], [3], [p2], -1, false⟩ 4 p3).1 = ⟨[zeroPage, zeroPage, zeroPage, p1, zeroPage], [3, 4], [p2, p3], -1, false⟩ := rfl
  rw [e5] at hP5
  have g5 : Good ⟨[zeroPage, zeroPage, zeroPage, p1, zeroPage], [3, 4], [p2, p3], -1, false⟩ := e5 ▸ good_write g4 4 p3
  clear hT hE hP4 hF4 hb4 s4 e5 g4
  have s5 := hb5.size
  have hk5 := (Below.refl w5.heap.size w5).alloc (Nat.le_refl _) (.cells #[.int .i64 1] 3)
  have hnum : Nums (w5.alloc (.cells #[.int .i64 1] 3)).heap.size (w5.alloc (.cells #[.int .i64 1] 3)) (some ⟨w5.heap.size, 0, none⟩) [1] :=
    .inr ⟨_, _, rfl, by simp, fun j v hj => by
      cases j with
      | zero => obtain rfl : 1 = v := by simpa using hj
                rw [cell_of_row _ w5.heap.size _ _ _ _ (heap_alloc_new w5 _)]; rfl
      | succ j => simp at hj⟩
  have hP5' := hP5.below hk5
  have hb5' := hb5.alloc s5 (.cells #[.int .i64 1] 3)
  go_wp2_with (first
    | (go_at_call 21; refine (pd_crash hP5' g5 (by simp) _ 1 [1] hnum (by simp)).mono ?_))
  rintro e w6 ⟨v, rfl, hN⟩
  have hS5 : PD ⟨[zeroPage, zeroPage, zeroPage, p1, zeroPage], [3, 4], [p2, p3], -1, false⟩ F5 g w6 := by
    obtain ⟨_, _, _, _, hbb, _⟩ := hN
    exact hP5'.below hbb
  obtain ⟨g6, F6, rfl, hP6, hF6, hb6⟩ := hN.next (by have := hk5.size; omega) hb5'
  have e6 : crashOf ⟨[zeroPage, zeroPage, zeroPage, p1, zeroPage], [3, 4], [p2, p3], -1, false⟩ [1] = ⟨[zeroPage, zeroPage, zeroPage, p1, p3], [], [], -1, false⟩ := rfl
  rw [e6] at hP6
  clear hN e6 hP5 hP5' hnum hk5 hb5 hb5' g5 s5 hF5 hF6
  have s6 := hb6.size
  have r3 : readOf ⟨[zeroPage, zeroPage, zeroPage, p1, p3], [], [], -1, false⟩ 3 = (p1, 0) := rfl
  have r4 : readOf ⟨[zeroPage, zeroPage, zeroPage, p1, p3], [], [], -1, false⟩ 4 = (p3, 0) := rfl
  have hR3 := pd_read hP6 3
  rw [r3] at hR3
  have hz1 : Hid ((Tryd.prog.info? 42).map (·.size) = some p1.toArray.size) := page_size b1.page
  have hz2 : Hid (p1.toArray.all (·.oneCell') = true) := page_all b1.page
  have hz3 : Hid (zeros64.size = p1.toArray.size) := by
    have : p1.toArray.size = 64 := by rw [List.size_toArray]; exact b1.page.1
    rw [this]; exact (rfl : zeros64.size = 64)
  go_wp2_with (first
    | (go_at_call 17; refine hR3.mono ?_))
  rintro e w7 ⟨v, rfl, hE, hb7⟩
  obtain rfl := ErrV.zero hE
  have s7 := hb7.size
  have h67 := hb7.alloc s7 (.cells p1.toArray 42)
  have hbk1 : (w7.alloc (.cells p1.toArray 42)).heap[w7.heap.size]? = some (.cells p1.toArray 42 (0, 0)) := heap_alloc_new w7 _
  have hP8 := hP6.below h67
  have hS8 := hS5.below h67
  have hb8 := hb6.trans (h67.mono s6)
  obtain ⟨w8, hw8⟩ : ∃ w8, Hid (w7.alloc (.cells p1.toArray 42) = w8) := ⟨_, rfl⟩
  obtain ⟨k1, hk1⟩ : ∃ k1, Hid (w7.heap.size = k1) := ⟨_, rfl⟩
  rw [hw8.out] at hbk1 hP8 hS8 hb8
  rw [hk1.out] at hbk1
  clear hR3 hE hP6 hS5 h67 hb6
  have hR4 := pd_read hP8 4
  rw [r4] at hR4
  go_wp2_with (first
    | (refine wpList_alloc_arr rfl 42 rfl _ alloc64 ?_)
    | (refine wpList_store_new rfl 42 _ _ rfl w7.heap.size rfl p1.toArray rfl rfl 42 _ hz1.out hz3.out hz2.out ?_; rw [hw8.out, hk1.out])
    | (go_at_call 17; refine hR4.mono ?_))
  rintro e w9 ⟨v, rfl, hE, hb9⟩
  obtain rfl := ErrV.zero hE
  have s9 := hb9.size
  have hz4 : Hid ((Tryd.prog.info? 42).map (·.size) = some p3.toArray.size) := page_size b3.page
  have hz5 : Hid (p3.toArray.all (·.oneCell') = true) := page_all b3.page
  have hz6 : Hid (zeros64.size = p3.toArray.size) := by
    have : p3.toArray.size = 64 := by rw [List.size_toArray]; exact b3.page.1
    rw [this]; exact (rfl : zeros64.size = 64)
  have h89 := hb9.alloc s9 (.cells p3.toArray 42)
  have hbk3 : (w9.alloc (.cells p3.toArray 42)).heap[w9.heap.size]? = some (.cells p3.toArray 42 (0, 0)) := heap_alloc_new w9 _
  have hbk1' := (h89.block k1 (Array.getElem?_eq_some_iff.1 hbk1).1).trans hbk1
  have hS10 := hS8.below h89
  have hb10 := hb8.trans (h89.mono hb8.size)
  obtain ⟨wx, hwx⟩ : ∃ wx, Hid (w9.alloc (.cells p3.toArray 42) = wx) := ⟨_, rfl⟩
  obtain ⟨k3, hk3⟩ : ∃ k3, Hid (w9.heap.size = k3) := ⟨_, rfl⟩
  rw [hwx.out] at hbk3 hbk1' hS10 hb10
  rw [hk3.out] at hbk3
  clear hR4 hE hP8 hS8 h89 hb8 hbk1
  have hl1 := Lib.hid (run_loadAt_mid (P := Tryd.prog) wx k1 0 42 p1 _ (fun j v hj => by rw [Nat.zero_add, cell_of_row wx k1 j _ _ _ hbk1']; simpa using hj) Tryd.underlying42 rfl (by rw [b1.page.1]; exact info64))
  have hl3 := Lib.hid (run_loadAt_mid (P := Tryd.prog) wx k3 0 42 p3 _ (fun j v hj => by rw [Nat.zero_add, cell_of_row wx k3 j _ _ _ hbk3]; simpa using hj) Tryd.underlying42 rfl (by rw [b3.page.1]; exact info64))
  have hsz := pd_size hS10
  have hsz5 : ((List.length [zeroPage, zeroPage, zeroPage, p1, zeroPage] : Nat) : Int) = 5 := rfl
  simp only [hsz5] at hsz
  have HB1 : Hid (Tryd.prog.built 42 [(0, .int .u8 1)] = some p1.toArray) := by rw [H1.out]; exact built_one 1
  have HB3 : Hid (Tryd.prog.built 42 [(0, .int .u8 3)] = some p3.toArray) := by rw [H3.out]; exact built_one 3
  clear hbk1' hbk3 hS10 hsz5
  go_wp2_with (first
    | (refine wpList_alloc_arr rfl 42 rfl _ alloc64 ?_)
    | (refine wpList_store_new rfl 42 _ _ rfl w9.heap.size rfl p3.toArray rfl rfl 42 _ hz4.out hz6.out hz5.out ?_; rw [hwx.out, hk3.out])
    | (go_at_call 12; refine (num_nil _).mono ?_))
  iterate 6
    rintro e w' ⟨rfl, rfl⟩
    go_wp2_with (go_at_call 12; refine (num_nil _).mono ?_)
  rintro e w' ⟨rfl, rfl⟩
  clear hwx
  go_wp2_with (first
    | (go_at_call 16; refine hsz.mono ?_; rintro e w' ⟨rfl, rfl⟩)
    | (have _t := hl1; refine wpList_load_page _ rfl k1 0 rfl _ hl1.out (by rfl) ?_; clear hl1)
    | (have _t := hl3; refine wpList_load_page _ rfl k3 0 rfl _ hl3.out (by rfl) ?_; clear hl3)
    | (have _t := HB1; refine wpList_build1 (.const (.int .u8 1)) rfl _ rfl _ HB1.out (by rfl) ?_; clear HB1)
    | (have _t := HB3; refine wpList_build1 (.const (.int .u8 3)) rfl _ rfl _ HB3.out (by rfl) ?_; clear HB3))
  go_ret
  exact ⟨rfl, hb10⟩
end Go.Proofs.YtbmpbcnoclhhgaaDoor
