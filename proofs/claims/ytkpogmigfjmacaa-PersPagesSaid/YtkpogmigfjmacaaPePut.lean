/-
  The document's answer: a key by each nexus put into a table.
-/
import Derived.Test.YtkpogmigfjmacaaPeKeys
import Derived.Test.YtkpogmigfjmacaaPrLast
set_option linter.unusedSimpArgs false
set_option linter.unusedVariables false
namespace Go.Proofs.Ytkpogmigfjmacaa
open Go.RowKit

theorem lstK_len (f : Int → Int) (k : Nat) : (lstK f k).length ≤ k := by
  unfold lstK
  exact Nat.le_trans (List.length_filterMap_le _ _) (by simp)
def PutP (w : World) (g h t : Int) (p : Bool) (l : List (Int × Int)) (e : Ending) (w' : World) : Prop :=
  ∃ v, e = .returned (.agg #[.int .u32 g, v, .int .i64 h, .int .i64 t, .bool p]) ∧ OwnR w.heap.size w' v l ∧ Below w.heap.size w w'
section
variable (g h t : Int) (p : Bool) (S : Value) (f : Int → Int) (w : World)
set_option maxRecDepth 100000 in
set_option maxHeartbeats 4000000 in
theorem put_any (hs1 : ∃ A n c, S = .slice A n c) :
    Calls Try.prog 49 #[.agg #[.int .u32 g, S, .int .i64 h, .int .i64 t, .bool p], .agg (arrV f).toArray] w (PutP w g h t p (lstK f 8)) := by
  obtain ⟨A, n0, c0, rfl⟩ := hs1
  obtain ⟨pv, Hpv⟩ : ∃ pv, Hid ((arrV f).toArray = pv) := ⟨_, Lib.hid rfl⟩
  rw [Hpv.out]
  go_enter Try.func49, Try.ntmps49
  go_upto_region 1 with (fail)
  obtain ⟨hx, hy, hz⟩ := heap_alloc3 w (.cells #[.int .u32 g, .slice A n0 c0, .int .i64 h, .int .i64 t, .bool p] 25) (.cells pv 57) (.cells #[.int .u32 0, .slice none 0 0, .int .i64 0, .int .i64 0, .bool false] 25)
  have hb0 := bel3 w (.cells #[.int .u32 g, .slice A n0 c0, .int .i64 h, .int .i64 t, .bool p] 25) (.cells pv 57) (.cells #[.int .u32 0, .slice none 0 0, .int .i64 0, .int .i64 0, .bool false] 25)
  try simp only [World.size_alloc]
  generalize ((w.alloc (.cells #[.int .u32 g, .slice A n0 c0, .int .i64 h, .int .i64 t, .bool p] 25)).alloc (.cells pv 57)).alloc (.cells #[.int .u32 0, .slice none 0 0, .int .i64 0, .int .i64 0, .bool false] 25) = w0 at hx hy hz hb0 ⊢
  obtain ⟨xl, x0, x1, x2, x3, x4, xf⟩ := box5 hx
  go_upto_region 3 with (fail)
  have hx1 : (w0.setCell ⟨w.heap.size, 1, none⟩ (.slice none 0 0)).heap[w.heap.size]? = some (.cells #[.int .u32 g, .slice none 0 0, .int .i64 h, .int .i64 t, .bool p] 25 (0, 0)) := (heap_setCell_same w0 w.heap.size 1 _ 25 (.slice none 0 0) hx).trans rfl
  have hset : ∀ j, j ≠ w.heap.size → (w0.setCell ⟨w.heap.size, 1, none⟩ (.slice none 0 0)).heap[j]? = w0.heap[j]? := fun j hj => Below.heap_setCell w0 ⟨w.heap.size, 1, none⟩ _ j hj
  have hy1 := (hset _ (by omega)).trans hy
  have hz1 := (hset _ (by omega)).trans hz
  have hb1 := hb0.setCell (p := ⟨w.heap.size, 1, none⟩) (Nat.le_refl _) (.slice none 0 0)
  generalize w0.setCell ⟨w.heap.size, 1, none⟩ (.slice none 0 0) = w1 at hx1 hy1 hz1 hb1 ⊢
  have HX := Lib.hid hx1; have HY := Lib.hid hy1; have HZ := Lib.hid hz1; have HB := Lib.hid hb1
  clear hx hy hz hb0 xl x0 x1 x2 x3 x4 xf hset hx1 hy1 hz1 hb1
  go_loopg [5] 8 (fun m i wr => ∃ (k : Nat) (v : Value), m = 8 - k ∧ k ≤ 8 ∧ i = .int .i64 k ∧ Hid (wr.heap[w.heap.size]? = some (.cells #[.int .u32 g, v, .int .i64 h, .int .i64 t, .bool p] 25 (0, 0))) ∧ Hid (wr.heap[w.heap.size + 1]? = some (.cells pv 57 (0, 0))) ∧ Hid (wr.heap[w.heap.size + 2]? = some (.cells #[.int .u32 0, .slice none 0 0, .int .i64 0, .int .i64 0, .bool false] 25 (0, 0))) ∧ OwnR (w.heap.size + 3) wr v (lstK f k) ∧ Below w.heap.size w wr)
  case atStart => exact ⟨0, _, rfl, by omega, rfl, HX, HY, HZ, OwnR.nil _ _, HB.out⟩
  case round =>
    clear HX HY HZ HB
    obtain ⟨k, v, rfl, hk, rfl, HX, HY, HZ, hv, hb⟩ := hrel
    obtain ⟨xl, x0, x1, x2, x3, x4, xf⟩ := box5 HX.out
    obtain ⟨rl, r0, r1, r2, r3, r4, rf⟩ := box5 HZ.out
    have HB := Lib.hid hb
    clear hb
    by_cases hlt : k < 8
    · have hltz : (k : Int) < 8 := by omega
      obtain ⟨fk, Hfk⟩ : ∃ fk, Hid (f (k : Int) = fk) := ⟨_, Lib.hid rfl⟩
      have cz : wr.cell? ⟨w.heap.size + 1, k, none⟩ = some (.int .u64 fk) := by
        rw [cell_of_row wr _ k _ _ _ HY.out, ← Hpv.out, List.getElem?_toArray, ← Hfk.out]; exact arrV_at _ hlt
      by_cases hz : fk = 0
      · have hzd : (fk == 0) = true := by simpa using hz
        have hzd2 : (fk != 0) = false := by simpa using hz
        have hnx : lstK f (k + 1) = lstK f k := by rw [lstK_next, Hfk.out, if_pos hz, List.append_nil]
        rw [← hnx] at hv
        have HV := Lib.hid hv
        clear hz hnx hv
        go_wp2
        go_roundg (8 - (k + 1))
        case measure => omega
        case rel => exact ⟨k + 1, v, rfl, by omega, by go_num, HX, HY, HZ, HV.out, HB.out⟩
      · have hzd : (fk == 0) = false := by simpa using hz
        have hzd2 : (fk != 0) = true := by simpa using hz
        have Hz := Lib.hid hz
        clear hz
        go_wp2
        refine wp_region_up 9 (fun W => Below (w.heap.size + 3) wr W) (by kernel_rfl) ?_
        have hS : Below (w.heap.size + 3) wr (World.drew wr) := (Below.refl _ _).drew
        change upHead _ _ _ _ _ _ _ _ _ (World.drew wr)
        have hvd : OwnR (w.heap.size + 3) (World.drew wr) v (lstK f k) := hv
        generalize World.drew wr = wd at hS hvd ⊢
        have hwd := hS.size
        refine up_take (i := 0) (v := .pointer (some ⟨w.heap.size, 1, none⟩)) rfl (by kernel_rfl) (by kernel_rfl) (fun _ _ _ h => h) (Or.inl ⟨by rfl, ?_⟩) hS ?_
        · intro W hW; go_simp
        try simp only [List.getElem_toArray, List.getElem_cons_succ, List.getElem_cons_zero, Act.put, List.setIfInBounds_toArray, List.set]
        refine up_take (i := 1) (v := v) rfl (by kernel_rfl) (by kernel_rfl) (fun _ _ _ h => h) (Or.inl ⟨by rfl, ?_⟩) hS ?_
        · intro W hW; have e1 := (hW.cell (p := ⟨w.heap.size, 1, none⟩) (by show w.heap.size < _; omega)).trans x1; go_simp
        try simp only [List.getElem_toArray, List.getElem_cons_succ, List.getElem_cons_zero, Act.put, List.setIfInBounds_toArray, List.set]
        refine up_take (i := 2) (v := .int .i64 (k : Int)) rfl (by kernel_rfl) (by kernel_rfl) (fun _ _ _ h => h) (Or.inl ⟨by rfl, ?_⟩) hS ?_
        · intro W hW; go_simp
        try simp only [List.getElem_toArray, List.getElem_cons_succ, List.getElem_cons_zero, Act.put, List.setIfInBounds_toArray, List.set]
        refine up_take (i := 3) (v := .int .i64 (k : Int)) rfl (by kernel_rfl) (by kernel_rfl) (fun _ _ _ h => h) (Or.inl ⟨by rfl, ?_⟩) hS ?_
        · intro W hW; go_simp
        try simp only [List.getElem_toArray, List.getElem_cons_succ, List.getElem_cons_zero, Act.put, List.setIfInBounds_toArray, List.set]
        refine up_take (i := 4) (v := .pointer (some ⟨w.heap.size + 1, k, none⟩)) rfl (by kernel_rfl) (by kernel_rfl) (fun _ _ _ h => h) (Or.inl ⟨by rfl, ?_⟩) hS ?_
        · intro W hW; go_simp
        try simp only [List.getElem_toArray, List.getElem_cons_succ, List.getElem_cons_zero, Act.put, List.setIfInBounds_toArray, List.set]
        refine up_take (i := 5) (v := .int .u64 fk) rfl (by kernel_rfl) (by kernel_rfl) (fun _ _ _ h => h) (Or.inl ⟨by rfl, ?_⟩) hS ?_
        · intro W hW; have e1 := (hW.cell (p := ⟨w.heap.size + 1, k, none⟩) (by show w.heap.size + 1 < _; omega)).trans cz; go_simp
        try simp only [List.getElem_toArray, List.getElem_cons_succ, List.getElem_cons_zero, Act.put, List.setIfInBounds_toArray, List.set]
        refine up_take (i := 6) (v := .agg #[.int .i64 (k : Int), .int .u64 fk]) rfl (by kernel_rfl) (by kernel_rfl) (fun _ _ _ h => h) (Or.inl ⟨by rfl, ?_⟩) hS ?_
        · intro W hW; go_simp
        try simp only [List.getElem_toArray, List.getElem_cons_succ, List.getElem_cons_zero, Act.put, List.setIfInBounds_toArray, List.set]
        refine up_one 7 _ rfl (by kernel_rfl) (by decide) (by rfl) (fun K hK => ?_)
        go_simp
        have hS7 : Below (w.heap.size + 3) wr (wd.alloc (.cells #[.int .i64 (k : Int), .int .u64 fk] 38)) := hS.alloc (by omega) _
        refine hK _ _ hS7 ?_
        clear hK K
        try simp only [List.getElem_toArray, List.getElem_cons_succ, List.getElem_cons_zero, Act.put, List.setIfInBounds_toArray, List.set]
        refine up_one 8 _ rfl (by kernel_rfl) (by decide) (by rfl) (fun K hK => ?_)
        refine wp_behind (.tmp 16) (.tmp 22) rfl (w.heap.size + 3) v _ rfl (hvd.alloc _) (by simp only [World.size_alloc]; omega) (some ⟨wd.heap.size, 0, none⟩) 1 1 (wd.heap.size + 1) [((k : Int), fk)] rfl rfl (.inr ⟨wd.heap.size, 0, rfl, by omega, fun j q hj => ?_⟩) (by have := lstK_len f k; simp; omega) ?_
        · match j, hj with
          | 0, hj =>
            obtain rfl : ((k : Int), fk) = q := by simpa using hj
            exact ⟨by simp, by simp⟩
          | j + 1, hj => simp at hj
        intro v8 w8 ho8 hg8
        have hS8 : Below (w.heap.size + 3) wr w8 := below_grown hS7 (hvd.alloc _) hg8 (by simp only [World.size_alloc]; omega)
        have hnx : lstK f (k + 1) = lstK f k ++ [((k : Int), fk)] := by rw [lstK_next, Hfk.out, if_neg Hz.out]
        rw [← hnx] at ho8
        clear hnx
        obtain ⟨A8, c8, rfl, hs8⟩ := ho8.sl
        clear hs8
        refine hK _ _ hS8 ?_
        clear hK K
        try simp only [List.getElem_toArray, List.getElem_cons_succ, List.getElem_cons_zero, Act.put, List.setIfInBounds_toArray, List.set]
        have hx8 := (hS8.block w.heap.size (by omega)).trans HX.out
        have hy8 := (hS8.block (w.heap.size + 1) (by omega)).trans HY.out
        have hz8 := (hS8.block (w.heap.size + 2) (by omega)).trans HZ.out
        have hb8 : Below w.heap.size w w8 := HB.out.trans (hS8.mono (by omega))
        obtain ⟨xl8, x0_8, x1_8, x2_8, x3_8, x4_8, xf8⟩ := box5 hx8
        refine up_tail ?_
        refine up_last 9 _ rfl (by kernel_rfl) (by decide) (by rfl) (fun K hK => ?_)
        go_simp
        refine hK _ _ ?_
        clear hK K
        try simp only [List.getElem_toArray, List.getElem_cons_succ, List.getElem_cons_zero, Act.put, List.setIfInBounds_toArray, List.set]
        refine up_last 10 _ rfl (by kernel_rfl) (by decide) (by rfl) (fun K hK => ?_)
        go_simp
        refine hK _ _ ?_
        clear hK K
        try simp only [List.getElem_toArray, List.getElem_cons_succ, List.getElem_cons_zero, Act.put, List.setIfInBounds_toArray, List.set]
        refine up_done (by kernel_rfl) ?_ _
        have hx9 : (w8.setCell ⟨w.heap.size, 1, none⟩ (.slice A8 (lstK f (k + 1)).length c8)).heap[w.heap.size]? = some (.cells #[.int .u32 g, (.slice A8 (lstK f (k + 1)).length c8), .int .i64 h, .int .i64 t, .bool p] 25 (0, 0)) := (heap_setCell_same w8 w.heap.size 1 _ 25 (.slice A8 (lstK f (k + 1)).length c8) hx8).trans rfl
        have hset : ∀ j, j ≠ w.heap.size → (w8.setCell ⟨w.heap.size, 1, none⟩ (.slice A8 (lstK f (k + 1)).length c8)).heap[j]? = w8.heap[j]? := fun j hj => Below.heap_setCell w8 ⟨w.heap.size, 1, none⟩ _ j hj
        have HF := Lib.hid (And.intro hx9 (And.intro ((hset _ (by omega)).trans hy8) (And.intro ((hset _ (by omega)).trans hz8) (And.intro (ho8.set (p := ⟨w.heap.size, 1, none⟩) (by show w.heap.size < _; omega) (.slice A8 (lstK f (k + 1)).length c8)) (hb8.setCell (p := ⟨w.heap.size, 1, none⟩) (Nat.le_refl _) (.slice A8 (lstK f (k + 1)).length c8))))))
        clear hx9 hset hx8 hy8 hz8 ho8 hg8 hb8 hS8 hS7 hS hvd
        go_wp2
        go_roundg (8 - (k + 1))
        case measure => omega
        case rel => exact ⟨k + 1, _, rfl, by omega, by go_num, Lib.hid HF.out.1, Lib.hid HF.out.2.1, Lib.hid HF.out.2.2.1, HF.out.2.2.2.1, HF.out.2.2.2.2⟩
    · obtain rfl : k = 8 := by omega
      obtain ⟨A2, c2, rfl, hs2⟩ := hv.sl
      have HV := Lib.hid hv
      clear hv hs2
      go_wp2
      exact bodyPost_ret (v := .agg #[.int .u32 g, .slice A2 (lstK f 8).length c2, .int .i64 h, .int .i64 t, .bool p]) (by simp [results, Try.results49, go_sem, r0, r1, r2, r3, r4, rl, xl]) rfl ⟨_, rfl, (HV.out.set5 (b := w.heap.size + 2) (by omega) _ _ _ _ _).lower (by omega), set5B HB.out (by omega) _ _ _ _ _⟩
end
end Go.Proofs.Ytkpogmigfjmacaa
