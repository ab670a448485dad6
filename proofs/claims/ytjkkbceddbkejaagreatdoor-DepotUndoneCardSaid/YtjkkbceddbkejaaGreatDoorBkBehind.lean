/-
  Package pages: behind.
-/
import Derived.Test.YtjkkbceddbkejaaGreatDoorBkTitle
set_option linter.unusedSimpArgs false
set_option linter.unusedVariables false
namespace Go.Proofs.YtjkkbceddbkejaaGreatDoor
open Go.RowKit Sh

def z8 : List Value := List.replicate 8 (cu8 0)
theorem alloc8 (w : World) : (Instr.alloc 211 true (.tuple #[])).run Tryz.prog w = .ok (.pointer (some ⟨w.heap.size, 0, none⟩)) (w.alloc (.cells z8.toArray 211)) := by kernel_rfl
def BehindP (last : List UInt8) (g : Nat) (w : World) (e : Ending) (w' : World) : Prop := e = .returned (.agg ((dig (last ++ leN 8 g)).map cu8).toArray) ∧ Below w.heap.size w w'
structure BhW (x r q : Nat) (last bs : List UInt8) (w wr : World) : Prop where
  box : wr.heap[x]? = some (.cells (last.map cu8).toArray 56 (0, 0))
  res : wr.heap[r]? = some (.cells z32.toArray 56 (0, 0))
  pg : wr.heap[q]? = some (.cells (bs.map cu8).toArray 211 (0, 0))
  bel : Below x w wr
theorem BhW.lt {x r q : Nat} {last bs : List UInt8} {w wr : World} (h : BhW x r q last bs w wr) : q < wr.heap.size := (Array.getElem?_eq_some_iff.1 h.pg).1
theorem BhW.below {x r q : Nat} {last bs : List UInt8} {w wr w' : World} (h : BhW x r q last bs w wr) (hxq : x < r ∧ r < q) (hb : Below wr.heap.size wr w') : BhW x r q last bs w w' := by
  have hq := h.lt
  exact ⟨(hb.block x (by omega)).trans h.box, (hb.block r (by omega)).trans h.res, (hb.block q hq).trans h.pg, h.bel.trans (hb.mono (by omega))⟩
theorem BhW.turn {x r q g : Nat} {last bs : List UInt8} {w wr w' : World} (h : BhW x r q last bs w wr) (hxq : x < r ∧ r < q) (hq : q < g) (hg : wr.grownBy w' (some g)) : BhW x r q last bs w w' := by
  have hq := h.lt
  exact ⟨(hg.block x (by omega) (by simp; omega)).trans h.box, (hg.block r (by omega) (by simp; omega)).trans h.res, (hg.block q hq (by simp; omega)).trans h.pg, below_of_grown h.bel hg (by omega) (by omega)⟩
set_option maxRecDepth 100000 in
set_option maxHeartbeats 8000000 in
/-- behind. -/
theorem behind_any (last : List UInt8) (g : Nat) (hl : last.length = 32) (w : World) : Calls Tryz.prog 120 #[.agg (last.map cu8).toArray, .int .u64 g] w (BehindP last g w) := by
  obtain ⟨lv, Hlv⟩ : ∃ lv : List Value, Hid (lv = last.map cu8) := ⟨_, rfl⟩
  rw [← Hlv.out]
  have hb3 : Below w.heap.size w (((w.alloc (.cells lv.toArray 56)).alloc (.cells z32.toArray 56)).alloc (.cells z8.toArray 211)) := (((Below.refl _ _).alloc (Nat.le_refl _) _).alloc (by simp) _).alloc (by simp; omega) _
  have hx3 : (((w.alloc (.cells lv.toArray 56)).alloc (.cells z32.toArray 56)).alloc (.cells z8.toArray 211)).heap[w.heap.size]? = some (.cells lv.toArray 56 (0, 0)) := by
    rw [Below.heap_alloc _ _ _ (by simp; omega), Below.heap_alloc _ _ _ (by simp)]; exact heap_alloc_new _ _
  have hr3 : (((w.alloc (.cells lv.toArray 56)).alloc (.cells z32.toArray 56)).alloc (.cells z8.toArray 211)).heap[w.heap.size + 1]? = some (.cells z32.toArray 56 (0, 0)) := by
    rw [Below.heap_alloc _ _ _ (by simp)]
    have := heap_alloc_new (w.alloc (.cells lv.toArray 56)) (.cells z32.toArray 56)
    simpa using this
  have hq3 : (((w.alloc (.cells lv.toArray 56)).alloc (.cells z32.toArray 56)).alloc (.cells z8.toArray 211)).heap[w.heap.size + 2]? = some (.cells z8.toArray 211 (0, 0)) := by
    have := heap_alloc_new ((w.alloc (.cells lv.toArray 56)).alloc (.cells z32.toArray 56)) (.cells z8.toArray 211)
    simpa using this
  go_enter Tryz.func120, Tryz.ntmps120
  go_upto_region 2 with (first
    | (refine wpList_alloc_arr rfl 56 rfl _ alloc32 ?_)
    | (refine wpList_alloc_arr rfl 211 rfl _ alloc8 ?_))
  try simp only [World.size_alloc]
  generalize ((w.alloc (.cells lv.toArray 56)).alloc (.cells z32.toArray 56)).alloc (.cells z8.toArray 211) = wa at hb3 hx3 hr3 hq3 ⊢
  have nrm : w.heap.size + 1 + 1 = w.heap.size + 2 := rfl
  try rw [nrm]
  obtain ⟨q, hq⟩ : ∃ q, w.heap.size + 2 = q := ⟨_, rfl⟩
  obtain ⟨r, hr⟩ : ∃ r, w.heap.size + 1 = r := ⟨_, rfl⟩
  obtain ⟨x, hx⟩ : ∃ x, w.heap.size = x := ⟨_, rfl⟩
  rw [hq] at hq3 ⊢
  rw [hr] at hr3 ⊢
  rw [hx] at hx3 hb3 ⊢
  have hxq : x < r ∧ r < q := by omega
  have Hx := Lib.hid hx
  clear hq hr hx nrm
  rw [Hlv.out] at hx3
  have hq4 : wa.heap[q]? = some (.cells (((List.replicate 8 (0 : UInt8)) : List UInt8).map cu8).toArray 211 (0, 0)) := by rw [List.map_replicate]; exact hq3
  have hW0 : BhW x r q last (List.replicate 8 0) w wa := ⟨hx3, hr3, hq4, hb3⟩
  have hput := bput_any (w := wa) (g := q) (o := 0) (n := 8) (cap := 8) (x := g) hq4 (by simp) (by omega)
  rw [splice_mapB] at hput
  have e1 : spliceB (List.replicate 8 0) 0 (leN 8 g) = leN 8 g := by
    unfold spliceB; rw [leN_length]; simp
  rw [e1] at hput
  have Hput := Lib.hid hput
  clear hput hb3 hx3 hr3 hq3 hq4 e1
  go_wp2_with (first
    | (go_at_call 130; refine Hput.out.mono ?_))
  rintro e w2 ⟨rfl, hp2, hg2⟩
  have hW2 : BhW x r q last (leN 8 g) w w2 := by
    have hq := hW0.lt
    exact ⟨(hg2.block x (by omega) (by simp; omega)).trans hW0.box, (hg2.block r (by omega) (by simp; omega)).trans hW0.res, hp2, below_of_grown hW0.bel hg2 (by omega) (by omega)⟩
  clear Hput hW0 hp2 hg2
  go_wp2_with (go_at_call 136; refine (new_any _).mono ?_)
  rintro e w3 ⟨h, rfl, hh, hH, hb3⟩
  have hqh : q < h := by have := hW2.lt; omega
  have hW3 := hW2.below hxq hb3
  have hgl := hH.lt
  clear hW2 hb3 hh
  have hw1 := write_any h [] last (some ⟨x, 0, none⟩) x 0 32 w3 hH (by omega) (by omega) (by unfold maxLen; omega) (fun _ => rfl) (fun j hj => by
    rw [Nat.zero_add, cell_of_row w3 x j _ _ _ hW3.box, List.getElem?_toArray, List.getElem?_map, List.getElem?_eq_getElem hj]; simp [at8, hj]) (by simp; omega)
  rw [hl, List.nil_append] at hw1
  have Hw1 := Lib.hid hw1
  clear hH hw1
  go_wp2_with (go_at_call 137; refine Hw1.out.mono ?_)
  clear Hw1
  rintro e w4 ⟨rfl, hH, hg4⟩
  have hW4 := hW3.turn hxq hqh hg4
  clear hW3 hg4 hgl
  have hw2 := write_any h last (leN 8 g) (some ⟨q, 0, none⟩) q 0 8 w4 hH (by omega) (by simp [leN_length]) (by unfold maxLen; omega) (fun _ => rfl) (fun j hj => by
    rw [Nat.zero_add, cell_of_row w4 q j _ _ _ hW4.pg, List.getElem?_toArray, List.getElem?_map, List.getElem?_eq_getElem hj]; simp [at8, hj]) (by simp [leN_length]; omega)
  rw [leN_length] at hw2
  have Hw2 := Lib.hid hw2
  clear hH hw2
  go_wp2_with (go_at_call 137; refine Hw2.out.mono ?_)
  clear Hw2
  rintro e w5 ⟨rfl, hH, hg5⟩
  have hW5 := hW4.turn hxq hqh hg5
  clear hW4 hg5
  have Hsum := Lib.hid (sum_any h _ w5 hH (by simp only [List.length_append, leN_length, hl]; omega))
  clear hH
  go_wp2_with (first
    | (go_at_call 138; refine Hsum.out.mono ?_))
  rintro e w7 ⟨rv, Hrv, rfl, hb7⟩
  have hW7 := hW5.below hxq hb7
  have Hr7 := Lib.hid hW7.res; have Hb7 := Lib.hid hW7.bel
  have hri : Hid ((Tryz.prog.info? 56).map (·.size) = some rv.size) := by rw [(dig_size Hrv).out]; exact (by kernel_rfl : (Tryz.prog.info? 56).map (·.size) = some 32)
  have hrz : Hid (z32.toArray.size = rv.size) := by rw [(dig_size Hrv).out]; exact (rfl : z32.toArray.size = 32)
  clear Hsum hb7 hW5 hW7
  go_wp2_with (first
    | (refine wpList_store_row rfl 56 _ _ rfl r rv rfl rfl 56 z32.toArray Hr7.out hri.out hrz.out (dig_one Hrv).out ?_))
  refine bodyPost_ret (v := .agg rv) ?_ rfl ⟨by rw [Hrv.out], by rw [Hx.out]; exact below_setRow Hb7.out (by omega) _⟩
  exact results_cell_row (ty := 56) rfl _ _ r 56 _ (0, 0) _ rfl (setRow_heap _ _ _ _ _ _ Hr7.out) Tryz.underlying56 rfl hri.out
end Go.Proofs.YtjkkbceddbkejaaGreatDoor
