/-
  Package radix: told.
-/
import Derived.Test.YtfagnbjjffjcbaaGreatDoorRxSmall
set_option linter.unusedSimpArgs false
set_option linter.unusedVariables false
namespace Go.Proofs.YtfagnbjjffjcbaaGreatDoor
open Go.RowKit Sh Go.Maps Go.Extern.Stop Go.Stop Go.Extern

def cellsL (l : List Nat) : List Value := l.map fun (x : Nat) => Value.int .i64 (x : Int)
def leafV (l : List Nat) : Value := .agg (cellsL l).toArray
theorem cellsL_len (l : List Nat) : (cellsL l).length = l.length := by simp [cellsL]
theorem infoLeaf : (Tryz.prog.info? 126).map (·.size) = some 16 := by kernel_rfl
theorem allocLeaf (w : World) : (Instr.alloc 126 true (.tuple #[])).run Tryz.prog w = .ok (.pointer (some ⟨w.heap.size, 0, none⟩)) (w.alloc (.cells (cellsL noneL).toArray 126)) := by kernel_rfl
theorem cellsL_one (l : List Nat) : (cellsL l).toArray.all (·.oneCell') = true := all_oneCell_toArray (fun v hv => by obtain ⟨x, _, rfl⟩ := List.mem_map.1 hv; rfl)
theorem i64_or (a b : Nat) (ha : a < 9223372036854775808) (hb : b < 9223372036854775808) : bits .or .i64 (a : Int) (b : Int) = ((a ||| b : Nat) : Int) := by
  have e1 : (BitVec.ofInt 64 (a : Int)).toNat = a := by rw [BitVec.toNat_ofInt]; omega
  have e2 : (BitVec.ofInt 64 (b : Int)).toNat = b := by rw [BitVec.toNat_ofInt]; omega
  have key : (BitVec.ofInt 64 (a : Int) ||| BitVec.ofInt 64 (b : Int)).toNat = a ||| b := by rw [BitVec.toNat_or, e1, e2]
  have hlt : a ||| b < 2 ^ 63 := Nat.or_lt_two_pow (by omega) (by omega)
  show IntKind.i64.wrap ((BitVec.ofInt 64 (a : Int) ||| BitVec.ofInt 64 (b : Int)).toNat : Nat) = _
  rw [key, IntWalk.i64_in _ (by omega)]
def lowN (p : List UInt8) (o : Nat) : Nat → Nat
  | 0 => 0
  | k + 1 => lowN p o k + (at8 p (o + k)).toNat * 2 ^ (8 * k)
theorem low_three (p : List UInt8) (o : Nat) : lowN p o 3 = num3 p o := by
  simp only [lowN, num3]
  simp
  omega
theorem low_lt (p : List UInt8) (o : Nat) : ∀ k, lowN p o k < 2 ^ (8 * k)
  | 0 => by simp [lowN]
  | k + 1 => by
    have ih := low_lt p o k
    have hc := (at8 p (o + k)).toNat_lt
    have e : 2 ^ (8 * (k + 1)) = 256 * 2 ^ (8 * k) := by rw [Nat.mul_add, Nat.pow_add, Nat.mul_comm]
    simp only [lowN]
    rw [e]
    have h2 : (at8 p (o + k)).toNat * 2 ^ (8 * k) ≤ 255 * 2 ^ (8 * k) := Nat.mul_le_mul_right _ (by omega)
    have h3 : 256 * 2 ^ (8 * k) = 255 * 2 ^ (8 * k) + 2 ^ (8 * k) := by omega
    omega
theorem low_or (p : List UInt8) (o : Nat) {k : Nat} (hk : k < 3) : bits .or .i64 (lowN p o k : Nat) (IntKind.i64.wrap (((at8 p (o + k)).toNat : Int) * 2 ^ (8 * k))) = (lowN p o (k + 1) : Nat) := by
  have hc := (at8 p (o + k)).toNat_lt
  have hl := low_lt p o k
  have hp : 2 ^ (8 * k) ≤ 65536 := Nat.le_trans (Nat.pow_le_pow_right (by omega) (by omega : 8 * k ≤ 16)) (Nat.le_refl _)
  have hm : (at8 p (o + k)).toNat * 2 ^ (8 * k) ≤ 255 * 65536 := Nat.mul_le_mul (by omega) hp
  have e2 : (((at8 p (o + k)).toNat : Int) * 2 ^ (8 * k)) = ((at8 p (o + k)).toNat * 2 ^ (8 * k) : Nat) := by simp
  rw [e2, IntWalk.i64_in _ (by omega), i64_or _ _ (by omega) (by omega)]
  have h3 := Nat.shiftLeft_add_eq_or_of_lt hl (at8 p (o + k)).toNat
  rw [Nat.shiftLeft_eq] at h3
  simp only [lowN]
  rw [Nat.or_comm, ← h3, Nat.add_comm]
def partL (p : List UInt8) (i k : Nat) : List Nat := (List.range 16).map fun a => if a < i then num3 p (3 * a) else if a = i then lowN p (3 * i) k else 0
theorem partL_len (p : List UInt8) (i k : Nat) : (partL p i k).length = 16 := by simp [partL]
theorem partL_zero (p : List UInt8) : partL p 0 0 = noneL := by simp [partL, noneL, lowN, List.range_succ]
theorem partL_next (p : List UInt8) (i : Nat) : partL p i 3 = partL p (i + 1) 0 := by
  unfold partL
  apply List.map_congr_left
  intro a _
  rw [low_three]
  by_cases h1 : a < i
  · rw [if_pos h1, if_pos (by omega)]
  · by_cases h2 : a = i
    · subst h2; rw [if_neg h1, if_pos rfl, if_pos (by omega)]
    · rw [if_neg h1, if_neg h2, if_neg (by omega)]
      split <;> rfl
theorem partL_set (p : List UInt8) {i k : Nat} (hi : i < 16) : (partL p i k).set i (lowN p (3 * i) (k + 1)) = partL p i (k + 1) := by
  apply List.ext_getElem (by simp [partL])
  intro a h1 h2
  rw [List.getElem_set]
  by_cases e : i = a
  · subst e
    rw [if_pos rfl]; simp [partL]
  · rw [if_neg e]
    simp only [partL, List.getElem_map, List.getElem_range]
    by_cases h3 : a < i
    · rw [if_pos h3, if_pos h3]
    · rw [if_neg h3, if_neg h3, if_neg (fun h => e h.symm), if_neg (fun h => e h.symm)]
theorem partL_at (p : List UInt8) {i k : Nat} (hi : i < 16) : (partL p i k)[i]? = some (lowN p (3 * i) k) := by
  unfold partL
  rw [List.getElem?_map, List.getElem?_range hi]
  simp
theorem partL_done (p : List UInt8) : partL p 16 0 = toldL p := by
  unfold partL toldL
  apply List.map_congr_left
  intro a ha
  rw [if_pos (by simpa using ha)]
section
variable {w : World}
set_option maxRecDepth 100000 in
set_option maxHeartbeats 8000000 in
theorem rtold_any (p : List UInt8) (hp : p.length = 64) : Calls Tryz.prog 91 #[pageV p] w (RetQ (leafV (toldL p)) w) := by
  obtain ⟨pv, Hpv⟩ : ∃ pv : List Value, Hid (pv = p.map cu8) := ⟨_, rfl⟩
  have hV : pageV p = .agg pv.toArray := by rw [Hpv.out]; rfl
  obtain ⟨zn, Hzn⟩ : ∃ zn : Array Value, Hid (zn = (cellsL noneL).toArray) := ⟨_, rfl⟩
  have hal : ∀ w : World, (Instr.alloc 126 true (.tuple #[])).run Tryz.prog w = .ok (.pointer (some ⟨w.heap.size, 0, none⟩)) (w.alloc (.cells zn 126)) := by rw [Hzn.out]; exact allocLeaf
  have hb1 : Below w.heap.size w (w.alloc (.cells pv.toArray 65)) := (Below.refl _ _).alloc (Nat.le_refl _) _
  have hb2 := hb1.alloc hb1.size (.cells zn 126)
  have hb3 := hb2.alloc hb2.size (.cells zn 126)
  have hx : (((w.alloc (.cells pv.toArray 65)).alloc (.cells zn 126)).alloc (.cells zn 126)).heap[w.heap.size]? = some (.cells pv.toArray 65 (0, 0)) := by
    rw [Below.heap_alloc _ _ _ (by simp; omega), Below.heap_alloc _ _ _ (by simp)]; exact heap_alloc_new w _
  have hy : (((w.alloc (.cells pv.toArray 65)).alloc (.cells zn 126)).alloc (.cells zn 126)).heap[w.heap.size + 1]? = some (.cells zn 126 (0, 0)) := by
    rw [Below.heap_alloc _ _ _ (by simp)]
    have := heap_alloc_new (w.alloc (.cells pv.toArray 65)) (.cells zn 126)
    simpa using this
  have hz : (((w.alloc (.cells pv.toArray 65)).alloc (.cells zn 126)).alloc (.cells zn 126)).heap[w.heap.size + 1 + 1]? = some (.cells zn 126 (0, 0)) := by
    have := heap_alloc_new ((w.alloc (.cells pv.toArray 65)).alloc (.cells zn 126)) (.cells zn 126)
    simpa using this
  rw [hV]
  clear hV hb1 hb2
  go_enter Tryz.func91, Tryz.ntmps91
  go_upto_region 2 with (first
    | (refine wpList_alloc_arr rfl 126 rfl _ hal ?_))
  try simp only [World.size_alloc]
  generalize ((w.alloc (.cells pv.toArray 65)).alloc (.cells zn 126)).alloc (.cells zn 126) = wa at hx hy hz hb3 ⊢
  obtain ⟨x, hxe⟩ : ∃ x, w.heap.size = x := ⟨_, rfl⟩
  obtain ⟨y, hye⟩ : ∃ y, x + 1 = y := ⟨_, rfl⟩
  obtain ⟨z, hze⟩ : ∃ z, y + 1 = z := ⟨_, rfl⟩
  rw [hxe] at hx hy hz hb3 ⊢
  rw [hye] at hy hz ⊢
  rw [hze] at hz ⊢
  have hz0 : wa.heap[z]? = some (.cells (cellsL (partL p 0 0)).toArray 126 (0, 0)) := by
    rw [hz, Hzn.out, partL_zero]
  have Hxe := Lib.hid hxe
  have hxyz : x < y ∧ y < z := by omega
  clear hz hxe hye hze hal
  go_wp2
  go_loopg [6] 16 (fun m v wr => ∃ i : Nat, m = 16 - i ∧ i ≤ 16 ∧ v = .int .i64 i ∧ Below x w wr ∧ wr.heap[x]? = some (.cells pv.toArray 65 (0, 0)) ∧ wr.heap[y]? = some (.cells zn 126 (0, 0)) ∧ wr.heap[z]? = some (.cells (cellsL (partL p i 0)).toArray 126 (0, 0)))
  case atStart => exact ⟨0, rfl, by omega, rfl, hb3, hx, hy, hz0⟩
  case round =>
    clear hx hy hz0 hb3
    obtain ⟨i, rfl, hi, rfl, hb, hx, hy, hz⟩ := hrel
    by_cases hlt : i < 16
    · have hlt' : (i : Int) < 16 := by omega
      have HB0 := Lib.hid hb; have HX0 := Lib.hid hx; have HY0 := Lib.hid hy; have HZ0 := Lib.hid hz
      clear hb hx hy hz
      go_wp2
      go_loopg [9] 3 (fun m v wr => ∃ k : Nat, m = 3 - k ∧ k ≤ 3 ∧ v = .int .i64 k ∧ Below x w wr ∧ wr.heap[x]? = some (.cells pv.toArray 65 (0, 0)) ∧ wr.heap[y]? = some (.cells zn 126 (0, 0)) ∧ wr.heap[z]? = some (.cells (cellsL (partL p i k)).toArray 126 (0, 0)))
      case atStart => exact ⟨0, rfl, by omega, rfl, HB0.out, HX0.out, HY0.out, HZ0.out⟩
      case round =>
        clear HB0 HX0 HY0 HZ0
        rename World => wq
        obtain ⟨k, rfl, hk, rfl, hb, hx, hy, hz⟩ := hrel
        by_cases hkl : k < 3
        · have hkl' : (k : Int) < 3 := by omega
          obtain ⟨j, hj⟩ : ∃ j, 3 * i + k = j := ⟨_, rfl⟩
          have hj64 : j < 64 := by omega
          have hj64' : (j : Int) < 64 := by omega
          have cx : wq.cell? ⟨x, j, none⟩ = some (.int .u8 ((at8 p j).toNat : Int)) := by
            rw [cell_of_row wq x j _ _ _ hx, List.getElem?_toArray, Hpv.out, List.getElem?_map, at8_take_list (by omega), ← cu8N]; rfl
          have cz : wq.cell? ⟨z, i, none⟩ = some (.int .i64 (lowN p (3 * i) k : Nat)) := by
            rw [cell_of_row wq z i _ _ _ hz, List.getElem?_toArray, cellsL, List.getElem?_map, partL_at p hlt]; rfl
          have fz : wq.frozen? ⟨z, i, none⟩ = false := by simp [World.frozen?, hz]
          have hor := low_or p (3 * i) hkl
          rw [hj] at hor
          have hset : (wq.drew.setCell ⟨z, i, none⟩ (.int .i64 (lowN p (3 * i) (k + 1) : Nat))).heap[z]? = some (.cells (cellsL (partL p i (k + 1))).toArray 126 (0, 0)) := by
            have hzd : wq.drew.heap[z]? = some (.cells (cellsL (partL p i k)).toArray 126 (0, 0)) := hz
            rw [← partL_set p hlt, cellsL, List.map_set]
            simp [World.setCell, Array.getElem?_modify, hzd, cellsL]
          have hg := grown_setCell wq.drew ⟨z, i, none⟩ (.int .i64 (lowN p (3 * i) (k + 1) : Nat))
          have hxl := (Array.getElem?_eq_some_iff.1 hx).1
          have hyl := (Array.getElem?_eq_some_iff.1 hy).1
          have hx' := (hg.block x hxl (by simp; omega)).trans hx
          have hy' := (hg.block y hyl (by simp; omega)).trans hy
          have hb' : Below x w (wq.drew.setCell ⟨z, i, none⟩ (.int .i64 (lowN p (3 * i) (k + 1) : Nat))) := hb.drew.trans ((Only.of_grown (F := fun j => j = z) hg (fun j e => by simpa using e.symm)).base (by show x ≤ wq.heap.size; omega) (fun j hj => by have e : j = z := hj; omega))
          obtain ⟨L0, hL0⟩ : ∃ L0, lowN p (3 * i) k = L0 := ⟨_, rfl⟩
          obtain ⟨L1, hL1⟩ : ∃ L1, lowN p (3 * i) (k + 1) = L1 := ⟨_, rfl⟩
          obtain ⟨C, hC⟩ : ∃ C : Nat, (at8 p j).toNat = C := ⟨_, rfl⟩
          have hC256 : C < 256 := by rw [← hC]; exact (at8 p j).toNat_lt
          rw [hL0] at cz hor
          rw [hL1] at hor hset hb' hx' hy'
          rw [hC] at cx hor
          have w1 : IntKind.i64.wrap (3 * (i : Int)) = 3 * (i : Int) := IntWalk.i64_in _ (by omega)
          have w2 : IntKind.i64.wrap (3 * (i : Int) + (k : Int)) = (j : Int) := by rw [IntWalk.i64_in _ (by omega)]; omega
          have w3 : IntKind.i64.wrap (C : Int) = (C : Int) := IntWalk.i64_in _ (by omega)
          have w4 : IntKind.i64.wrap (8 * (k : Int)) = 8 * (k : Int) := IntWalk.i64_in _ (by omega)
          have n1 : (8 * (k : Int)).toNat = 8 * k := by omega
          have HX := Lib.hid hx'; have HY := Lib.hid hy'; have HB := Lib.hid hb'; have HZ := Lib.hid hset
          clear hset hg hx hy hz hx' hy' hb' hb hC hL0 hL1 hj
          go_wp2_with fail
          go_still_tail 14, (by kernel_rfl)
          change wpList _ _ _ _ _ wq.drew
          go_wp2
          go_roundg (3 - (k + 1))
          case measure => omega
          case rel => exact ⟨k + 1, rfl, by omega, by go_num, HB.out, HX.out, HY.out, HZ.out⟩
        · obtain rfl : k = 3 := by omega
          rw [partL_next] at hz
          have HX := Lib.hid hx; have HY := Lib.hid hy; have HB := Lib.hid hb; have HZ := Lib.hid hz
          clear hx hy hb hz hkl
          go_wp2
          go_roundg (16 - (i + 1))
          case measure => omega
          case rel => exact ⟨i + 1, rfl, by omega, by go_num, HB.out, HX.out, HY.out, HZ.out⟩
    · obtain rfl : i = 16 := by omega
      clear hlt
      rw [partL_done] at hz
      have htl := toldL_len p
      obtain ⟨qv, Hqv⟩ : ∃ qv : List Value, Hid (qv = cellsL (toldL p)) := ⟨_, rfl⟩
      rw [← Hqv.out] at hz
      have hql : qv.length = 16 := by rw [Hqv.out, cellsL_len, htl]
      have hqi : Hid ((Tryz.prog.info? 126).map (·.size) = some qv.toArray.size) := by rw [List.size_toArray, hql]; exact infoLeaf
      have hqz : Hid (zn.size = qv.toArray.size) := by
        have e : qv.toArray.size = 16 := by rw [List.size_toArray, hql]
        rw [e, Hzn.out]; exact (rfl : (cellsL noneL).toArray.size = 16)
      have hq1 : Hid (qv.toArray.all (·.oneCell') = true) := by rw [Hqv.out]; exact cellsL_one _
      have HX := Lib.hid hx; have HB := Lib.hid hb
      clear hx hb
      go_wp2_with (first
        | (refine wpList_load_row rfl 126 _ rfl z rfl 126 qv.toArray (0, 0) _ hz Tryz.underlying126 rfl hqi.out ?_)
        | (refine wpList_store_row rfl 126 _ _ rfl y qv.toArray rfl rfl 126 zn hy hqi.out hqz.out hq1.out ?_))
      have hb8 := below_setRow (g := y) HB.out (by omega) qv.toArray
      refine bodyPost_ret (v := .agg qv.toArray) ?_ rfl ⟨by rw [Hqv.out]; rfl, by rw [Hxe.out]; exact hb8⟩
      exact results_cell_row (ty := 126) rfl _ _ y 126 _ (0, 0) _ rfl (setRow_heap _ _ _ _ _ _ hy) Tryz.underlying126 rfl hqi.out
end
end Go.Proofs.YtfagnbjjffjcbaaGreatDoor
