/-
  Package radix: a leaf's page.
-/
import Derived.Test.YtfagnbjjffjcbaaGreatDoorRxTold
set_option linter.unusedSimpArgs false
set_option linter.unusedVariables false
namespace Go.Proofs.YtfagnbjjffjcbaaGreatDoor
open Go.RowKit Sh Go.Maps Go.Extern.Stop Go.Stop Go.Extern

def preP (q : List UInt8) (m : Nat) : List UInt8 := q.take m ++ List.replicate (64 - m) 0
theorem preP_len {q : List UInt8} (hq : q.length = 64) {m : Nat} (hm : m ≤ 64) : (preP q m).length = 64 := by simp [preP, hq]; omega
theorem preP_next {q : List UInt8} (hq : q.length = 64) {m : Nat} (hm : m < 64) : (preP q m).set m (at8 q m) = preP q (m + 1) := by
  unfold preP
  have e : 64 - m = (64 - (m + 1)) + 1 := by omega
  rw [e, List.replicate_succ, List.take_add_one, at8_take_list (by omega)]
  have h1 : (q.take m).length = m := by rw [List.length_take]; omega
  rw [List.set_append_right _ _ (by omega), h1]
  simp
theorem drop48 (l : List Nat) : (pageL l).drop 48 = List.replicate 16 0 := by rfl
theorem preP_done (l : List Nat) : preP (pageL l) 48 = pageL l := by
  show (pageL l).take 48 ++ List.replicate 16 0 = pageL l
  rw [← drop48 l, List.take_append_drop]
theorem byteI (x m : Nat) : IntKind.u8.wrap ((x : Int) / 2 ^ m) = ((UInt8.ofNat (x / 2 ^ m)).toNat : Int) := by
  rw [UInt8.toNat_ofNat', IntKind.wrap_u8]
  have : ((x : Int) / 2 ^ m) = ((x / 2 ^ m : Nat) : Int) := by simp
  rw [this]; omega
section
variable {w : World}
set_option maxRecDepth 100000 in
set_option maxHeartbeats 8000000 in
theorem lpage_any (l : List Nat) (hl : l.length = 16) (hs : ∀ x ∈ l, x < 16777216) : Calls Tryz.prog 72 #[leafV l] w (RetQ (pageV (pageL l)) w) := by
  obtain ⟨lv, Hlv⟩ : ∃ lv : List Value, Hid (lv = cellsL l) := ⟨_, rfl⟩
  have hV : leafV l = .agg lv.toArray := by rw [Hlv.out]; rfl
  have hvl : lv.length = 16 := by rw [Hlv.out, cellsL_len, hl]
  have hli : Hid ((Tryz.prog.info? 126).map (·.size) = some lv.toArray.size) := by rw [List.size_toArray, hvl]; exact infoLeaf
  obtain ⟨zl, Hzl⟩ : ∃ zl : List Value, Hid (zl = (List.replicate 64 (0 : UInt8)).map cu8) := ⟨_, rfl⟩
  have hzl : zl.length = 64 := by rw [Hzl.out]; simp
  have hal : ∀ w : World, (Instr.alloc 65 true (.tuple #[])).run Tryz.prog w = .ok (.pointer (some ⟨w.heap.size, 0, none⟩)) (w.alloc (.cells zl.toArray 65)) := by
    rw [Hzl.out, ← zerosV]; exact alloc64
  have hb1 : Below w.heap.size w (w.alloc (.cells lv.toArray 126)) := (Below.refl _ _).alloc (Nat.le_refl _) _
  have hb2 := hb1.alloc hb1.size (.cells zl.toArray 65)
  have hb3 := hb2.alloc hb2.size (.cells zl.toArray 65)
  have hx : (((w.alloc (.cells lv.toArray 126)).alloc (.cells zl.toArray 65)).alloc (.cells zl.toArray 65)).heap[w.heap.size]? = some (.cells lv.toArray 126 (0, 0)) := by
    rw [Below.heap_alloc _ _ _ (by simp; omega), Below.heap_alloc _ _ _ (by simp)]; exact heap_alloc_new w _
  have hy : (((w.alloc (.cells lv.toArray 126)).alloc (.cells zl.toArray 65)).alloc (.cells zl.toArray 65)).heap[w.heap.size + 1]? = some (.cells zl.toArray 65 (0, 0)) := by
    rw [Below.heap_alloc _ _ _ (by simp)]
    have := heap_alloc_new (w.alloc (.cells lv.toArray 126)) (.cells zl.toArray 65)
    simpa using this
  have hz : (((w.alloc (.cells lv.toArray 126)).alloc (.cells zl.toArray 65)).alloc (.cells zl.toArray 65)).heap[w.heap.size + 1 + 1]? = some (.cells zl.toArray 65 (0, 0)) := by
    have := heap_alloc_new ((w.alloc (.cells lv.toArray 126)).alloc (.cells zl.toArray 65)) (.cells zl.toArray 65)
    simpa using this
  have Hix := Lib.hid (show ∀ (i x : Nat), l[i]? = some x → i < 16 → ∀ W : World, (Instr.index 126 (.agg lv.toArray) (.int .i64 (i : Int))).run Tryz.prog W = .ok (.int .i64 (x : Int)) W from fun i x hx hi W =>
    run_index_row _ _ 16 Tryz.underlying126 Tryz.underlying3 (by kernel_rfl) lv.toArray i hi _ (by rw [List.getElem?_toArray, Hlv.out, cellsL, List.getElem?_map, hx]; rfl) W)
  rw [hV]
  clear hV hb1 hb2
  go_enter Tryz.func72, Tryz.ntmps72
  go_upto_region 2 with (first
    | (refine wpList_alloc_arr rfl 65 rfl _ hal ?_))
  try simp only [World.size_alloc]
  generalize ((w.alloc (.cells lv.toArray 126)).alloc (.cells zl.toArray 65)).alloc (.cells zl.toArray 65) = wa at hx hy hz hb3 ⊢
  obtain ⟨x, hxe⟩ : ∃ x, w.heap.size = x := ⟨_, rfl⟩
  obtain ⟨y, hye⟩ : ∃ y, x + 1 = y := ⟨_, rfl⟩
  obtain ⟨z, hze⟩ : ∃ z, y + 1 = z := ⟨_, rfl⟩
  rw [hxe] at hx hy hz hb3 ⊢
  rw [hye] at hy hz ⊢
  rw [hze] at hz ⊢
  have hpl := pageL_len l
  obtain ⟨q, Hq⟩ : ∃ q, Hid (q = pageL l) := ⟨_, rfl⟩
  have hql : q.length = 64 := by rw [Hq.out]; exact hpl
  have hz0 : wa.heap[z]? = some (.cells ((preP q 0).map cu8).toArray 65 (0, 0)) := by
    rw [hz, Hzl.out]; rfl
  have Hxe := Lib.hid hxe
  have hxyz : x < y ∧ y < z := by omega
  clear hz hxe hye hze hal hpl
  go_wp2_with (first
    | (refine wpList_load_row rfl 126 _ rfl x rfl 126 lv.toArray (0, 0) _ hx Tryz.underlying126 rfl hli.out ?_))
  clear hx
  go_loopg [8] 16 (fun m v wr => ∃ i : Nat, m = 16 - i ∧ i ≤ 16 ∧ v = .int .i64 i ∧ Below x w wr ∧ wr.heap[y]? = some (.cells zl.toArray 65 (0, 0)) ∧ wr.heap[z]? = some (.cells ((preP q (3 * i)).map cu8).toArray 65 (0, 0)))
  case atStart => exact ⟨0, rfl, by omega, rfl, hb3, hy, hz0⟩
  case round =>
    clear hy hz0 hb3
    obtain ⟨i, rfl, hi, rfl, hb, hy, hz⟩ := hrel
    by_cases hlt : i < 16
    · have hlt' : (i : Int) < 16 := by omega
      obtain ⟨X, hX⟩ : ∃ X, l[i]? = some X := ⟨_, List.getElem?_eq_getElem (by omega)⟩
      have hX24 : X < 16777216 := hs X (List.mem_of_getElem? hX)
      have hix := Hix.out i X hX hlt
      have Hby := Lib.hid (show ∀ k, k < 3 → at8 q (3 * i + k) = UInt8.ofNat (X / 2 ^ (8 * k)) from fun k hk => by
        rw [Hq.out, at8_pageL l (by omega), show (3 * i + k) / 3 = i by omega, show (3 * i + k) % 3 = k by omega, List.getD_eq_getElem?_getD, hX, Nat.pow_mul]
        rfl)
      have HB0 := Lib.hid hb; have HY0 := Lib.hid hy; have HZ0 := Lib.hid hz
      clear hb hy hz hX
      go_wp2
      go_loopg [12] 3 (fun m v wr => ∃ k : Nat, m = 3 - k ∧ k ≤ 3 ∧ v = .int .i64 k ∧ Below x w wr ∧ wr.heap[y]? = some (.cells zl.toArray 65 (0, 0)) ∧ wr.heap[z]? = some (.cells ((preP q (3 * i + k)).map cu8).toArray 65 (0, 0)))
      case atStart => exact ⟨0, rfl, by omega, rfl, HB0.out, HY0.out, HZ0.out⟩
      case round =>
        clear HB0 HY0 HZ0
        rename World => wq
        obtain ⟨k, rfl, hk, rfl, hb, hy, hz⟩ := hrel
        by_cases hkl : k < 3
        · have hkl' : (k : Int) < 3 := by omega
          have hby := Hby.out k hkl
          obtain ⟨j, hj⟩ : ∃ j, 3 * i + k = j := ⟨_, rfl⟩
          have hj1 : 3 * i + (k + 1) = j + 1 := by omega
          rw [hj] at hz hby
          have hj64 : j < 64 := by omega
          have hj64' : (j : Int) < 64 := by omega
          have cz : ∃ u, wq.cell? ⟨z, j, none⟩ = some u := by
            rw [cell_of_row wq z j _ _ _ hz, List.getElem?_toArray]
            exact ⟨_, List.getElem?_eq_getElem (by rw [List.length_map, preP_len hql (by omega)]; exact hj64)⟩
          obtain ⟨u, cz⟩ := cz
          have fz : wq.frozen? ⟨z, j, none⟩ = false := by simp [World.frozen?, hz]
          have hv := byteI X (8 * k)
          rw [← hby] at hv
          have hset : (wq.setCell ⟨z, j, none⟩ (.int .u8 ((at8 q j).toNat : Int))).heap[z]? = some (.cells ((preP q (j + 1)).map cu8).toArray 65 (0, 0)) := by
            rw [← preP_next hql hj64, List.map_set, cu8N]
            simp [World.setCell, Array.getElem?_modify, hz]
          have hg := grown_setCell wq ⟨z, j, none⟩ (.int .u8 ((at8 q j).toNat : Int))
          have hyl := (Array.getElem?_eq_some_iff.1 hy).1
          have hy' := (hg.block y hyl (by simp; omega)).trans hy
          have hb' : Below x w (wq.setCell ⟨z, j, none⟩ (.int .u8 ((at8 q j).toNat : Int))) := hb.trans ((Only.of_grown (F := fun j => j = z) hg (fun j e => by simpa using e.symm)).base (by omega) (fun j hj => by have e : j = z := hj; omega))
          obtain ⟨C, hC⟩ : ∃ C : Nat, (at8 q j).toNat = C := ⟨_, rfl⟩
          rw [hC] at hv hset hb' hy'
          have w1 : IntKind.i64.wrap (3 * (i : Int)) = 3 * (i : Int) := IntWalk.i64_in _ (by omega)
          have w2 : IntKind.i64.wrap (3 * (i : Int) + (k : Int)) = (j : Int) := by rw [IntWalk.i64_in _ (by omega)]; omega
          have w4 : IntKind.i64.wrap (8 * (k : Int)) = 8 * (k : Int) := IntWalk.i64_in _ (by omega)
          have n1 : (8 * (k : Int)).toNat = 8 * k := by omega
          have HY := Lib.hid hy'; have HB := Lib.hid hb'; have HZ := Lib.hid hset
          have HJ := Lib.hid hj1
          clear hset hg hy hz hy' hb' hb hC hj hj1 hby
          go_wp2
          go_roundg (3 - (k + 1))
          case measure => omega
          case rel => exact ⟨k + 1, rfl, by omega, by go_num, HB.out, HY.out, by rw [HJ.out]; exact HZ.out⟩
        · obtain rfl : k = 3 := by omega
          have HY := Lib.hid hy; have HB := Lib.hid hb; have HZ := Lib.hid hz
          clear hy hb hz hkl
          go_wp2
          go_roundg (16 - (i + 1))
          case measure => omega
          case rel => exact ⟨i + 1, rfl, by omega, by go_num, HB.out, HY.out, HZ.out⟩
    · obtain rfl : i = 16 := by omega
      clear hlt
      have e48 : preP q (3 * 16) = q := by rw [Hq.out]; exact preP_done l
      rw [e48] at hz
      obtain ⟨qv, Hqv⟩ : ∃ qv : List Value, Hid (qv = q.map cu8) := ⟨_, rfl⟩
      rw [← Hqv.out] at hz
      have hqi : Hid ((Tryz.prog.info? 65).map (·.size) = some qv.toArray.size) := by rw [Hqv.out]; exact pageInfo hql
      have hqz : Hid (zl.toArray.size = qv.toArray.size) := by
        have e : qv.toArray.size = 64 := by rw [List.size_toArray, Hqv.out]; simp [hql]
        rw [e, List.size_toArray]; exact hzl
      have hq1 : Hid (qv.toArray.all (·.oneCell') = true) := by rw [Hqv.out]; exact bytes_one _
      have HB := Lib.hid hb
      clear hb e48
      go_wp2_with (first
        | (refine wpList_load_row rfl 65 _ rfl z rfl 65 qv.toArray (0, 0) _ hz Tryz.underlying65 rfl hqi.out ?_)
        | (refine wpList_store_row rfl 65 _ _ rfl y qv.toArray rfl rfl 65 zl.toArray hy hqi.out hqz.out hq1.out ?_))
      have hb8 := below_setRow (g := y) HB.out (by omega) qv.toArray
      refine bodyPost_ret (v := .agg qv.toArray) ?_ rfl ⟨by rw [Hqv.out, Hq.out]; rfl, by rw [Hxe.out]; exact hb8⟩
      exact results_cell_row (ty := 65) rfl _ _ y 65 _ (0, 0) _ rfl (setRow_heap _ _ _ _ _ _ hy) Tryz.underlying65 rfl hqi.out
end
end Go.Proofs.YtfagnbjjffjcbaaGreatDoor
