/-
  Package radix: root, leafAt, has, taken, free.
-/
import Derived.Test.YtfagnbjjffjcbaaGreatDoorBkPage
import Derived.Test.YtfagnbjjffjcbaaGreatDoorRxMath
set_option linter.unusedSimpArgs false
set_option linter.unusedVariables false
namespace Go.Proofs.YtfagnbjjffjcbaaGreatDoor
open Go.RowKit Sh Go.Maps Go.Extern.Stop Go.Stop Go.Extern

theorem infoRoots : (Tryz.prog.info? 86).map (·.size) = some 64 := by kernel_rfl
/-- A forest in block x, on the book in block g. -/
def foO (g first n : Nat) : Obj := .cells #[.pointer (some ⟨g, 0, none⟩), .int .i64 first, .int .i64 n] 94 (0, 0)
def FoAt (x g first n : Nat) (w : World) : Prop := w.heap[x]? = some (foO g first n)
def RetQ (v : Value) (w : World) (e : Ending) (w' : World) : Prop := e = .returned v ∧ Below w.heap.size w w'
def SameQ (v : Value) (w : World) (e : Ending) (w' : World) : Prop := e = .returned v ∧ w = w'
theorem cu8N (c : UInt8) : cu8 c = .int .u8 (c.toNat : Int) := by rw [cu8, bz_eq]
section
variable {w w' : World} {x g first n : Nat}
theorem FoAt.cells (h : FoAt x g first n w) : w.cell? ⟨x, 0, none⟩ = some (.pointer (some ⟨g, 0, none⟩)) ∧ w.cell? ⟨x, 1, none⟩ = some (.int .i64 first) ∧ w.cell? ⟨x, 2, none⟩ = some (.int .i64 n) := by
  refine ⟨?_, ?_, ?_⟩ <;> rw [cell_of_row w x _ _ _ _ h] <;> rfl
theorem FoAt.lt (h : FoAt x g first n w) : x < w.heap.size := (Array.getElem?_eq_some_iff.1 h).1
theorem FoAt.below (h : FoAt x g first n w) (hb : Below w.heap.size w w') : FoAt x g first n w' := (hb.block x h.lt).trans h
theorem rroot_any (lun block : Nat) (h1 : lun < 4) (h2 : block < 256) : Calls Tryz.prog 66 #[.int .i64 lun, .int .i64 block] w (SameQ (.int .i64 (lun * 16 + block / 16 : Nat)) w) := by
  obtain ⟨q, hq⟩ : ∃ q, block / 16 = q := ⟨_, rfl⟩
  rw [hq]
  have hd : ((block : Int)).tdiv 16 = (q : Int) := by rw [Int.tdiv_eq_ediv_of_nonneg (by omega)]; omega
  have hq1 : q < 16 := by omega
  have w1 : IntKind.i64.wrap ((lun : Int) * 16) = (lun : Int) * 16 := IntWalk.i64_in _ (by omega)
  have w2 : IntKind.i64.wrap ((q : Int)) = (q : Int) := IntWalk.i64_in _ (by omega)
  have w3 : IntKind.i64.wrap ((lun : Int) * 16 + (q : Int)) = ((lun * 16 + q : Nat) : Int) := by rw [IntWalk.i64_in _ (by omega)]; omega
  clear hq
  go_enter Tryz.func66, Tryz.ntmps66
  go_wp2
  go_ret
  exact ⟨by first | rfl | (congr 2 <;> omega), rfl⟩
theorem leafAt_any (h : FoAt x g first n w) (hf : first ≤ 100000) (c : UInt8) : Calls Tryz.prog 71 #[.pointer (some ⟨x, 0, none⟩), .int .u8 (c.toNat : Int)] w (SameQ (.int .i64 (first + c.toNat : Nat)) w) := by
  obtain ⟨c0, c1, c2⟩ := h.cells
  have hc := c.toNat_lt
  obtain ⟨C, hC⟩ : ∃ C : Nat, c.toNat = C := ⟨_, rfl⟩
  rw [hC] at hc ⊢
  have w1 : IntKind.i64.wrap (C : Int) = (C : Int) := IntWalk.i64_in _ (by omega)
  have w2 : IntKind.i64.wrap ((first : Int) + (C : Int)) = ((first + C : Nat) : Int) := by rw [IntWalk.i64_in _ (by omega)]; omega
  clear h hC
  go_enter Tryz.func71, Tryz.ntmps71
  go_wp2
  go_ret
  exact ⟨by first | rfl | (congr 2 <;> omega), rfl⟩
theorem has_yes (a : Addr) (lun block : Int) (h1 : 0 ≤ lun) (h2 : lun < 4) (h3 : 0 ≤ block) (h4 : block < 256) : Calls Tryz.prog 65 #[.pointer (some a), .int .i64 lun, .int .i64 block] w (SameQ (.bool true) w) := by
  go_enter Tryz.func65, Tryz.ntmps65
  go_wp2
  go_ret
  exact ⟨rfl, rfl⟩
theorem has_nil (lun block : Int) : Calls Tryz.prog 65 #[.pointer none, .int .i64 lun, .int .i64 block] w (SameQ (.bool false) w) := by
  go_enter Tryz.func65, Tryz.ntmps65
  go_wp2
  go_ret
  exact ⟨rfl, rfl⟩
theorem has_no (a : Addr) (lun block : Int) (h : lun < 0 ∨ 4 ≤ lun ∨ block < 0 ∨ 256 ≤ block) : Calls Tryz.prog 65 #[.pointer (some a), .int .i64 lun, .int .i64 block] w (SameQ (.bool false) w) := by
  by_cases h1 : lun < 0
  · have h1' : ¬ (0 ≤ lun) := by omega
    clear h
    go_enter Tryz.func65, Tryz.ntmps65
    go_wp2
    go_ret
    exact ⟨rfl, rfl⟩
  have h1' : 0 ≤ lun := by omega
  by_cases h2 : lun < 4
  case neg =>
    clear h h1
    go_enter Tryz.func65, Tryz.ntmps65
    go_wp2
    go_ret
    exact ⟨rfl, rfl⟩
  by_cases h3 : block < 0
  · have h3' : ¬ (0 ≤ block) := by omega
    clear h h1
    go_enter Tryz.func65, Tryz.ntmps65
    go_wp2
    go_ret
    exact ⟨rfl, rfl⟩
  have h3' : 0 ≤ block := by omega
  have h4 : ¬ (block < 256) := by omega
  clear h h1 h3
  go_enter Tryz.func65, Tryz.ntmps65
  go_wp2
  go_ret
  exact ⟨rfl, rfl⟩
set_option maxRecDepth 100000 in
set_option maxHeartbeats 4000000 in
theorem taken_any (R : List UInt8) (hl : R.length = 64) : Calls Tryz.prog 42 #[pageV R] w (RetQ (.int .i64 (takenR R 4 : Nat)) w) := by
  obtain ⟨rv, Hrv⟩ : ∃ rv : List Value, Hid (rv = R.map cu8) := ⟨_, rfl⟩
  have hV : pageV R = .agg rv.toArray := by rw [Hrv.out]; rfl
  have hb1 : Below w.heap.size w (w.alloc (.cells rv.toArray 86)) := (Below.refl _ _).alloc (Nat.le_refl _) _
  have hx1 : (w.alloc (.cells rv.toArray 86)).heap[w.heap.size]? = some (.cells rv.toArray 86 (0, 0)) := heap_alloc_new w _
  rw [hV]
  clear hV
  go_enter Tryz.func42, Tryz.ntmps42
  go_wp2
  generalize w.alloc (.cells rv.toArray 86) = w1 at hb1 hx1 ⊢
  obtain ⟨y, hy⟩ : ∃ y, w.heap.size = y := ⟨_, rfl⟩
  rw [hy] at hx1 ⊢
  have Hy := Lib.hid hy
  clear hy
  go_loopg [7, 3] 4 (fun m v t wr => ∃ k : Nat, m = 4 - k ∧ k ≤ 4 ∧ v = .int .i64 k ∧ t = .int .i64 (takenR R k : Nat) ∧ wr = w1)
  case atStart => exact ⟨0, rfl, by omega, rfl, rfl, rfl⟩
  case round =>
    obtain ⟨k, rfl, hk, rfl, rfl, rfl⟩ := hrel
    by_cases hlt : k < 4
    · have hlt' : (k : Int) < 4 := by omega
      have Hnx := Lib.hid (show takenR R (k + 1) = takenR R k + if cntR R k 16 = 0 then 0 else 1 + cntR R k 16 from rfl)
      have htl := takenR_le R k
      obtain ⟨T, hT⟩ : ∃ T, takenR R k = T := ⟨_, rfl⟩
      rw [hT] at Hnx htl ⊢
      clear hT
      have wk : IntKind.i64.wrap ((k : Int) * 16) = ((k * 16 : Nat) : Int) := by rw [IntWalk.i64_in _ (by omega)]; omega
      go_wp2
      go_loopg [10, 5] 16 (fun m v c wr' => ∃ j : Nat, m = 16 - j ∧ j ≤ 16 ∧ v = .int .i64 j ∧ c = .int .i64 (cntR R k j : Nat) ∧ wr' = wr)
      case atStart => exact ⟨0, rfl, by omega, rfl, rfl, rfl⟩
      case round =>
        rename World => wq
        obtain ⟨j, rfl, hj, rfl, rfl, rfl⟩ := hrel
        by_cases hjl : j < 16
        · have hjl' : (j : Int) < 16 := by omega
          have wj : IntKind.i64.wrap (((k * 16 : Nat) : Int) + (j : Int)) = ((k * 16 + j : Nat) : Int) := by rw [IntWalk.i64_in _ (by omega)]; omega
          have Hcn := Lib.hid (show cntR R k (j + 1) = cntR R k j + if at8 R (k * 16 + j) = 0 then 0 else 1 from rfl)
          have hcl := cnt_le R k j
          obtain ⟨N, hN⟩ : ∃ N, cntR R k j = N := ⟨_, rfl⟩
          rw [hN] at Hcn hcl ⊢
          have hi64 : k * 16 + j < 64 := by omega
          have ci : wq.cell? ⟨y, k * 16 + j, none⟩ = some (.int .u8 ((at8 R (k * 16 + j)).toNat : Int)) := by
            rw [cell_of_row wq y (k * 16 + j) _ _ _ hx1, List.getElem?_toArray, Hrv.out, List.getElem?_map, at8_take_list (by omega), ← cu8N]; rfl
          obtain ⟨C, hC⟩ : ∃ C : Nat, (at8 R (k * 16 + j)).toNat = C := ⟨_, rfl⟩
          rw [hC] at ci
          by_cases e : C = 0
          · have ez : at8 R (k * 16 + j) = 0 := UInt8.toNat_inj.1 (by rw [hC, e]; rfl)
            have Hc2 := Lib.hid (show cntR R k (j + 1) = N by rw [Hcn.out, if_pos ez, Nat.add_zero])
            subst e
            clear Hcn hC ez hN
            go_wp2
            go_roundg (16 - (j + 1))
            case measure => omega
            case rel => exact ⟨j + 1, rfl, by omega, by go_num, by rw [Hc2.out], rfl⟩
          · have ez : ¬ at8 R (k * 16 + j) = 0 := fun h => e (by rw [← hC, h]; rfl)
            have Hc2 := Lib.hid (show cntR R k (j + 1) = N + 1 by rw [Hcn.out, if_neg ez])
            have e2 : ¬ ((C : Int) = 0) := by omega
            clear Hcn hC ez hN e
            go_wp2
            go_roundg (16 - (j + 1))
            case measure => omega
            case rel => exact ⟨j + 1, rfl, by omega, by go_num, by rw [Hc2.out]; go_num, rfl⟩
        · obtain rfl : j = 16 := by omega
          have hcl := cnt_le R k 16
          obtain ⟨N, hN⟩ : ∃ N, cntR R k 16 = N := ⟨_, rfl⟩
          rw [hN] at Hnx hcl ⊢
          clear hN hjl
          by_cases e : N = 0
          · have Hn2 := Lib.hid (show takenR R (k + 1) = T by rw [Hnx.out, if_pos e, Nat.add_zero])
            subst e
            clear Hnx
            go_wp2
            go_roundg (4 - (k + 1))
            case measure => omega
            case rel => exact ⟨k + 1, rfl, by omega, by go_num, by rw [Hn2.out], rfl⟩
          · have Hn2 := Lib.hid (show takenR R (k + 1) = T + (1 + N) by rw [Hnx.out, if_neg e])
            have e2 : (0 : Int) < (N : Int) := by omega
            clear Hnx e
            go_wp2
            go_roundg (4 - (k + 1))
            case measure => omega
            case rel => exact ⟨k + 1, rfl, by omega, by go_num, by rw [Hn2.out]; go_num, rfl⟩
    · obtain rfl : k = 4 := by omega
      clear hlt
      go_wp2
      go_ret
      exact ⟨rfl, by rw [Hy.out] at hb1; first | exact hb1 | (rw [Hy.out]; exact hb1)⟩
end
end Go.Proofs.YtfagnbjjffjcbaaGreatDoor
