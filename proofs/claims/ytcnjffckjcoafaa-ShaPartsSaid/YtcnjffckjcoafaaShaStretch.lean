/-
  The numbers of a block: the walk of 'stretch'.
-/
import Derived.Test.YtcnjffckjcoafaaShaTurn
import Derived.Deep.LoopGhost
import Derived.Deep.OwnRows
import Derived.StillTailTactics
import Derived.Deep.Light
import Derived.Lib.Hide
import Derived.Laws.CopyOwn
namespace Go.Proofs.Ytcnjffckjcoafaa
open Go.RowKit Sh

/-- What lies in the row of 64 numbers when the first of them are told. -/
def wRow (l : List UInt32) (i : Nat) : Value := cu32 (at32 l i)
attribute [local go_sem] Sh.conv8 Sh.shl24 Sh.shl16 Sh.shl8 Sh.or32 Sh.conv8' Sh.shl24' Sh.shl16' Sh.shl8' Sh.xor32 Sh.add32 Sh.add32' Sh.xor32_3 Sh.xor32_10

/-- The facts on the four places of a number. -/
structure Four (k : Nat) : Prop where
  e0 : IntKind.i64.wrap (4 * (k : Int)) = 4 * (k : Int)
  e1 : IntKind.i64.wrap (4 * (k : Int) + 1) = 4 * (k : Int) + 1
  e2 : IntKind.i64.wrap (4 * (k : Int) + 2) = 4 * (k : Int) + 2
  e3 : IntKind.i64.wrap (4 * (k : Int) + 3) = 4 * (k : Int) + 3
  n0 : (4 * (k : Int)).toNat = 4 * k
  n1 : (4 * (k : Int) + 1).toNat = 4 * k + 1
  n2 : (4 * (k : Int) + 2).toNat = 4 * k + 2
  n3 : (4 * (k : Int) + 3).toNat = 4 * k + 3
  m0 : 0 ≤ 4 * (k : Int)
  m1 : 0 ≤ 4 * (k : Int) + 1
  m2 : 0 ≤ 4 * (k : Int) + 2
  m3 : 0 ≤ 4 * (k : Int) + 3
theorem four (k : Nat) (h : k < 1000000) : Four k :=
  ⟨IntWalk.i64_in _ (by omega), IntWalk.i64_in _ (by omega), IntWalk.i64_in _ (by omega), IntWalk.i64_in _ (by omega), by omega, by omega, by omega, by omega, by omega, by omega, by omega, by omega⟩

/-- The world of 'stretch' when i numbers are told. -/
structure StW (w wr : World) (p : List UInt8) (k : Nat) : Prop where
  below : Below w.heap.size w wr
  blk : wr.rowIs w.heap.size 42 64 (fun j => cu8 (at8 p j))
  res : ∃ c : Array Value, wr.heap[w.heap.size + 1]? = some (.cells c 51 (0, 0)) ∧ c.size = 64
  row : wr.rowIs (w.heap.size + 1 + 1) 51 64 (wRow (sched p k))

theorem stW_set {w wr : World} {p : List UInt8} {k : Nat} (h : StW w wr p k) (x : UInt32) (hx : ∀ j, at32 (sched p (k + 1)) j = if j = k then x else at32 (sched p k) j) :
    StW w (wr.setCell ⟨w.heap.size + 1 + 1, k, none⟩ (.int .u32 (uz x))).drew p (k + 1) := by
  obtain ⟨c, hc, hn⟩ := h.res
  refine ⟨(h.below.setCell (by show w.heap.size ≤ w.heap.size + 1 + 1; omega) _).drew, (h.blk.setOther (by show w.heap.size ≠ w.heap.size + 1 + 1; omega) _).drew, ⟨c, ?_, hn⟩, ((h.row.set k _).congr fun j hj => ?_).drew⟩
  · show (World.setCell _ _ _).heap[_]? = _
    rw [heap_setCell_other _ _ _ _ (by show w.heap.size + 1 ≠ w.heap.size + 1 + 1; omega)]; exact hc
  · show (if j = k then cu32 x else wRow (sched p k) j) = _
    unfold wRow
    rw [hx j]
    split <;> rfl

theorem stW_drewN {w wr : World} {p : List UInt8} {k : Nat} (h : StW w wr p k) (n : Nat) : StW w (wr.drewN n) p k :=
  ⟨h.below.trans ⟨rfl, rfl, rfl, Nat.le_refl _, fun _ _ => rfl⟩, h.blk, h.res, h.row⟩

theorem rowIs_list {w : World} {b : Nat} {t : TypeId} (l : List Value) (f : Nat → Value) (fr0 : w.heap[b]? = some (.cells l.toArray t (0, 0))) (hf : ∀ i (h : i < l.length), l[i] = f i) : w.rowIs b t l.length f :=
  ⟨l.toArray, fr0, by simp, fun i hi => by simp [hi, hf i hi]⟩

/-- The row as a list. -/
theorem rowIs_eq {w : World} {b : Nat} {t : TypeId} {n : Nat} {f : Nat → Value} (h : w.rowIs b t n f) : w.heap[b]? = some (.cells ((List.range n).map f).toArray t (0, 0)) := by
  obtain ⟨c, hc, hn, hf⟩ := h
  rw [hc]
  congr 2
  apply Array.ext_getElem?
  intro i
  by_cases hi : i < n
  · rw [hf i hi]; simp [hi]
  · rw [Array.getElem?_eq_none (by omega), Array.getElem?_eq_none (by simp; omega)]
theorem list_eq_range (l : List UInt32) (n : Nat) (h : l.length = n) : (List.range n).map (wRow l) = l.map cu32 := by
  apply List.ext_getElem?
  intro i
  by_cases hi : i < n
  · simp [hi, wRow, at32, List.getD_eq_getElem?_getD, List.getElem?_eq_getElem (h ▸ hi)]
  · rw [List.getElem?_eq_none (by simp; omega), List.getElem?_eq_none (by simp; omega)]

set_option maxRecDepth 100000 in
theorem stW_start (p : List UInt8) (hp : p.length = 64) (w : World) (c1 c2 : Array Value) (h1 : c1.size = 64) (h2 : c2 = (List.replicate 64 (Value.int .u32 0)).toArray) :
    StW w (((w.alloc (.cells (p.map cu8).toArray 42)).alloc (.cells c1 51)).alloc (.cells c2 51)) p 0 := by
  refine ⟨(((Below.refl _ _).alloc (Nat.le_refl _) _).alloc (by simp) _).alloc (by simp; omega) _, ?_, ⟨c1, ?_, h1⟩, ?_⟩
  · have := World.rowIs_alloc w (p.map cu8).toArray 42 (fun j => cu8 (at8 p j)) (fun i hi => by
      simp at hi
      simp [at8, List.getD_eq_getElem?_getD, List.getElem?_eq_getElem hi])
    simp only [List.size_toArray, List.length_map, hp] at this
    exact (this.alloc _).alloc _
  · rw [Below.heap_alloc _ _ _ (by simp)]
    have := heap_alloc_new (w.alloc (.cells (p.map cu8).toArray 42)) (.cells c1 51)
    simpa using this
  · have := World.rowIs_alloc ((w.alloc (.cells (p.map cu8).toArray 42)).alloc (.cells c1 51)) c2 51 (wRow (sched p 0)) (fun i hi => by
      subst h2
      rw [List.size_toArray, List.length_replicate] at hi
      rw [List.getElem?_toArray, List.getElem?_replicate, if_pos hi]; rfl)
    have h3 : c2.size = 64 := by rw [h2, List.size_toArray, List.length_replicate]
    rw [h3] at this
    simpa using this

set_option maxRecDepth 100000 in
set_option maxHeartbeats 1000000 in
theorem stretch_any (p : List UInt8) (hp : p.length = 64) (w : World) :
    Calls Try.prog 21 #[.agg (p.map cu8).toArray] w fun e w' => e = .returned (.agg ((sched p 64).map cu32).toArray) ∧ Below w.heap.size w w' := by
  go_enter Try.func21, Try.ntmps21
  go_wp2
  go_loopg [10] 16 (fun g i wr => ∃ k : Nat, k ≤ 16 ∧ g = 16 - k ∧ i = .int .i64 k ∧ StW w wr p k)
  case atStart => exact ⟨0, by omega, rfl, rfl, stW_start p hp w _ _ (by kernel_rfl) (by kernel_rfl)⟩
  case round =>
    obtain ⟨k, hk, rfl, rfl, hS⟩ := hrel
    by_cases hlt : k < 16
    · have hlt' : (k : Int) < 16 := by omega
      have c0 : wr.cell? ⟨w.heap.size, 4 * k, none⟩ = some (.int .u8 (bz (at8 p (4 * k)))) := hS.blk.cell (by omega)
      have c1 : wr.cell? ⟨w.heap.size, 4 * k + 1, none⟩ = some (.int .u8 (bz (at8 p (4 * k + 1)))) := hS.blk.cell (by omega)
      have c2 : wr.cell? ⟨w.heap.size, 4 * k + 2, none⟩ = some (.int .u8 (bz (at8 p (4 * k + 2)))) := hS.blk.cell (by omega)
      have c3 : wr.cell? ⟨w.heap.size, 4 * k + 3, none⟩ = some (.int .u8 (bz (at8 p (4 * k + 3)))) := hS.blk.cell (by omega)
      have c4 : wr.cell? ⟨w.heap.size + 1 + 1, k, none⟩ = some (wRow (sched p k) k) := hS.row.cell (by omega)
      have c5 : wr.frozen? ⟨w.heap.size + 1 + 1, k, none⟩ = false := hS.row.frozen k
      obtain ⟨e0, e1, e2, e3, n0, n1, n2, n3, m0, m1, m2, m3⟩ := four k (by omega)
      have l0 : 4 * (k : Int) < 64 := by omega
      have l1 : 4 * (k : Int) + 1 < 64 := by omega
      have l2 : 4 * (k : Int) + 2 < 64 := by omega
      have l3 : 4 * (k : Int) + 3 < 64 := by omega
      have l4 : (k : Int) < 64 := by omega
      go_wp2_with fail
      go_still_tail 31, (by kernel_rfl)
      change wpList _ _ _ _ _ wr.drew
      go_wp2
      go_roundg (16 - (k + 1))
      case measure => omega
      case rel => exact ⟨k + 1, by omega, rfl, by go_num, stW_set hS _ (sched_low p k hlt)⟩
    · obtain rfl : k = 16 := by omega
      go_wp2
      go_loopg [5] 48 (fun g i wr => ∃ k : Nat, 16 ≤ k ∧ k ≤ 64 ∧ g = 64 - k ∧ i = .int .i64 k ∧ StW w wr p k)
      case atStart => exact ⟨16, by omega, by omega, rfl, rfl, hS⟩
      case round =>
        clear hS
        obtain ⟨k, hk1, hk2, rfl, rfl, hS⟩ := hrel
        by_cases hlt : k < 64
        · have hlt' : (k : Int) < 64 := by omega
          have c0 : wr.cell? ⟨w.heap.size + 1 + 1, k - 15, none⟩ = some (.int .u32 (uz (at32 (sched p k) (k - 15)))) := hS.row.cell (by omega)
          have c1 : wr.cell? ⟨w.heap.size + 1 + 1, k - 2, none⟩ = some (.int .u32 (uz (at32 (sched p k) (k - 2)))) := hS.row.cell (by omega)
          have c2 : wr.cell? ⟨w.heap.size + 1 + 1, k - 16, none⟩ = some (.int .u32 (uz (at32 (sched p k) (k - 16)))) := hS.row.cell (by omega)
          have c3 : wr.cell? ⟨w.heap.size + 1 + 1, k - 7, none⟩ = some (.int .u32 (uz (at32 (sched p k) (k - 7)))) := hS.row.cell (by omega)
          have c4 : wr.cell? ⟨w.heap.size + 1 + 1, k, none⟩ = some (wRow (sched p k) k) := hS.row.cell (by omega)
          have c5 : wr.frozen? ⟨w.heap.size + 1 + 1, k, none⟩ = false := hS.row.frozen k
          have e0 : IntKind.i64.wrap ((k : Int) - 15) = (k : Int) - 15 := IntWalk.i64_in _ (by omega)
          have e1 : IntKind.i64.wrap ((k : Int) - 2) = (k : Int) - 2 := IntWalk.i64_in _ (by omega)
          have e2 : IntKind.i64.wrap ((k : Int) - 16) = (k : Int) - 16 := IntWalk.i64_in _ (by omega)
          have e3 : IntKind.i64.wrap ((k : Int) - 7) = (k : Int) - 7 := IntWalk.i64_in _ (by omega)
          have n0 : ((k : Int) - 15).toNat = k - 15 := by omega
          have n1 : ((k : Int) - 2).toNat = k - 2 := by omega
          have n2 : ((k : Int) - 16).toNat = k - 16 := by omega
          have n3 : ((k : Int) - 7).toNat = k - 7 := by omega
          have l0 : (k : Int) - 15 < 64 := by omega
          have l1 : (k : Int) - 2 < 64 := by omega
          have l2 : (k : Int) - 16 < 64 := by omega
          have l3 : (k : Int) - 7 < 64 := by omega
          have m0 : 15 ≤ (k : Int) := by omega
          have m1 : 2 ≤ (k : Int) := by omega
          have m2 : 16 ≤ (k : Int) := by omega
          have m3 : 7 ≤ (k : Int) := by omega
          go_wp2_with fail
          go_quiet (fail)
          go_wp2_with (go_at_call 23; refine (turn_any _ _ _ (by omega) (by omega)).mono ?_; rintro e w' ⟨rfl, m, rfl⟩)
          clear c0 c1 c2 c3 c4 c5
          refine (?_ : ∀ w2 : World, StW w w2 p k → Code.wp _ _ _ _ w2) _ (stW_drewN hS _)
          clear hS
          intro w2 hS2
          have c2 : w2.cell? ⟨w.heap.size + 1 + 1, k - 16, none⟩ = some (.int .u32 (uz (at32 (sched p k) (k - 16)))) := hS2.row.cell (by omega)
          have c3 : w2.cell? ⟨w.heap.size + 1 + 1, k - 7, none⟩ = some (.int .u32 (uz (at32 (sched p k) (k - 7)))) := hS2.row.cell (by omega)
          have c4 : w2.cell? ⟨w.heap.size + 1 + 1, k, none⟩ = some (wRow (sched p k) k) := hS2.row.cell (by omega)
          have c5 : w2.frozen? ⟨w.heap.size + 1 + 1, k, none⟩ = false := hS2.row.frozen k
          go_still_tail 15, (by kernel_rfl)
          change wpList _ _ _ _ _ w2.drew
          go_wp2
          go_roundg (64 - (k + 1))
          case measure => omega
          case rel => exact ⟨k + 1, by omega, by omega, rfl, by go_num, stW_set hS2 _ (sched_high p k (by omega))⟩
        · obtain rfl : k = 64 := by omega
          have HR := rowIs_eq hS.row
          rw [list_eq_range _ _ (sched_length p 64)] at HR
          obtain ⟨c, hc, hn⟩ := hS.res
          have H1 := Lib.hid HR; clear HR
          have H2 := Lib.hid hc; clear hc
          have hb := hS.below
          have hl : ((sched p 64).map cu32).toArray.size = 64 := by rw [List.size_toArray, List.length_map, sched_length]
          have H3 := Lib.hid hl; clear hl
          have H4 := Lib.hid hn; clear hn
          clear hS hk1 hk2 hlt
          go_wp2_with (first | (refine wpList_load_row rfl 51 _ rfl (w.heap.size + 1 + 1) rfl 51 _ (0, 0) _ H1.out Try.underlying51 rfl ?_ ?_) | (refine wpList_store_row rfl 51 _ _ rfl (w.heap.size + 1) _ rfl rfl 51 c H2.out ?_ ?_ ?_ ?_))
          · rw [H3.out]; kernel_rfl
          · rw [H3.out]; kernel_rfl
          · rw [H3.out]; exact H4.out
          · exact all_oneCell_toArray (fun v hv => by obtain ⟨x, _, rfl⟩ := List.mem_map.1 hv; rfl)
          · refine bodyPost_ret (v := .agg ((sched p 64).map cu32).toArray) ?_ rfl ⟨rfl, below_setRow hb (by omega) _⟩
            exact results_cell_row (ty := 51) rfl _ _ (w.heap.size + 1) 51 _ (0, 0) _ rfl (setRow_heap _ _ _ _ _ _ H2.out) Try.underlying51 rfl (by rw [H3.out]; kernel_rfl)
end Go.Proofs.Ytcnjffckjcoafaa
