/-
  The program's ring in memory; Room, Fits, Head, Cut, sector.
-/
import Derived.Test.YtegdlpllljccgaaDoorPrDigest
import Derived.Test.YtegdlpllljccgaaDoorPrLast
import Derived.Test.YtegdlpllljccgaaDoorRgBehind
set_option linter.unusedSimpArgs false
set_option linter.unusedVariables false
namespace Go.Proofs.YtegdlpllljccgaaDoor
open Go.RowKit Sh

/-- The program's ring in block g, its disk in block gd. -/
structure PrAt (g gd first n : Nat) (m : Mk) (used : Nat) (w : World) : Prop where
  at_ : w.heap[g]? = some (.cells (ringCells gd first n m used) 98 (0, 0))
  last : m.last.length = 32
/-- What can be said of all rings. -/
structure RingOk (first n : Nat) (m : Mk) (used : Nat) : Prop where
  n0 : 96 ≤ n
  n1 : n ≤ 4096
  first : first ≤ 4096
  place : m.place < n
  num : m.num < 18446744073709551616
  used : used ≤ n
def QuietP (v : Value) (w : World) (e : Ending) (w' : World) : Prop := e = .returned v ∧ ∃ m, w' = w.drewN m
theorem below_drewN (w : World) (m B : Nat) : Below B w (w.drewN m) := ⟨rfl, rfl, rfl, Nat.le_refl _, fun _ _ => rfl⟩
section
variable {g gd first n used : Nat} {m : Mk} {w w' : World}
theorem PrAt.lt (h : PrAt g gd first n m used w) : g < w.heap.size := (Array.getElem?_eq_some_iff.1 h.at_).1
theorem PrAt.cell (h : PrAt g gd first n m used w) (j : Nat) : w.cell? ⟨g, j, none⟩ = (ringCells gd first n m used)[j]? := cell_of_row w g j _ _ _ h.at_
theorem PrAt.cell37 (h : PrAt g gd first n m used w) : w.cell? ⟨g, 37, none⟩ = some (.int .i64 used) := by
  rw [h.cell]
  have : (m.last.map cu8).length = 32 := by simp [h.last]
  simp [ringCells, List.getElem?_append_right, this]
theorem PrAt.of_block (h : PrAt g gd first n m used w) (e : w'.heap[g]? = w.heap[g]?) : PrAt g gd first n m used w' := ⟨e.trans h.at_, h.last⟩
theorem PrAt.below (h : PrAt g gd first n m used w) (hb : Below w.heap.size w w') : PrAt g gd first n m used w' := h.of_block (hb.block g h.lt)
theorem PrAt.cells (h : PrAt g gd first n m used w) : w.cell? ⟨g, 0, none⟩ = some (.pointer (some ⟨gd, 0, none⟩)) ∧ w.cell? ⟨g, 1, none⟩ = some (.int .i64 first) ∧ w.cell? ⟨g, 2, none⟩ = some (.int .i64 n) ∧ w.cell? ⟨g, 3, none⟩ = some (.int .i64 m.place) ∧ w.cell? ⟨g, 4, none⟩ = some (.int .u64 m.num) ∧ w.cell? ⟨g, 37, none⟩ = some (.int .i64 used) := by
  refine ⟨?_, ?_, ?_, ?_, ?_, h.cell37⟩ <;> rw [h.cell] <;> simp [ringCells]
theorem PrAt.thawed (h : PrAt g gd first n m used w) (j : Nat) : w.frozen? ⟨g, j, none⟩ = false := by simp [World.frozen?, h.at_]
/-- The head lies in the ring's block. -/
theorem PrAt.mark (h : PrAt g gd first n m used w) : w.rangeAt g 3 (markCells m) := fun j v hj => by
  rw [h.cell]
  have hl : (markCells m).length = 34 := by simp [markCells, h.last]
  have hj34 : j < 34 := by
    rcases Nat.lt_or_ge j 34 with h7 | h7
    · exact h7
    · rw [List.getElem?_eq_none (by omega)] at hj; simp at hj
  rw [← hj]
  simp only [ringCells, List.getElem?_toArray, markCells]
  rw [show 3 + j = j + 1 + 1 + 1 from by omega, List.getElem?_cons_succ, List.getElem?_cons_succ, List.getElem?_cons_succ]
  match j, hj34 with
  | 0, _ => rfl
  | 1, _ => rfl
  | j + 2, hj => simp only [List.getElem?_cons_succ]; rw [List.getElem?_append_left (by simp [h.last]; omega)]
theorem PrAt.lastAt (h : PrAt g gd first n m used w) : w.rangeAt g 5 (m.last.map cu8) := fun j v hj => by
  have := h.mark (j + 2) v (by simpa [markCells] using hj)
  rw [show 5 + j = 3 + (j + 2) from by omega]; exact this
theorem mark_one (m : Mk) : ∀ v ∈ markCells m, v.oneCell' = true := fun v hv => by
  simp only [markCells, List.mem_cons, List.mem_map] at hv
  rcases hv with rfl | rfl | ⟨x, _, rfl⟩ <;> rfl

set_option maxRecDepth 100000 in
/-- Room. -/
theorem room_any (h : PrAt g gd first n m used w) (hO : RingOk first n m used) : Calls Tryd.prog 26 #[.pointer (some ⟨g, 0, none⟩)] w (QuietP (.int .i64 ((n - used : Nat) : Int)) w) := by
  obtain ⟨c0, c1, c2, c3, c4, c37⟩ := h.cells
  obtain ⟨n0, n1, _, _, _, u1⟩ := hO
  obtain ⟨R, hR⟩ : ∃ R, n - used = R := ⟨_, rfl⟩
  have hw : IntKind.i64.wrap ((n : Int) - (used : Int)) = (R : Int) := by rw [IntWalk.i64_in _ (by omega)]; omega
  rw [hR]
  have HR := Lib.hid hR
  clear hR n0 n1 u1 h
  go_enter Tryd.func26, Tryd.ntmps26
  go_wp2
  go_quiet (fail)
  go_wp2
  go_ret
  exact ⟨rfl, _, rfl⟩
theorem room_nil (w : World) : Calls Tryd.prog 26 #[.pointer none] w (QuietP (.int .i64 0) w) := by
  go_enter Tryd.func26, Tryd.ntmps26
  go_wp2
  go_ret
  exact ⟨rfl, 0, rfl⟩
/-- sector. -/
theorem sector_any (h : PrAt g gd first n m used w) (hO : RingOk first n m used) (i : Nat) (hi : i ≤ 4096) : Calls Tryd.prog 66 #[.pointer (some ⟨g, 0, none⟩), .int .i64 i] w (QuietP (.int .i64 ((first + (m.place + i) % n : Nat) : Int)) w) := by
  obtain ⟨c0, c1, c2, c3, c4, c37⟩ := h.cells
  obtain ⟨n0, n1, f1, p1, _, u1⟩ := hO
  have hn0 : ¬ n = 0 := by omega
  have hmod := Nat.mod_lt (m.place + i) (show 0 < n by omega)
  obtain ⟨R, hR⟩ : ∃ R, first + (m.place + i) % n = R := ⟨_, rfl⟩
  obtain ⟨A, hA⟩ : ∃ A, m.place + i = A := ⟨_, rfl⟩
  rw [hA] at hR hmod
  have hw1 : IntKind.i64.wrap ((m.place : Int) + (i : Int)) = (A : Int) := by rw [IntWalk.i64_in _ (by omega)]; omega
  have hw1' : IntKind.i64.wrap (A : Int) = (A : Int) := IntWalk.i64_in _ (by omega)
  obtain ⟨Q, hQ⟩ : ∃ Q, A % n = Q := ⟨_, rfl⟩
  have hw2 : Int.tmod (A : Int) (n : Int) = (Q : Int) := by rw [Int.tmod_eq_emod_of_nonneg (by omega)]; omega
  have hw3 : (A : Int) % (n : Int) = (Q : Int) := by omega
  rw [hQ] at hR hmod
  have hw4 : IntKind.i64.wrap (Q : Int) = (Q : Int) := IntWalk.i64_in _ (by omega)
  have hw5 : IntKind.i64.wrap ((first : Int) + (Q : Int)) = (R : Int) := by rw [IntWalk.i64_in _ (by omega)]; omega
  rw [hA, hQ, hR]
  have HR := Lib.hid hR; have HA := Lib.hid hA; have HQ := Lib.hid hQ
  clear hR hA hQ h
  go_enter Tryd.func66, Tryd.ntmps66
  go_wp2
  go_quiet (fail)
  go_wp2
  go_ret
  exact ⟨rfl, _, rfl⟩
end
end Go.Proofs.YtegdlpllljccgaaDoor
