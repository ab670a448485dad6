/-
  Bytes that come in parts: plain lists.
-/
import Derived.Test.YtcnjffckjcoafaaShaRows
namespace Go.Proofs.Ytcnjffckjcoafaa.Sh
open Go

theorem blk_append (a b : List UInt8) (i : Nat) (h : 64 * (i + 1) ≤ a.length) : blk (a ++ b) i = blk a i := by
  unfold blk
  rw [List.drop_append_of_le_length (by omega), List.take_append_of_le_length (by rw [List.length_drop]; omega)]
theorem stateOf_append (a b : List UInt8) (k : Nat) (h : 64 * k ≤ a.length) : stateOf (a ++ b) k = stateOf a k := by
  induction k with
  | zero => rfl
  | succ k ih => rw [stateOf, stateOf, ih (by omega), blk_append a b k h]
theorem splice_fill (m wt piece : List UInt8) (N R n : Nat) (hN : m.length = N) (hR : R = N % 64) (hw : wt.length = 64) (hw2 : wt.take R = m.drop (64 * (N / 64))) (hp : piece.length = n) (hn : R + n ≤ 64) :
    (splice wt R piece).length = 64 ∧ (splice wt R piece).take (R + n) = (m ++ piece).drop (64 * (N / 64)) := by
  refine ⟨by rw [length_splice _ _ _ (by omega), hw], ?_⟩
  unfold splice
  rw [List.drop_append_of_le_length (by omega), ← hw2, ← List.append_assoc]
  exact List.take_left' (by rw [List.length_append, List.length_take, hp]; omega)
theorem splice_hCells (s : S8) (wt piece : List UInt8) (N R : Nat) (hw : wt.length = 64) (hf : R + piece.length ≤ 64) :
    splice (hCells s wt N) (8 + R) (piece.map cu8) = hCells s (splice wt R piece) N := by
  have h8 : (s.list.map cu32).length = 8 := rfl
  unfold splice hCells
  rw [List.take_append, List.take_of_length_le (by omega), h8]
  have e1 : 8 + R - 8 = R := by omega
  rw [e1, List.take_append_of_le_length (by rw [List.length_map]; omega), List.drop_append, List.drop_of_length_le (by rw [h8]; omega), List.nil_append, h8, List.length_map]
  have e2 : 8 + R + piece.length - 8 = R + piece.length := by omega
  rw [e2, List.drop_append_of_le_length (by rw [List.length_map, hw]; omega), ← List.map_take, ← List.map_drop]
  simp [List.map_append]
/-- Part of a block is there. -/
theorem part_state (m piece : List UInt8) (N : Nat) (hN : m.length = N) : stateOf (m ++ piece) (N / 64) = stateOf m (N / 64) := stateOf_append _ _ _ (by omega)
/-- The block is full. -/
theorem full_state (m piece wt : List UInt8) (N n : Nat) (hN : m.length = N) (hw : wt.length = 64) (hw2 : wt = (m ++ piece).drop (64 * (N / 64))) (hn : N % 64 + n = 64) :
    stateOf (m ++ piece) ((N + n) / 64) = comp (stateOf m (N / 64)) wt := by
  have : (N + n) / 64 = N / 64 + 1 := by omega
  rw [this, stateOf, part_state m piece N hN]
  congr 1
  unfold blk
  rw [← hw2, List.take_of_length_le (by omega)]
end Go.Proofs.Ytcnjffckjcoafaa.Sh
