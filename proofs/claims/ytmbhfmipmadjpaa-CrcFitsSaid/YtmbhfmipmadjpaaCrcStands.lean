/-
  A known sum: the walk of 'stands'.
-/
import Derived.Test.YtmbhfmipmadjpaaCrcFits
import Derived.Lib.SlBytesConst
namespace Go.Proofs.Ytmbhfmipmadjpaa
open Go.RowKit Sh Cr

def TruePost (w : World) (e : Ending) (w' : World) : Prop := e = .returned (.bool true) ∧ Below w.heap.size w w'

theorem known_sum : uz (Cr.sum [49, 50, 51, 52, 53, 54, 55, 56, 57]) = 3808858755 := by decide +kernel
theorem known_bytes : le4 16909060 = [4, 3, 2, 1] := by decide +kernel

theorem nine_bytes (w : World) (t : TypeId) : Bytes (w.heap.size + 1) (w.alloc (.cells #[.int .u8 49, .int .u8 50, .int .u8 51, .int .u8 52, .int .u8 53, .int .u8 54, .int .u8 55, .int .u8 56, .int .u8 57] t (9, 10))) (some ⟨w.heap.size, 0, none⟩) 9 9 [49, 50, 51, 52, 53, 54, 55, 56, 57] :=
  ⟨rfl, Nat.le_refl _, by unfold maxLen; omega, .inr ⟨w.heap.size, 0, rfl, Nat.lt_succ_self _, fun j hj => by
    rw [cell_of_row _ w.heap.size _ _ _ _ (heap_alloc_new w _)]
    obtain rfl | rfl | rfl | rfl | rfl | rfl | rfl | rfl | rfl : j = 0 ∨ j = 1 ∨ j = 2 ∨ j = 3 ∨ j = 4 ∨ j = 5 ∨ j = 6 ∨ j = 7 ∨ j = 8 := by omega
    all_goals rfl⟩⟩

set_option maxRecDepth 100000 in
set_option maxHeartbeats 800000 in
theorem stands_any (w : World) : Calls Try.prog 8 #[] w (TruePost w) := by
  have hk := known_sum
  have kc := fun (w : World) (C : Array Value) (n c : Nat) => Lib.run_convert_bytes_const (P := Try.prog) w 29 5 C n c Try.underlying29 Try.underlying5
  go_enter Try.func8, Try.ntmps8
  go_wp2_with (first
    | (go_at_call 9; refine (table_any _).mono ?_; rintro e w1 ⟨g, rfl, hg, hT, hb⟩; have hN := nine_bytes w1 5)
    | (go_at_call 11; refine (sum_any (some ⟨g, 0, none⟩) _ 9 9 [49, 50, 51, 52, 53, 54, 55, 56, 57] _ (.inr ⟨g, rfl, by have := hT.lt; simp; omega, hT.alloc _⟩) (by simpa using hN)).mono ?_; rintro e w2 ⟨rfl, hb2⟩
       have hB2 : Below w.heap.size w w2 := (hb.alloc hb.size _).trans (hb2.mono (by have := hb.size; simp; omega)); clear hb2 hN hT hb)
    | (go_at_call 14; refine (bytes_any 16909060 w2).mono ?_; rintro e w3 ⟨rv, Hrv, rfl, hb3⟩
       have hB3 : Below w.heap.size w w3 := hB2.trans (hb3.mono hB2.size)
       have heq : ∀ w : World, (binOp .eql 36 (.agg rv) (.agg #[.int .u8 4, .int .u8 3, .int .u8 2, .int .u8 1])).run Try.prog w = .ok (.bool true) w := fun w => by
         rw [Hrv.out, a4, known_bytes]
         exact eql4 [4, 3, 2, 1] [4, 3, 2, 1] rfl rfl w))
  go_ret
  exact ⟨rfl, hB3⟩
end Go.Proofs.Ytmbhfmipmadjpaa
