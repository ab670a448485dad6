/-
  The two functions that turn a number, and those that hand out tables.
-/
import Derived.Test.YtcnjffckjcoafaaRows
import Derived.Test.YtcnjffckjcoafaaShaMath
import Derived.WalkKit
import Derived.WalkSpells
import Derived.WalkLawsBesides
import Derived.Deep.QuietTactic
import Derived.BigQuiet
import Derived.Deep.WholeRow
import Derived.Deep.MidRow
namespace Go.Proofs.Ytcnjffckjcoafaa
open Go.RowKit Sh

theorem ret_int {k : IntKind} {a b : Int} (h : a = b) : Ending.returned (.int k a) = .returned (.int k b) := by rw [h]

set_option maxHeartbeats 400000 in
theorem turn_any (x : UInt32) (n : Int) (w : World) (h0 : 0 < n) (h1 : n < 32) :
    Calls Try.prog 23 #[.int .u32 (uz x), .int .i64 n] w fun e w' => e = .returned (.int .u32 (uz (rot x n.toNat))) ∧ ∃ m, w' = w.drewN m := by
  have hr := rot32' x n h0 h1
  go_enter Try.func23, Try.ntmps23
  go_wp2
  go_quiet (fail)
  go_wp2
  go_ret
  exact ⟨ret_int rfl, _, rfl⟩

set_option maxHeartbeats 400000 in
theorem rturn_any (x : UInt32) (n : Int) (w : World) (h0 : 0 < n) (h1 : n < 32) :
    Calls Try.prog 19 #[.int .u64 (uz x), .int .u64 n] w fun e w' => e = .returned (.int .u64 (uz (rot x n.toNat))) ∧ w = w' := by
  have hr := rot64 x n h0 h1
  go_enter Try.func19, Try.ntmps19
  go_wp2
  go_ret
  exact ⟨ret_int rfl, rfl⟩

theorem init_cells : #[Value.int .u32 1779033703, Value.int .u32 3144134277, Value.int .u32 1013904242, Value.int .u32 2773480762, Value.int .u32 1359893119, Value.int .u32 2600822924, Value.int .u32 528734635, Value.int .u32 1541459225] = s32 initS := by kernel_rfl

set_option maxHeartbeats 400000 in
theorem beginning_any (w : World) :
    Calls Try.prog 15 #[] w fun e w' => e = .returned (.agg (s32 initS)) ∧ Below w.heap.size w w' := by
  go_enter Try.func15, Try.ntmps15
  go_wp2
  rw [init_cells]
  refine bodyPost_ret (v := .agg (s32 initS)) ?_ rfl ⟨rfl, (Below.refl _ _).alloc (Nat.le_refl _) _⟩
  exact results_cell_row (ty := 40) rfl _ _ w.heap.size 40 (s32 initS) (0, 0) _ rfl (heap_alloc_new _ _) Try.underlying40 rfl (by kernel_rfl)

theorem wpList_build_to {P : Program} {ops : Array Oper} {rest : List Oper} {o : Oper} {a : Act} {w : World} {Q : Exit → Act → World → Prop} (hg : o.guard = none) (t : TypeId) (parts : Array (Nat × Operand)) (ho : o.op = .build t parts)
    (v : Array Value) (hf : P.built t (parts.map fun (i, x) => (i, a.eval x)).toList = some v) (h : wpList P ops Q rest (a.put o.dst (.agg v)) w) : wpList P ops Q (o :: rest) a w :=
  wpList_build hg t parts ho (by rw [hf]; rfl) (by rw [hf]; exact h)

set_option maxRecDepth 100000 in
set_option maxHeartbeats 400000 in
theorem roundWords_any (w : World) :
    Calls Try.prog 22 #[] w fun e w' => e = .returned (.agg k32) ∧ Below w.heap.size w w' := by
  go_enter Try.func22, Try.ntmps22
  go_wp2_with (first | (refine wpList_build_to rfl 51 _ rfl k32 (by kernel_rfl) ?_) | (refine wpList_store_row rfl 51 _ _ rfl w.heap.size k32 rfl rfl 51 _ (heap_alloc_new _ _) (by kernel_rfl) (by kernel_rfl) (by kernel_rfl) ?_; rw [World.setRow_alloc_new]))
  refine bodyPost_ret (v := .agg k32) ?_ rfl ⟨rfl, (Below.refl _ _).alloc (Nat.le_refl _) _⟩
  exact results_cell_row (ty := 51) rfl _ _ w.heap.size 51 k32 (0, 0) _ rfl (heap_alloc_new _ _) Try.underlying51 rfl (by kernel_rfl)
set_option maxHeartbeats 400000 in
theorem roots_any (w : World) :
    Calls Try.prog 20 #[] w fun e w' => e = .returned (.slice (some ⟨w.heap.size, 0, none⟩) 64 64) ∧ w' = w.alloc (.cells k64 36) := by
  go_enter Try.func20, Try.ntmps20
  go_wp2
  go_ret
  exact ⟨rfl, congrArg (fun c => w.alloc (.cells c 36)) (by kernel_rfl)⟩
end Go.Proofs.Ytcnjffckjcoafaa
