/-
  pers's closures.
-/
import Derived.Test.YtkpogmigfjmacaaPeOwn
set_option linter.unusedSimpArgs false
set_option linter.unusedVariables false
namespace Go.Proofs.Ytkpogmigfjmacaa
open Go.RowKit

theorem cloAct_any (x n : Int) (B : Nat) (W : World) (hc : W.cell? ⟨B, 0, none⟩ = some (.int .i64 n)) : Calls Try.prog 32 #[.int .i64 x, .pointer (some ⟨B, 0, none⟩)] W (fun e w' => e = .returned (.bool (x == n)) ∧ W = w') := by
  go_enter Try.func32, Try.ntmps32
  go_wp2
  go_ret
  exact ⟨rfl, rfl⟩
theorem cloReg_any (q1 q2 n : Int) (B : Nat) (W : World) (hc : W.cell? ⟨B, 0, none⟩ = some (.int .i64 n)) : Calls Try.prog 52 #[.agg #[.int .i64 q1, .int .u64 q2], .pointer (some ⟨B, 0, none⟩)] W (Ret (.bool (q1 == n)) W) := by
  have hlt : B < W.heap.size := World.block_lt_of_cell? W _ hc
  go_enter Try.func52, Try.ntmps52
  go_wp2
  go_ret
  exact ⟨rfl, bel1 W _⟩
theorem cloClear_any (q1 q2 : Int) (W : World) : Calls Try.prog 56 #[.agg #[.int .i64 q1, .int .u64 q2]] W (Ret (.bool true) W) := by
  go_enter Try.func56, Try.ntmps56
  go_wp2
  go_ret
  exact ⟨rfl, bel1 W _⟩
/-- Whom a Preempt names. -/
def namedB (tk : Bool) (n x : Int) (q : Int × Int) : Bool := if (tk && (q.1 == n)) = true then false else (x == 0) || (q.2 == x)
theorem cloPre_any (q1 q2 n x : Int) (tk : Bool) (B1 B2 B3 : Nat) (W : World) (h1 : W.cell? ⟨B1, 0, none⟩ = some (.bool tk)) (h2 : W.cell? ⟨B2, 0, none⟩ = some (.int .i64 n)) (h3 : W.cell? ⟨B3, 3, none⟩ = some (.int .u64 x)) :
    Calls Try.prog 58 #[.agg #[.int .i64 q1, .int .u64 q2], .pointer (some ⟨B1, 0, none⟩), .pointer (some ⟨B2, 0, none⟩), .pointer (some ⟨B3, 0, none⟩)] W (Ret (.bool (namedB tk n x (q1, q2))) W) := by
  have hl1 : B1 < W.heap.size := World.block_lt_of_cell? W _ h1
  have hl2 : B2 < W.heap.size := World.block_lt_of_cell? W _ h2
  have hl3 : B3 < W.heap.size := World.block_lt_of_cell? W _ h3
  go_enter Try.func58, Try.ntmps58
  go_wp2
  all_goals
    go_ret
    refine ⟨retB ?_, bel1 W _⟩
    first | (simp_all [namedB]; done) | (simp_all [namedB]; rfl)
end Go.Proofs.Ytkpogmigfjmacaa
