/-
  Package pers: keyBytes.
-/
import Derived.Test.YtkpogmigfjmacaaPePgM
set_option linter.unusedSimpArgs false
set_option linter.unusedVariables false
namespace Go.Proofs.Ytkpogmigfjmacaa
open Go.RowKit Sh

set_option maxHeartbeats 2000000 in
theorem keyBytes_any (g i : Nat) (hi : i < 6) (w : World) :
    Calls Try.prog 41 #[.pointer (some ⟨g, 0, none⟩), .int .i64 (i : Int)] w (fun e w' => e = .returned (.slice (some ⟨g, 7 + 9 * i, none⟩) 9 (64 - (7 + 9 * i))) ∧ w = w') := by
  have h6 : i = 0 ∨ i = 1 ∨ i = 2 ∨ i = 3 ∨ i = 4 ∨ i = 5 := by omega
  clear hi
  go_enter Try.func41, Try.ntmps41
  rcases h6 with rfl | rfl | rfl | rfl | rfl | rfl
  all_goals
    go_wp2
    go_ret
    exact ⟨rfl, rfl⟩
end Go.Proofs.Ytkpogmigfjmacaa
