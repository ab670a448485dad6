/-
  Add, where it is refused.
-/
import Derived.Test.YtegdlpllljccgaaDoorPrAdd
set_option linter.unusedSimpArgs false
set_option linter.unusedVariables false
namespace Go.Proofs.YtegdlpllljccgaaDoor
open Go.RowKit Sh

section
variable {g gd first n used : Nat} {m : Mk} {w : World}
set_option maxRecDepth 100000 in
set_option maxHeartbeats 2000000 in
theorem padd_no (h : PrAt g gd first n m used w) (hO : RingOk first n m used) (bp : Option Addr) (L cap : Nat) (hno : ¬ (1 ≤ L ∧ L ≤ 60 ∧ takes L ≤ n - used)) (hL2 : L ≤ 9223372036854775807) (E : Int) (hE : E = if 1 ≤ L ∧ L ≤ 60 then 20 else 11) :
    Calls Tryd.prog 22 #[.pointer (some ⟨g, 0, none⟩), .slice bp L cap] w (InP E w) := by
  have hE0 : E ≠ 0 := by rw [hE]; split <;> decide
  have hadd : Calls Tryd.prog 45 #[.pointer (some ⟨g, 0, none⟩), .slice bp L cap] w fun e w' => e = .returned (.iface 93 (.int .i64 E)) ∧ Below w.heap.size w w' := by
    by_cases h1 : 1 ≤ L ∧ L ≤ 60
    · rw [if_pos h1] at hE
      subst hE
      exact padd_space h hO bp L cap h1.1 h1.2 (fun h2 => hno ⟨h1.1, h1.2, h2⟩)
    · rw [if_neg h1] at hE
      subst hE
      exact (padd_large h bp L cap (by omega) hL2).mono fun e w' ⟨h1, h2⟩ => ⟨h1, h2 ▸ Below.refl _ _⟩
  clear hE hno
  go_enter Tryd.func22, Tryd.ntmps22
  go_wp2_with (go_at_call 45; refine hadd.mono ?_)
  rintro e w1 ⟨rfl, hb1⟩
  have hE : ErrV w1 E (.iface 93 (.int .i64 E)) := .inr ⟨hE0, [], rfl⟩
  go_wp2_with (go_at_call 37; refine (in_err _ E _ w1 hE).mono ?_)
  rintro e w2 ⟨v2, rfl, hE2, hb2⟩
  go_wp2
  go_ret
  exact ⟨v2, rfl, hE2, hb1.trans (hb2.mono hb1.size)⟩
end
end Go.Proofs.YtegdlpllljccgaaDoor
