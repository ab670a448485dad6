/-
  The document's answer: preempt.
-/
import Derived.Test.YtkpogmigfjmacaaPeRPreZ0
import Derived.Test.YtkpogmigfjmacaaPeRPreZN
import Derived.Test.YtkpogmigfjmacaaPeRPre70
import Derived.Test.YtkpogmigfjmacaaPeRPre7N
import Derived.Test.YtkpogmigfjmacaaPeRPre80
import Derived.Test.YtkpogmigfjmacaaPeRPre8N
import Derived.Test.YtkpogmigfjmacaaPeRPreX0
import Derived.Test.YtkpogmigfjmacaaPeRPreXT
import Derived.Test.YtkpogmigfjmacaaPeRPreXN
set_option linter.unusedSimpArgs false
set_option linter.unusedVariables false
namespace Go.Proofs.Ytkpogmigfjmacaa
open Go.RowKit

theorem rpreempt_any (g h t : Int) (p : Bool) (A : Option Addr) (len cap : Nat) (l : List (Int × Int)) (w : World) (hS : SlR w A len cap l) (hm : len ≤ 6) (hso : soundB l h t = true) (j : Nat) (hj : j < 8) (a ty key other : Int) (ap : Bool) :
    Calls Try.prog 35 #[.agg #[.int .u32 g, .slice A len cap, .int .i64 h, .int .i64 t, .bool p], .int .i64 (j : Int), .agg #[.int .i64 a, .int .i64 ty, .int .u64 key, .int .u64 other, .bool ap]] w (ActP w A len cap l (refR (j : Int) (preL ⟨g, l, h, t, p⟩ (j : Int) ty other))) := by
  by_cases x0 : other = 0
  · by_cases h0 : t = 0
    · exact rpreempt_Z0 g h t p A len cap l w hS hm hso j hj a ty key other ap h0 x0
    by_cases h7 : t = 7
    · exact rpreempt_70 g h t p A len cap l w hS hm hso j hj a ty key other ap h7 x0
    by_cases h8 : t = 8
    · exact rpreempt_80 g h t p A len cap l w hS hm hso j hj a ty key other ap h8 x0
    have hk : keyL l h ≠ other := by
      rcases (sound_iff.1 hso).2.2 with ⟨e, _⟩ | ⟨_, _, hkh⟩
      · exact absurd e h0
      · rw [x0]; exact hkh
    exact rpreempt_X0 g h t p A len cap l w hS hm hso j hj a ty key other ap h0 h7 h8 x0 hk
  · by_cases h0 : t = 0
    · exact rpreempt_ZN g h t p A len cap l w hS hm hso j hj a ty key other ap h0 x0
    by_cases h7 : t = 7
    · exact rpreempt_7N g h t p A len cap l w hS hm hso j hj a ty key other ap h7 x0
    by_cases h8 : t = 8
    · exact rpreempt_8N g h t p A len cap l w hS hm hso j hj a ty key other ap h8 x0
    by_cases hk : keyL l h = other
    · exact rpreempt_XT g h t p A len cap l w hS hm hso j hj a ty key other ap h0 h7 h8 x0 hk
    · exact rpreempt_XN g h t p A len cap l w hS hm hso j hj a ty key other ap h0 h7 h8 x0 hk
end Go.Proofs.Ytkpogmigfjmacaa
