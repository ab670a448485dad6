/-
  'ShaSums': its walk.
-/
import Derived.Test.YtcnjffckjcoafaaShaStands
namespace Go.Proofs.Ytcnjffckjcoafaa
open Go.RowKit Sh

/-- What a law's call leaves. -/
def TruePost (w : World) (e : Ending) (w' : World) : Prop := e = .returned (.bool true) ∧ Below w.heap.size w w'

theorem run_eql_dig (m : List UInt8) (xs ys : Array Value) (hx : Hid (xs = ((dig m).map cu8).toArray)) (hy : Hid (ys = ((dig m).map cu8).toArray)) (w : World) : (binOp .eql 24 (.agg xs) (.agg ys)).run Try.prog w = .ok (.bool true) w :=
  run_eql_same (P := Try.prog) 24 5 32 Try.underlying24 Try.underlying5 (by kernel_rfl) xs ys (dig m) rfl hx.out hy.out w

set_option maxRecDepth 100000 in
set_option maxHeartbeats 400000 in
theorem shaSums_any (bp : Option Addr) (len cap : Nat) (bs : List UInt8) (w : World) (hB : Bytes w.heap.size w bp len cap bs) (hlen : len ≤ 140737488351232) :
    Calls Try.prog 3 #[.slice bp len cap] w (TruePost w) := by
  go_enter Try.func3, Try.ntmps3
  go_wp2_with (first
    | (go_at_call 8; refine (stands_any _).mono ?_; rintro e w1 ⟨rfl, hb1⟩)
    | (go_at_call 9; refine (whole_any bp len cap bs w1 ((hB.below hb1).mono hb1.size) (by omega)).mono ?_; rintro e w2 ⟨rv2, Hrv2, rfl, hb2⟩; have hB2 : Below w.heap.size w w2 := hb1.trans (hb2.mono hb1.size))
    | (go_at_call 10; refine (rsum_any bp len cap bs w2 ((hB.below hB2).mono hB2.size) hlen).mono ?_; rintro e w3 ⟨rv3, Hrv3, rfl, hb3⟩; have hB3 : Below w.heap.size w w3 := hB2.trans (hb3.mono hB2.size); have heq := run_eql_dig bs rv2 rv3 Hrv2 Hrv3))
  go_ret
  exact ⟨rfl, hB3⟩
end Go.Proofs.Ytcnjffckjcoafaa
