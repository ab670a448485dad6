/-
  Arguments opened: an order by value. The law's told.
-/
import Derived.Test.YtkpogmigfjmacaaPeOpen
import Derived.Test.YtkpogmigfjmacaaPeSame
import Derived.Test.YtkpogmigfjmacaaPeRAct
set_option linter.unusedSimpArgs false
set_option linter.unusedVariables false
namespace Go.Proofs.Ytkpogmigfjmacaa
open Go.RowKit Go.ChangeShapes Go.WideShapes Go.ChangeAt Go.Deep

section
variable {H : Type} {enc : TypeId × Value → H} {W : World}
set_option maxRecDepth 100000 in
/-- An order's five cells. -/
theorem ord_of_trod {base fuel : Nat} {spare : Nat → Bool} {held : Bool} {cs : List Value} {x : DataW H × List MemPlace} (hf : DataW.trod enc Try.prog W base spare held fuel 28 cs = some x) :
    ∃ (a t k o : Int) (p : Bool), cs = [.int .i64 a, .int .i64 t, .int .u64 k, .int .u64 o, .bool p] ∧ I64 a ∧ I64 t ∧ U64 k ∧ U64 o := by
  obtain ⟨xs, n, _, _, hl, hlen, hg⟩ := DataW.trod_struct Try.underlying28 hf
  rw [Try.cellsOrd] at hl
  match cs, hl, xs, hlen with
  | [c0, c1, c2, c3, c4], _, [y0, y1, y2, y3, y4], _ =>
    obtain ⟨z0, e0, _, w0⟩ := DataW.trod_int Try.underlying3 (hg 0 _ rfl)
    obtain ⟨z1, e1, _, w1⟩ := DataW.trod_int Try.underlying3 (hg 1 _ rfl)
    obtain ⟨z2, e2, _, w2⟩ := DataW.trod_int Try.underlying26 (hg 2 _ rfl)
    obtain ⟨z3, e3, _, w3⟩ := DataW.trod_int Try.underlying26 (hg 3 _ rfl)
    obtain ⟨z4, e4, _⟩ := DataW.trod_bool Try.underlying4 (hg 4 _ rfl)
    have e0' : [c0] = [Value.int .i64 z0] := e0
    have e1' : [c1] = [Value.int .i64 z1] := e1
    have e2' : [c2] = [Value.int .u64 z2] := e2
    have e3' : [c3] = [Value.int .u64 z3] := e3
    have e4' : [c4] = [Value.bool z4] := e4
    exact ⟨z0, z1, z2, z3, z4, by rw [(List.cons.inj e0').1, (List.cons.inj e1').1, (List.cons.inj e2').1, (List.cons.inj e3').1, (List.cons.inj e4').1], bounds_i64 w0, bounds_i64 w1, bounds_u64 w2, bounds_u64 w3⟩
theorem open_order {v : Value} {d0 : DataW H} {p : List MemPlace} (h0 : DataW.Trod enc Try.prog W 0 (fun _ => true) true 28 v d0 p) (hv : ∃ cs, v = .agg cs ∧ cs.size = Try.prog.cellsOf 28) :
    ∃ (a t k o : Int) (p : Bool), v = .agg #[.int .i64 a, .int .i64 t, .int .u64 k, .int .u64 o, .bool p] ∧ I64 a ∧ I64 t ∧ U64 k ∧ U64 o := by
  obtain ⟨cs, rfl, hsz⟩ := hv
  obtain ⟨fuel, hf⟩ := h0
  obtain ⟨l⟩ := cs
  obtain ⟨a, t, k, o, p, e, h⟩ := ord_of_trod hf
  have e' : l = _ := e
  exact ⟨a, t, k, o, p, by rw [e'], h⟩
end
theorem infoOrd : (Try.prog.info? 28).map (·.size) = some 5 := by kernel_rfl
set_option maxHeartbeats 2000000 in
theorem told_any (a ty key other : Int) (ap : Bool) (w : World) :
    Calls Try.prog 15 #[.agg #[.int .i64 a, .int .i64 ty, .int .u64 key, .int .u64 other, .bool ap]] w (Ret (.agg #[.int .i64 a, .int .i64 ty, .int .u64 key, .int .u64 other, .bool ap]) w) := by
  go_enter Try.func15, Try.ntmps15
  go_wp2
  exact bodyPost_ret (v := .agg #[.int .i64 a, .int .i64 ty, .int .u64 key, .int .u64 other, .bool ap]) (by simp [results, Try.results15, go_sem]) rfl ⟨rfl, (bel2 w _ _)⟩
end Go.Proofs.Ytkpogmigfjmacaa
