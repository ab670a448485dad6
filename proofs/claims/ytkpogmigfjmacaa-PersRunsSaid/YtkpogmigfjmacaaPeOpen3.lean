/-
  Arguments opened: calls.
-/
import Derived.Test.YtkpogmigfjmacaaPeOpen2
set_option linter.unusedSimpArgs false
set_option linter.unusedVariables false
namespace Go.Proofs.Ytkpogmigfjmacaa
open Go.RowKit Go.ChangeShapes Go.WideShapes Go.ChangeAt Go.Deep

/-- A call: a nexus and an order. -/
structure CL where
  n : Int
  a : Int
  t : Int
  k : Int
  o : Int
  p : Bool
instance : Inhabited CL := ⟨⟨0, 0, 0, 0, 0, false⟩⟩
/-- Calls, wherever they lie below block N. -/
def CaA (N : Nat) (w : World) (A : Option Addr) (l : List CL) : Prop :=
  l = [] ∨ ∃ b o, A = some ⟨b, o, none⟩ ∧ b < N ∧ ∀ (j : Nat) (c : CL), l[j]? = some c → w.cell? ⟨b, o + j * 6, none⟩ = some (.int .i64 c.n) ∧ w.cell? ⟨b, o + j * 6 + 1, none⟩ = some (.int .i64 c.a) ∧ w.cell? ⟨b, o + j * 6 + 2, none⟩ = some (.int .i64 c.t) ∧ w.cell? ⟨b, o + j * 6 + 3, none⟩ = some (.int .u64 c.k) ∧ w.cell? ⟨b, o + j * 6 + 4, none⟩ = some (.int .u64 c.o) ∧ w.cell? ⟨b, o + j * 6 + 5, none⟩ = some (.bool c.p)
theorem CaA.below {N : Nat} {w w' : World} {A : Option Addr} {l : List CL} (h : CaA N w A l) (hb : Below N w w') : CaA N w' A l :=
  h.imp id (fun ⟨b, o, h1, h2, h3⟩ => ⟨b, o, h1, h2, fun j c hj => by
    obtain ⟨e0, e1, e2, e3, e4, e5⟩ := h3 j c hj
    have hc : ∀ i, w'.cell? ⟨b, i, none⟩ = w.cell? ⟨b, i, none⟩ := fun i => hb.cell (p := ⟨b, i, none⟩) h2
    exact ⟨(hc _).trans e0, (hc _).trans e1, (hc _).trans e2, (hc _).trans e3, (hc _).trans e4, (hc _).trans e5⟩⟩)
theorem Try.cellsCall : Try.prog.cellsOf 47 = 6 := by kernel_rfl
section
variable {H : Type} {enc : TypeId × Value → H} {W : World}
set_option maxRecDepth 100000 in
theorem call_of_trod {base fuel : Nat} {spare : Nat → Bool} {held : Bool} {cs : List Value} {x : DataW H × List MemPlace} (hf : DataW.trod enc Try.prog W base spare held fuel 47 cs = some x) :
    ∃ c : CL, cs = [.int .i64 c.n, .int .i64 c.a, .int .i64 c.t, .int .u64 c.k, .int .u64 c.o, .bool c.p] := by
  obtain ⟨xs, n, _, _, hl, hlen, hg⟩ := DataW.trod_struct Try.underlying47 hf
  rw [Try.cellsCall] at hl
  match cs, hl, xs, hlen with
  | [c0, c1, c2, c3, c4, c5], _, [y0, y1], _ =>
    obtain ⟨z0, e0, _, w0⟩ := DataW.trod_int Try.underlying3 (hg 0 _ rfl)
    obtain ⟨a, t, k, o, p, e1, _⟩ := ord_of_trod (hg 1 _ rfl)
    have e0' : [c0] = [Value.int .i64 z0] := e0
    have e1' : [c1, c2, c3, c4, c5] = [.int .i64 a, .int .i64 t, .int .u64 k, .int .u64 o, .bool p] := e1
    exact ⟨⟨z0, a, t, k, o, p⟩, by rw [(List.cons.inj e0').1, e1']⟩
/-- A slice of calls that came in. -/
theorem open_callsT {fuel : Nat} {spare : Nat → Bool} {held : Bool} {base : Nat} {c : Value} {x : DataW H × List MemPlace} (hf : DataW.trod enc Try.prog W base spare held fuel 44 [c] = some x) :
    ∃ (A : Option Addr) (len cap : Nat) (l : List CL), c = .slice A len cap ∧ l.length = len ∧ CaA W.heap.size W A l ∧ len ≤ 9223372036854775807 := by
  rcases open_slice Try.underlying44 hf with ⟨hcs, _⟩ | ⟨a, len, cap, m, n, D, Pl, hcs, _, hl, hm, hmm, hx, hrow⟩
  · have e : c = .slice none 0 0 := (List.cons.inj hcs).1
    exact ⟨none, 0, 0, [], e, rfl, .inl rfl, by omega⟩
  · have e : c = .slice (some a) len cap := (List.cons.inj hcs).1
    unfold maxLen at hm
    have hlm : len ≤ m := by rw [hmm]; split <;> omega
    rw [Try.cellsCall] at hrow
    have hc : ∀ i, i < len → ∃ q : CL, W.cell? (a.add (i * 6)) = some (.int .i64 q.n) ∧ W.cell? (a.add (i * 6 + 1)) = some (.int .i64 q.a) ∧ W.cell? (a.add (i * 6 + 2)) = some (.int .i64 q.t) ∧ W.cell? (a.add (i * 6 + 3)) = some (.int .u64 q.k) ∧ W.cell? (a.add (i * 6 + 4)) = some (.int .u64 q.o) ∧ W.cell? (a.add (i * 6 + 5)) = some (.bool q.p) := fun i hi => by
      obtain ⟨cs', h1, h2⟩ := hrow i (by omega)
      obtain ⟨q, rfl⟩ := call_of_trod h2
      obtain ⟨_, hlen, hcell⟩ := World.cells?_some h1
      have k0 := hcell 0 (by omega)
      have k1 := hcell 1 (by omega)
      have k2 := hcell 2 (by omega)
      have k3 := hcell 3 (by omega)
      have k4 := hcell 4 (by omega)
      have k5 := hcell 5 (by omega)
      rw [Deep.add_add] at k0 k1 k2 k3 k4 k5
      exact ⟨q, k0.trans rfl, k1.trans rfl, k2.trans rfl, k3.trans rfl, k4.trans rfl, k5.trans rfl⟩
    classical
    refine ⟨some a, len, cap, (List.range len).map (fun i => if h : i < len then (hc i h).choose else default), e, by simp, ?_, by omega⟩
    rcases Nat.eq_zero_or_pos len with h | hpos
    · exact .inl (by subst h; rfl)
    right
    obtain ⟨b, off, s⟩ := a
    obtain ⟨q0, hq0, _⟩ := hc 0 hpos
    obtain rfl : s = none := by simpa [Addr.add] using World.cell?_spot hq0
    refine ⟨b, off, rfl, ?_, fun j q hj => ?_⟩
    · have := World.block_lt_of_cell? W _ hq0
      simpa [add_at] using this
    · have hjl : j < len := by simpa using (List.getElem?_eq_some_iff.1 hj).1
      have eq' : (hc j hjl).choose = q := by simpa [hjl] using hj
      have hs := (hc j hjl).choose_spec
      rw [eq'] at hs
      simp only [add_at, ← Nat.add_assoc] at hs
      exact hs
theorem open_calls {v : Value} {d0 : DataW H} {p : List MemPlace} (h0 : DataW.Trod enc Try.prog W 0 (fun _ => true) true 44 v d0 p) (hv : ∃ A n c, v = .slice A n c) :
    ∃ (A : Option Addr) (len cap : Nat) (l : List CL), v = .slice A len cap ∧ l.length = len ∧ CaA W.heap.size W A l ∧ len ≤ 9223372036854775807 := by
  obtain ⟨A, n, c, rfl⟩ := hv
  obtain ⟨fuel, hf⟩ := h0
  exact open_callsT hf
end
end Go.Proofs.Ytkpogmigfjmacaa
