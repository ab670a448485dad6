/-
  A slice of triples, and a pair that came in by value, opened.
-/
import Derived.Test.YtegdlpllljccgaaDoorLwPairs
import Derived.WideKeyPair
set_option linter.unusedSimpArgs false
set_option linter.unusedVariables false
namespace Go.Proofs.YtegdlpllljccgaaDoor
open Go.RowKit Go.ChangeShapes Go.WideShapes Go.ChangeAt Go.Deep Sh

theorem Tryd.pairKey : WideMaps.ArrKey Tryd.prog 27 3 2 := ⟨Tryd.underlying27, by kernel_rfl, by kernel_rfl, by kernel_rfl⟩
theorem Tryd.cellsTriple : Tryd.prog.cellsOf 85 = 3 := by kernel_rfl
/-- A slice of triples, wherever it lies below block N. -/
def TriplesAt (N : Nat) (w : World) (bp : Option Addr) (l : List (Int × Int × Int)) : Prop := l = [] ∨ ∃ b o, bp = some ⟨b, o, none⟩ ∧ b < N ∧ ∀ (j : Nat) (q : Int × Int × Int), l[j]? = some q → w.cell? ⟨b, o + j * 3, none⟩ = some (.int .i64 q.1) ∧ w.cell? ⟨b, o + j * 3 + 1, none⟩ = some (.int .i64 q.2.1) ∧ w.cell? ⟨b, o + j * 3 + 2, none⟩ = some (.int .i64 q.2.2)
theorem TriplesAt.below {N : Nat} {w w' : World} {bp : Option Addr} {l : List (Int × Int × Int)} (h : TriplesAt N w bp l) (hb : Below N w w') : TriplesAt N w' bp l :=
  h.imp id (fun ⟨b, o, h1, h2, h3⟩ => ⟨b, o, h1, h2, fun j q hj => ⟨(hb.cell (p := ⟨b, o + j * 3, none⟩) h2).trans (h3 j q hj).1, (hb.cell (p := ⟨b, o + j * 3 + 1, none⟩) h2).trans (h3 j q hj).2.1, (hb.cell (p := ⟨b, o + j * 3 + 2, none⟩) h2).trans (h3 j q hj).2.2⟩⟩)
def In64 (a : Int) : Prop := -9223372036854775808 ≤ a ∧ a ≤ 9223372036854775807
def InInt3 (q : Int × Int × Int) : Prop := In64 q.1 ∧ In64 q.2.1 ∧ In64 q.2.2

theorem triple_of_trod {H : Type} {enc : TypeId × Value → H} {W : World} {base fuel : Nat} {spare : Nat → Bool} {held : Bool} {cs : List Value} {x : DataW H × List MemPlace} (hf : DataW.trod enc Tryd.prog W base spare held fuel 85 cs = some x) :
    ∃ q : Int × Int × Int, cs = [.int .i64 q.1, .int .i64 q.2.1, .int .i64 q.2.2] ∧ InInt3 q := by
  obtain ⟨xs, m, _, _, hl, hxs, he⟩ := DataW.trod_array Tryd.underlying85 hf
  rw [Tryd.cellsTriple] at hl
  rw [Tryd.cellsInt] at he
  match cs, hl with
  | [c0, c1, c2], _ =>
    have g0 := he 0 (by omega)
    have g1 := he 1 (by omega)
    have g2 := he 2 (by omega)
    obtain ⟨x0, hx0⟩ : ∃ x, xs[0]? = some x := ⟨_, List.getElem?_eq_getElem (by omega)⟩
    obtain ⟨x1, hx1⟩ : ∃ x, xs[1]? = some x := ⟨_, List.getElem?_eq_getElem (by omega)⟩
    obtain ⟨x2, hx2⟩ : ∃ x, xs[2]? = some x := ⟨_, List.getElem?_eq_getElem (by omega)⟩
    rw [hx0] at g0
    rw [hx1] at g1
    rw [hx2] at g2
    obtain ⟨z0, e0, _, w0⟩ := DataW.trod_int Tryd.underlying3 g0
    obtain ⟨z1, e1, _, w1⟩ := DataW.trod_int Tryd.underlying3 g1
    obtain ⟨z2, e2, _, w2⟩ := DataW.trod_int Tryd.underlying3 g2
    have f0 : c0 = Value.int .i64 z0 := by simpa using e0
    have f1 : c1 = Value.int .i64 z1 := by simpa using e1
    have f2 : c2 = Value.int .i64 z2 := by simpa using e2
    exact ⟨(z0, z1, z2), by rw [f0, f1, f2], bounds_i64 w0, bounds_i64 w1, bounds_i64 w2⟩

theorem open_triples {H : Type} {enc : TypeId × Value → H} {W : World} {a0 : Option Addr} {len cap : Nat} {d0 : DataW H} {p : List MemPlace} (h0 : DataW.Trod enc Tryd.prog W 0 (fun _ => true) true 79 (.slice a0 len cap) d0 p) :
    ∃ l : List (Int × Int × Int), l.length = len ∧ TriplesAt W.heap.size W a0 l ∧ len ≤ 9223372036854775807 ∧ ∀ q ∈ l, InInt3 q := by
  obtain ⟨fuel, hf⟩ := h0
  rcases open_slice Tryd.underlying79 hf with ⟨hcs, _⟩ | ⟨a, len', cap', m, n, D, Pl, hcs, _, hl, hm, hmm, hx, hrow⟩
  · simp [Value.cells] at hcs
    obtain ⟨rfl, rfl, rfl⟩ := hcs
    exact ⟨[], rfl, .inl rfl, by omega, by simp⟩
  · simp [Value.cells] at hcs
    obtain ⟨rfl, rfl, rfl⟩ := hcs
    unfold maxLen at hm
    have hlm : len ≤ m := by rw [hmm]; split <;> omega
    rw [Tryd.cellsTriple] at hrow
    have hc : ∀ i, i < len → ∃ q : Int × Int × Int, W.cell? (a.add (i * 3)) = some (.int .i64 q.1) ∧ W.cell? (a.add (i * 3 + 1)) = some (.int .i64 q.2.1) ∧ W.cell? (a.add (i * 3 + 2)) = some (.int .i64 q.2.2) ∧ InInt3 q := fun i hi => by
      obtain ⟨cs', h1, h2⟩ := hrow i (by omega)
      obtain ⟨q, rfl, hok⟩ := triple_of_trod h2
      obtain ⟨_, hlen, hcell⟩ := World.cells?_some h1
      have k0 := hcell 0 (by omega)
      have k1 := hcell 1 (by omega)
      have k2 := hcell 2 (by omega)
      rw [Deep.add_add] at k0 k1 k2
      exact ⟨q, k0.trans rfl, k1.trans rfl, k2.trans rfl, hok⟩
    classical
    refine ⟨(List.range len).map (fun i => if h : i < len then (hc i h).choose else (0, 0, 0)), by simp, ?_, by omega, fun q hq => ?_⟩
    · rcases Nat.eq_zero_or_pos len with h | hpos
      · exact .inl (by subst h; rfl)
      right
      obtain ⟨b, off, s⟩ := a
      obtain ⟨q0, hq0, _⟩ := hc 0 hpos
      obtain rfl : s = none := by simpa [Addr.add] using World.cell?_spot hq0
      refine ⟨b, off, rfl, ?_, fun j q hj => ?_⟩
      · have := World.block_lt_of_cell? W _ hq0
        simpa [add_at] using this
      · have hjl : j < len := by simpa using (List.getElem?_eq_some_iff.1 hj).1
        have eq' : (hc j hjl).choose = q := by simpa [hjl] using hj
        obtain ⟨h1, h2, h3, _⟩ := (hc j hjl).choose_spec
        rw [eq'] at h1 h2 h3
        rw [add_at] at h1 h2 h3
        exact ⟨h1, by rw [Nat.add_assoc]; exact h2, by rw [Nat.add_assoc]; exact h3⟩
    · obtain ⟨i, hi, rfl⟩ := List.mem_map.1 hq
      have hil := List.mem_range.1 hi
      rw [dif_pos hil]
      exact (hc i hil).choose_spec.2.2.2
end Go.Proofs.YtegdlpllljccgaaDoor
