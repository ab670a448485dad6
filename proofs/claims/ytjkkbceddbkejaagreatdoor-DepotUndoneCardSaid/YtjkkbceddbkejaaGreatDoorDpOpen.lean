/-
  Arguments opened: a slice of law 07's calls.
-/
import Derived.Test.YtjkkbceddbkejaaGreatDoorBkLaid
import Derived.Test.YtjkkbceddbkejaaGreatDoorDpLaw
set_option linter.unusedSimpArgs false
set_option linter.unusedVariables false
namespace Go.Proofs.YtjkkbceddbkejaaGreatDoor
open Go.RowKit Go.ChangeShapes Go.WideShapes Go.ChangeAt Go.Deep Sh

theorem Tryz.cellsTriple : Tryz.prog.cellsOf 69 = 3 := by kernel_rfl
theorem add_at (b off i : Nat) : (⟨b, off, none⟩ : Addr).add i = ⟨b, off + i, none⟩ := by unfold Addr.add; split <;> simp_all
/-- A slice of triples, wherever it lies below block N. -/
def TriplesAt (N : Nat) (w : World) (bp : Option Addr) (l : List (Int × Int × UInt8)) : Prop := l = [] ∨ ∃ b o, bp = some ⟨b, o, none⟩ ∧ b < N ∧ ∀ (j : Nat) (q : Int × Int × UInt8), l[j]? = some q → w.cell? ⟨b, o + j * 3, none⟩ = some (.int .i64 q.1) ∧ w.cell? ⟨b, o + j * 3 + 1, none⟩ = some (.int .i64 q.2.1) ∧ w.cell? ⟨b, o + j * 3 + 2, none⟩ = some (cu8 q.2.2)
theorem TriplesAt.below {N : Nat} {w w' : World} {bp : Option Addr} {l : List (Int × Int × UInt8)} (h : TriplesAt N w bp l) (hb : Below N w w') : TriplesAt N w' bp l :=
  h.imp id (fun ⟨b, o, h1, h2, h3⟩ => ⟨b, o, h1, h2, fun j q hj => ⟨(hb.cell (p := ⟨b, o + j * 3, none⟩) h2).trans (h3 j q hj).1, (hb.cell (p := ⟨b, o + j * 3 + 1, none⟩) h2).trans (h3 j q hj).2.1, (hb.cell (p := ⟨b, o + j * 3 + 2, none⟩) h2).trans (h3 j q hj).2.2⟩⟩)
def In64 (a : Int) : Prop := -9223372036854775808 ≤ a ∧ a ≤ 9223372036854775807
def InInt3 (q : Int × Int × UInt8) : Prop := In64 q.1 ∧ In64 q.2.1

set_option maxRecDepth 100000 in
theorem triple_of_trod {H : Type} {enc : TypeId × Value → H} {W : World} {base fuel : Nat} {spare : Nat → Bool} {held : Bool} {cs : List Value} {x : DataW H × List MemPlace} (hf : DataW.trod enc Tryz.prog W base spare held fuel 69 cs = some x) :
    ∃ q : Int × Int × UInt8, cs = [.int .i64 q.1, .int .i64 q.2.1, cu8 q.2.2] ∧ InInt3 q := by
  obtain ⟨y0, y1, y2, n, _, hl, h0, h1, h2⟩ := trod_struct3 Tryz.underlying69 hf
  rw [Tryz.cellsTriple] at hl
  have hl' : cs.length = 3 := hl
  obtain ⟨z0, e0, _, w0⟩ := DataW.trod_int Tryz.underlying3 h0
  obtain ⟨z1, e1, _, w1⟩ := DataW.trod_int Tryz.underlying3 h1
  obtain ⟨z2, e2, _, w2⟩ := DataW.trod_int Tryz.underlying5 h2
  have e0' : (cs.drop 0).take 1 = [Value.int .i64 z0] := e0
  have e1' : (cs.drop 1).take 1 = [Value.int .i64 z1] := e1
  have e2' : (cs.drop 2).take 1 = [Value.int .u8 z2] := e2
  obtain ⟨c, hc8⟩ : ∃ c : UInt8, Value.int .u8 z2 = cu8 c := by
    refine ⟨UInt8.ofNat z2.toNat, ?_⟩
    have hb : 0 ≤ z2 ∧ z2 ≤ 255 := by simpa [Lit.wf, IntKind.min, IntKind.max, IntKind.bits, IntKind.signed] using w2
    rw [cu8_nat, UInt8.toNat_ofNat']
    congr 1
    omega
  match cs, hl' with
  | [c0, c1, c2], _ =>
    have f0 : c0 = Value.int .i64 z0 := (List.cons.inj e0').1
    have f1 : c1 = Value.int .i64 z1 := (List.cons.inj e1').1
    have f2 : c2 = Value.int .u8 z2 := (List.cons.inj e2').1
    exact ⟨(z0, z1, c), by rw [f0, f1, f2, hc8], bounds_i64 w0, bounds_i64 w1⟩

theorem open_triples {H : Type} {enc : TypeId × Value → H} {W : World} {a0 : Option Addr} {len cap : Nat} {d0 : DataW H} {p : List MemPlace} (h0 : DataW.Trod enc Tryz.prog W 0 (fun _ => true) true 63 (.slice a0 len cap) d0 p) :
    ∃ l : List (Int × Int × UInt8), l.length = len ∧ TriplesAt W.heap.size W a0 l ∧ len ≤ 9223372036854775807 ∧ ∀ q ∈ l, InInt3 q := by
  obtain ⟨fuel, hf⟩ := h0
  rcases open_slice Tryz.underlying63 hf with ⟨hcs, _⟩ | ⟨a, len', cap', m, n, D, Pl, hcs, _, hl, hm, hmm, hx, hrow⟩
  · simp [Value.cells] at hcs
    obtain ⟨rfl, rfl, rfl⟩ := hcs
    exact ⟨[], rfl, .inl rfl, by omega, by simp⟩
  · simp [Value.cells] at hcs
    obtain ⟨rfl, rfl, rfl⟩ := hcs
    unfold maxLen at hm
    have hlm : len ≤ m := by rw [hmm]; split <;> omega
    rw [Tryz.cellsTriple] at hrow
    have hc : ∀ i, i < len → ∃ q : Int × Int × UInt8, W.cell? (a.add (i * 3)) = some (.int .i64 q.1) ∧ W.cell? (a.add (i * 3 + 1)) = some (.int .i64 q.2.1) ∧ W.cell? (a.add (i * 3 + 2)) = some (cu8 q.2.2) ∧ InInt3 q := fun i hi => by
      obtain ⟨cs', h1, h2⟩ := hrow i (by omega)
      obtain ⟨q, rfl, hok⟩ := triple_of_trod h2
      obtain ⟨_, hlen, hcell⟩ := World.cells?_some h1
      have k0 := hcell 0 (by omega)
      have k1 := hcell 1 (by omega)
      have k2 := hcell 2 (by omega)
      rw [Deep.add_add] at k0 k1 k2
      exact ⟨q, k0.trans rfl, k1.trans rfl, k2.trans rfl, hok⟩
    classical
    refine ⟨(List.range len).map (fun i => if h : i < len then (hc i h).choose else (0, 0, 0)), by simp, ?_, by omega, fun q hq => ?_⟩
    · rcases Nat.eq_zero_or_pos len with h | hpos
      · exact .inl (by subst h; rfl)
      right
      obtain ⟨b, off, s⟩ := a
      obtain ⟨q0, hq0, _⟩ := hc 0 hpos
      obtain rfl : s = none := by simpa [Addr.add] using World.cell?_spot hq0
      refine ⟨b, off, rfl, ?_, fun j q hj => ?_⟩
      · have := World.block_lt_of_cell? W _ hq0
        simpa [add_at] using this
      · have hjl : j < len := by simpa using (List.getElem?_eq_some_iff.1 hj).1
        have eq' : (hc j hjl).choose = q := by simpa [hjl] using hj
        obtain ⟨h1, h2, h3, _⟩ := (hc j hjl).choose_spec
        rw [eq'] at h1 h2 h3
        rw [add_at] at h1 h2 h3
        exact ⟨h1, by rw [Nat.add_assoc]; exact h2, by rw [Nat.add_assoc]; exact h3⟩
    · obtain ⟨i, hi, rfl⟩ := List.mem_map.1 hq
      have hil := List.mem_range.1 hi
      rw [dif_pos hil]
      exact (hc i hil).choose_spec.2.2.2
end Go.Proofs.YtjkkbceddbkejaaGreatDoor
