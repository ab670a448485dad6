/-
  PDUs that came in, opened.
-/
import Derived.Test.YtakejggofghblaaPdOpen
import Derived.Test.YtakejggofghblaaPdList
set_option linter.unusedSimpArgs false
set_option linter.unusedVariables false
namespace Go.Proofs.Ytakejggofghblaa
open Go.RowKit Go.ChangeShapes Go.WideShapes Go.ChangeAt Go.Deep Sh Cr Pd

theorem add14 (b off i : Nat) : (⟨b, off, none⟩ : Addr).add i = ⟨b, off + i, none⟩ := by unfold Addr.add; split <;> simp_all
section
variable {H : Type} {enc : TypeId × Value → H} {W : World}
theorem open_pdus {a0 : Option Addr} {len cap : Nat} {d0 : DataW H} {p : List MemPlace} (h0 : DataW.Trod enc Try.prog W 0 (fun _ => true) true 46 (.slice a0 len cap) d0 p) :
    ∃ l : List P, l.length = len ∧ PdR W.heap.size W a0 l ∧ ∀ q ∈ l, q.Ok := by
  obtain ⟨fuel, hf⟩ := h0
  rcases open_slice Try.underlying46 hf with ⟨hcs, _⟩ | ⟨a, len', cap', m, n, D, Pl, hcs, _, hl, hm, hmm, hx, hrow⟩
  · simp [Value.cells] at hcs
    obtain ⟨rfl, rfl, rfl⟩ := hcs
    exact ⟨[], rfl, .inl rfl, by simp⟩
  · simp [Value.cells] at hcs
    obtain ⟨rfl, rfl, rfl⟩ := hcs
    have hlm : len ≤ m := by rw [hmm]; split <;> omega
    rw [Try.cellsPdu] at hrow
    have hc : ∀ i, i < len → ∃ q : P, q.Ok ∧ ∃ pv : List Value, PduV W q pv.toArray ∧ pv.length = 16 ∧ ∀ j, j < 16 → W.cell? ((a.add (i * 16)).add j) = pv[j]? := fun i hi => by
      obtain ⟨cs', h1, h2⟩ := hrow i (by omega)
      obtain ⟨q, hk, hv⟩ := pdu_of_trod h2
      obtain ⟨_, hlen, hcell⟩ := World.cells?_some h1
      exact ⟨q, hk, cs', hv, hlen, fun j hj => hcell j hj⟩
    classical
    refine ⟨(List.range len).map (fun i => if h : i < len then (hc i h).choose else {}), by simp, ?_, ?_⟩
    · rcases Nat.eq_zero_or_pos len with h | hpos
      · exact .inl (by subst h; rfl)
      right
      obtain ⟨b, off, s⟩ := a
      obtain ⟨q0, _, pv0, _, hl0, hq0⟩ := hc 0 hpos
      have hq1 := hq0 0 (by omega)
      rw [List.getElem?_eq_getElem (by omega)] at hq1
      obtain rfl : s = none := by simpa [Addr.add] using World.cell?_spot hq1
      refine ⟨b, off, rfl, ?_, fun j q hj => ?_⟩
      · have := World.block_lt_of_cell? W _ hq1
        simpa [add14] using this
      · have hjl : j < len := by simpa using (List.getElem?_eq_some_iff.1 hj).1
        have eq' : (hc j hjl).choose = q := by simpa [hjl] using hj
        obtain ⟨_, pv, hv, hl1, hcell⟩ := (hc j hjl).choose_spec
        rw [eq'] at hv
        refine ⟨pv, hv.n, fun i v hi => ?_⟩
        have hi16 : i < 16 := by have := (List.getElem?_eq_some_iff.1 hi).1; omega
        have := hcell i hi16
        rw [add14, add14] at this
        exact this.trans hi
    · intro q hq
      obtain ⟨i, hi, rfl⟩ := List.mem_map.1 hq
      have hil : i < len := by simpa using hi
      simp only [hil, dite_true]
      exact (hc i hil).choose_spec.1
end
end Go.Proofs.Ytakejggofghblaa
