/-
  The reference's disk: Write.
-/
import Derived.Test.YtbmpbcnoclhhgaaDoorDiskRows
import Derived.Deep.AppendLies
import Derived.RegionTactic
namespace Go.Proofs.YtbmpbcnoclhhgaaDoor
open Go.RowKit Sh

section
variable {g : Nat} {vf va vw : Value} {firm what : List (List Value)} {ats : List Int} {fuel : Int} {off : Bool} {w w3 w4 : World}

/-- The places' row has a place more, laid into its field. -/
theorem RefAt.putAts (h : RefAt g vf va vw firm ats what fuel off w) {gg cap : Nat} {i : Int} (h3 : Below w.heap.size w w3)
    (hown : w4.ownsRow 0 3 1 (.slice (some ⟨gg, 0, none⟩) (ats.length + 1) cap) (ats.length + 1) ((ats.map fun i => Value.int .i64 i) ++ [.int .i64 i])) (hgr : w3.grownBy w4 va.ownBlock) (hat : va.ownBlock = some gg ∨ w.heap.size ≤ gg) :
    RefAt g vf (.slice (some ⟨gg, 0, none⟩) (ats.length + 1) cap) vw firm (ats ++ [i]) what fuel off (w4.setCell ⟨g, 1, none⟩ (.slice (some ⟨gg, 0, none⟩) (ats.length + 1) cap)) ∧
      Only (Foot g vf va vw) w (w4.setCell ⟨g, 1, none⟩ (.slice (some ⟨gg, 0, none⟩) (ats.length + 1) cap)) ∧ (Foot g vf va vw gg ∨ w.heap.size ≤ gg) := by
  obtain ⟨a1, a2, a3, a4, a5, a6⟩ := h.apart
  have hlt := h.lt
  have hg3 : w.grownBy w3 none := ⟨h3.os, h3.tape, h3.output, h3.size, fun j hj _ => h3.block j hj⟩
  have ho : ∀ v : Value, v.ownBlock = none ∨ v.ownBlock ≠ none := fun v => by cases v.ownBlock <;> simp
  have f3 := (h.rowF.kept hg3 (ho _)).kept hgr a5
  have w3' := (h.rowW.kept hg3 (ho _)).kept hgr a6
  have b4 : w4.heap[g]? = some (.cells #[vf, va, vw, .int .i64 fuel, .bool off] 40 (0, 0)) :=
    (hgr.block g (by have := h3.size; omega) (fun e => a2 e.symm)).trans ((h3.block g hlt).trans h.at_)
  have hs := grown_setCell w4 ⟨g, 1, none⟩ (.slice (some ⟨gg, 0, none⟩) (ats.length + 1) cap)
  have hgg : gg ≠ g := by
    rcases hat with e | e
    · intro e2; rw [e, e2] at a2; exact a2 rfl
    · omega
  have hne : (Value.slice (some ⟨gg, 0, none⟩) (ats.length + 1) cap).ownBlock ≠ some g := by simp [Value.ownBlock, hgg]
  have hfg : vf.ownBlock = none ∨ vf.ownBlock ≠ some gg := by
    rcases hat with e | e
    · rw [← e]; exact a5
    · rcases hv : vf.ownBlock with _ | k
      · exact .inl rfl
      · right; have := (h.rowF.lt k hv).2; simp; omega
  have hwg : vw.ownBlock = none ∨ vw.ownBlock ≠ some gg := by
    rcases hat with e | e
    · rw [← e]; exact a6
    · rcases hv : vw.ownBlock with _ | k
      · exact .inl rfl
      · right; have := (h.rowW.lt k hv).2; simp; omega
  refine ⟨⟨by simp [World.setCell, Array.getElem?_modify, b4], f3.kept hs (.inr a1), ?_, w3'.kept hs (.inr a3), h.firmOk, h.whatOk, a1, hne, a3, a4, hfg, hwg⟩, ?_, ?_⟩
  · rw [List.length_append, List.map_append]
    exact hown.kept hs (.inr hne)
  · refine ⟨hgr.os.trans h3.os, hgr.tape.trans h3.tape, hgr.output.trans h3.output, by have := h3.size; have := hgr.size; simp [World.setCell]; omega, fun k hk hn => ?_⟩
    have hkg : k ≠ g := fun e => hn (.inl e)
    have hka : some k ≠ va.ownBlock := fun e => hn (.inr (.inr (.inl e.symm)))
    rw [Below.heap_setCell _ _ _ _ hkg, hgr.block k (by have := h3.size; omega) hka, h3.block k hk]
  · rcases hat with e | e
    · exact .inl (.inr (.inr (.inl e)))
    · exact .inr e

/-- The pages' row has a page more, laid into its field. -/
theorem RefAt.putWhat (h : RefAt g vf va vw firm ats what fuel off w) {gg cap : Nat} {p : List Value} (hp : IsPage p) (h3 : Below w.heap.size w w3)
    (hown : w4.ownsRow 0 42 64 (.slice (some ⟨gg, 0, none⟩) (what.length + 1) cap) (what.length + 1) (what.flatten ++ p)) (hgr : w3.grownBy w4 vw.ownBlock) (hat : vw.ownBlock = some gg ∨ w.heap.size ≤ gg) :
    RefAt g vf va (.slice (some ⟨gg, 0, none⟩) (what.length + 1) cap) firm ats (what ++ [p]) fuel off (w4.setCell ⟨g, 2, none⟩ (.slice (some ⟨gg, 0, none⟩) (what.length + 1) cap)) ∧
      Only (Foot g vf va vw) w (w4.setCell ⟨g, 2, none⟩ (.slice (some ⟨gg, 0, none⟩) (what.length + 1) cap)) ∧ (Foot g vf va vw gg ∨ w.heap.size ≤ gg) := by
  obtain ⟨a1, a2, a3, a4, a5, a6⟩ := h.apart
  have hlt := h.lt
  have hg3 : w.grownBy w3 none := ⟨h3.os, h3.tape, h3.output, h3.size, fun j hj _ => h3.block j hj⟩
  have ho : ∀ v : Value, v.ownBlock = none ∨ v.ownBlock ≠ none := fun v => by cases v.ownBlock <;> simp
  have a6' : va.ownBlock = none ∨ va.ownBlock ≠ vw.ownBlock := by
    rcases hv : va.ownBlock with _ | k
    · exact .inl rfl
    · right
      rcases a6 with e | e
      · rw [e]; simp
      · rw [hv] at e; exact fun e2 => e e2.symm
  have f3 := (h.rowF.kept hg3 (ho _)).kept hgr a4
  have a3' := (h.rowA.kept hg3 (ho _)).kept hgr a6'
  have b4 : w4.heap[g]? = some (.cells #[vf, va, vw, .int .i64 fuel, .bool off] 40 (0, 0)) :=
    (hgr.block g (by have := h3.size; omega) (fun e => a3 e.symm)).trans ((h3.block g hlt).trans h.at_)
  have hs := grown_setCell w4 ⟨g, 2, none⟩ (.slice (some ⟨gg, 0, none⟩) (what.length + 1) cap)
  have hgg : gg ≠ g := by
    rcases hat with e | e
    · intro e2; rw [e, e2] at a3; exact a3 rfl
    · omega
  have hne : (Value.slice (some ⟨gg, 0, none⟩) (what.length + 1) cap).ownBlock ≠ some g := by simp [Value.ownBlock, hgg]
  have hfg : vf.ownBlock = none ∨ vf.ownBlock ≠ some gg := by
    rcases hat with e | e
    · rw [← e]; exact a4
    · rcases hv : vf.ownBlock with _ | k
      · exact .inl rfl
      · right; have := (h.rowF.lt k hv).2; simp; omega
  have hwg : some gg ≠ va.ownBlock := by
    rcases hat with e | e
    · rw [← e]
      rcases a6 with e2 | e2
      · rw [e2] at e; cases e
      · exact e2
    · intro e2; have := (h.rowA.lt gg e2.symm).2; omega
  have hok : Pages (what ++ [p]) := fun q hq => by
    rcases List.mem_append.1 hq with hq | hq
    · exact h.whatOk q hq
    · rw [List.mem_singleton.1 hq]; exact hp
  refine ⟨⟨by simp [World.setCell, Array.getElem?_modify, b4], f3.kept hs (.inr a1), a3'.kept hs (.inr a2), ?_, h.firmOk, hok, a1, a2, hne, hfg, a5, .inr hwg⟩, ?_, ?_⟩
  · rw [List.length_append, List.flatten_append]
    have := hown.kept hs (.inr hne)
    simpa using this
  · refine ⟨hgr.os.trans h3.os, hgr.tape.trans h3.tape, hgr.output.trans h3.output, by have := h3.size; have := hgr.size; simp [World.setCell]; omega, fun k hk hn => ?_⟩
    have hkg : k ≠ g := fun e => hn (.inl e)
    have hka : some k ≠ vw.ownBlock := fun e => hn (.inr (.inr (.inr e.symm)))
    rw [Below.heap_setCell _ _ _ _ hkg, hgr.block k (by have := h3.size; omega) hka, h3.block k hk]
  · rcases hat with e | e
    · exact .inl (.inr (.inr (.inr e)))
    · exact .inr e
end
end Go.Proofs.YtbmpbcnoclhhgaaDoor
