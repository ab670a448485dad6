/-
  The reference's disk in memory; its small calls.
-/
import Derived.Test.YtbmpbcnoclhhgaaDoorProg
import Derived.WalkKit
import Derived.Below
import Derived.IntWalk
import Derived.Laws.OwnMore
import Derived.Deep.MidRow
import Derived.Deep.LoopGhost
import Derived.Lib.Hide
namespace Go.Proofs.YtbmpbcnoclhhgaaDoor
open Go.RowKit

/-! Pages: 64 cells each, one behind the other. -/
def IsPage (p : List Value) : Prop := p.length = 64 ∧ ∀ v ∈ p, v.oneCell' = true
def Pages (pgs : List (List Value)) : Prop := ∀ p ∈ pgs, IsPage p

theorem flat_length : ∀ {pgs : List (List Value)}, Pages pgs → pgs.flatten.length = pgs.length * 64
  | [], _ => rfl
  | p :: r, h => by
    rw [List.flatten_cons, List.length_append, (h p (by simp)).1, flat_length (fun q hq => h q (by simp [hq])), List.length_cons]
    omega
theorem flat_get : ∀ {pgs : List (List Value)}, Pages pgs → ∀ (i : Nat) (p : List Value), pgs[i]? = some p → ∀ j, j < 64 → pgs.flatten[i * 64 + j]? = p[j]?
  | [], _, _, _, hi, _, _ => by simp at hi
  | q :: r, h, i, p, hi, j, hj => by
    have hq := (h q (by simp)).1
    rw [List.flatten_cons]
    cases i with
    | zero =>
      obtain rfl : q = p := by simpa using hi
      rw [List.getElem?_append_left (by omega)]
      simp
    | succ i =>
      rw [List.getElem?_append_right (by omega), show (i + 1) * 64 + j - q.length = i * 64 + j by omega]
      exact flat_get (fun x hx => h x (by simp [hx])) i p (by simpa using hi) j hj
theorem flat_one {pgs : List (List Value)} (h : Pages pgs) : ∀ v ∈ pgs.flatten, v.oneCell' = true := fun v hv => by
  obtain ⟨p, hp, hvp⟩ := List.mem_flatten.1 hv
  exact (h p hp).2 v hvp

/-- A page out of a row of pages. -/
theorem own_page {w : World} {B g n cap : Nat} {e : TypeId} {pgs : List (List Value)} (h : w.ownsRow B e 64 (.slice (some ⟨g, 0, none⟩) n cap) n pgs.flatten) (hp : Pages pgs) (i : Nat) (p : List Value) (hi : pgs[i]? = some p) (hn : pgs.length = n) : w.rangeAt g (i * 64) p := by
  intro j v hj
  have hil : i < n := by rw [← hn]; exact (List.getElem?_eq_some_iff.1 hi).1
  have hj64 : j < 64 := by have := (List.getElem?_eq_some_iff.1 hj).1; have := (hp p (List.mem_of_getElem? hi)).1; omega
  rw [h.cellAt (i * 64 + j) (by omega), flat_get hp i p hi j hj64, hj]

/-- The reference's disk in block g. -/
structure RefAt (g : Nat) (vf va vw : Value) (firm : List (List Value)) (ats : List Int) (what : List (List Value)) (fuel : Int) (off : Bool) (w : World) : Prop where
  at_ : w.heap[g]? = some (.cells #[vf, va, vw, .int .i64 fuel, .bool off] 40 (0, 0))
  rowF : w.ownsRow 0 42 64 vf firm.length firm.flatten
  rowA : w.ownsRow 0 3 1 va ats.length (ats.map fun i => Value.int .i64 i)
  rowW : w.ownsRow 0 42 64 vw what.length what.flatten
  firmOk : Pages firm
  whatOk : Pages what
  apart : vf.ownBlock ≠ some g ∧ va.ownBlock ≠ some g ∧ vw.ownBlock ≠ some g ∧ (vf.ownBlock = none ∨ vf.ownBlock ≠ vw.ownBlock) ∧ (vf.ownBlock = none ∨ vf.ownBlock ≠ va.ownBlock) ∧ (vw.ownBlock = none ∨ vw.ownBlock ≠ va.ownBlock)

section
variable {g : Nat} {vf va vw : Value} {firm what : List (List Value)} {ats : List Int} {fuel : Int} {off : Bool} {w : World}
theorem RefAt.cell (h : RefAt g vf va vw firm ats what fuel off w) (j : Nat) : w.cell? ⟨g, j, none⟩ = (#[vf, va, vw, .int .i64 fuel, .bool off] : Array Value)[j]? := cell_of_row w g j _ _ _ h.at_
theorem RefAt.thaw (h : RefAt g vf va vw firm ats what fuel off w) (j : Nat) : w.frozen? ⟨g, j, none⟩ = false := by simp [World.frozen?, h.at_]
theorem RefAt.lt (h : RefAt g vf va vw firm ats what fuel off w) : g < w.heap.size := (Array.getElem?_eq_some_iff.1 h.at_).1
theorem grown_setCell (w : World) (a : Addr) (x : Value) : w.grownBy (w.setCell a x) (some a.block) :=
  ⟨rfl, rfl, rfl, by simp [World.setCell], fun k _ hk => Below.heap_setCell _ _ _ _ (fun e => hk (by rw [e]))⟩
theorem RefAt.setFuel (h : RefAt g vf va vw firm ats what fuel off w) (f : Int) : RefAt g vf va vw firm ats what f off (w.setCell ⟨g, 3, none⟩ (.int .i64 f)) := by
  have hg := grown_setCell w ⟨g, 3, none⟩ (.int .i64 f)
  refine ⟨by simp [World.setCell, Array.getElem?_modify, h.at_], h.rowF.kept hg (.inr h.apart.1), h.rowA.kept hg (.inr h.apart.2.1), h.rowW.kept hg (.inr h.apart.2.2.1), h.firmOk, h.whatOk, h.apart⟩
theorem RefAt.setOff (h : RefAt g vf va vw firm ats what fuel off w) (b : Bool) : RefAt g vf va vw firm ats what fuel b (w.setCell ⟨g, 4, none⟩ (.bool b)) := by
  have hg := grown_setCell w ⟨g, 4, none⟩ (.bool b)
  refine ⟨by simp [World.setCell, Array.getElem?_modify, h.at_], h.rowF.kept hg (.inr h.apart.1), h.rowA.kept hg (.inr h.apart.2.1), h.rowW.kept hg (.inr h.apart.2.2.1), h.firmOk, h.whatOk, h.apart⟩

/-- no: is there no such sector? -/
theorem no_any (h : RefAt g vf va vw firm ats what fuel off w) (i : Int) :
    Calls Tryd.prog 30 #[.pointer (some ⟨g, 0, none⟩), .int .i64 i] w fun e w' => e = .returned (.bool (decide (i < 0 ∨ (firm.length : Int) ≤ i))) ∧ w' = w := by
  have c0 := h.cell 0
  obtain ⟨ao, cap, rfl⟩ : ∃ ao cap, vf = .slice ao firm.length cap := by
    rcases h.rowF.2 with ⟨hv, h0⟩ | ⟨g, cap, cur, hv, _⟩
    · exact ⟨none, 0, by rw [hv, h0]⟩
    · exact ⟨_, _, hv⟩
  have c0 : w.cell? ⟨g, 0, none⟩ = some (.slice ao firm.length cap) := c0
  obtain ⟨L, hL⟩ : ∃ L, firm.length = L := ⟨_, rfl⟩
  rw [hL] at c0 ⊢
  by_cases hi : i < 0
  · have hd : decide (i < 0 ∨ (L : Int) ≤ i) = true := by simp; omega
    rw [hd]
    go_enter Tryd.func30, Tryd.ntmps30
    go_wp2
    go_ret
    exact ⟨rfl, rfl⟩
  · have hd : decide (i < 0 ∨ (L : Int) ≤ i) = decide ((L : Int) ≤ i) := by simp [hi]
    rw [hd]
    go_enter Tryd.func30, Tryd.ntmps30
    go_wp2
    go_ret
    exact ⟨rfl, rfl⟩

/-- What a step leaves of fuel and being off, and what it answers. -/
def stepS (fuel : Int) (off : Bool) : Int × Bool × Int :=
  if fuel = 0 then (fuel, true, 10) else if off = true then (fuel, true, 10) else if 0 < fuel then (fuel - 1, false, 0) else (fuel, false, 0)

theorem rstep_any (h : RefAt g vf va vw firm ats what fuel off w) (hf : fuel ≤ 9223372036854775807) :
    Calls Tryd.prog 38 #[.pointer (some ⟨g, 0, none⟩)] w fun e w' => e = .returned (.int .i64 (stepS fuel off).2.2) ∧ RefAt g vf va vw firm ats what (stepS fuel off).1 (stepS fuel off).2.1 w' ∧ w.grownBy w' (some g) := by
  have c3 : w.cell? ⟨g, 3, none⟩ = some (.int .i64 fuel) := h.cell 3
  have c4 : w.cell? ⟨g, 4, none⟩ = some (.bool off) := h.cell 4
  have f3 := h.thaw 3
  have f4 := h.thaw 4
  by_cases h0 : fuel = 0
  · have hs : stepS fuel off = (fuel, true, 10) := by simp [stepS, h0]
    have hr := h.setOff true
    have hgr := grown_setCell w ⟨g, 4, none⟩ (.bool true)
    have c4' : (w.setCell ⟨g, 4, none⟩ (.bool true)).cell? ⟨g, 4, none⟩ = some (.bool true) := World.cell?_setCell_same' _ _ _ (by simp [c4])
    rw [hs]
    subst h0
    go_enter Tryd.func38, Tryd.ntmps38
    go_wp2
    go_ret
    exact ⟨rfl, hr, hgr⟩
  · cases off with
    | true =>
      have hs : stepS fuel true = (fuel, true, 10) := by simp [stepS, h0]
      rw [hs]
      go_enter Tryd.func38, Tryd.ntmps38
      go_wp2
      go_ret
      exact ⟨rfl, h, ⟨rfl, rfl, rfl, Nat.le_refl _, fun _ _ _ => rfl⟩⟩
    | false =>
      by_cases hp : 0 < fuel
      · have hs : stepS fuel false = (fuel - 1, false, 0) := by simp [stepS, h0, hp]
        have hw : IntKind.i64.wrap (fuel - 1) = fuel - 1 := IntWalk.i64_in _ (by omega)
        have hr := h.setFuel (fuel - 1)
        have hgr := grown_setCell w ⟨g, 3, none⟩ (.int .i64 (fuel - 1))
        rw [hs]
        go_enter Tryd.func38, Tryd.ntmps38
        go_wp2
        go_ret
        exact ⟨rfl, hr, hgr⟩
      · have hs : stepS fuel false = (fuel, false, 0) := by simp [stepS, h0, hp]
        rw [hs]
        go_enter Tryd.func38, Tryd.ntmps38
        go_wp2
        go_ret
        exact ⟨rfl, h, ⟨rfl, rfl, rfl, Nat.le_refl _, fun _ _ _ => rfl⟩⟩
end
end Go.Proofs.YtbmpbcnoclhhgaaDoor
