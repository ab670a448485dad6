/-
  The reference's disk: Write where nothing is written.
-/
import Derived.Test.YtbmpbcnoclhhgaaDoorDiskWrite2
namespace Go.Proofs.YtbmpbcnoclhhgaaDoor
open Go.RowKit Sh

section
variable {g : Nat} {vf va vw : Value} {firm what : List (List Value)} {ats : List Int} {fuel : Int} {off : Bool} {w : World}

/-- What Write answers, and leaves of fuel and of being off, where nothing is written. -/
def noWrite (firm : List (List Value)) (fuel : Int) (off : Bool) (i : Int) : Option (Int × Bool × Int) :=
  if off = true then some (fuel, true, 10) else if i < 0 ∨ (firm.length : Int) ≤ i then some (fuel, false, 1) else if fuel = 0 then some (fuel, true, 10) else none

set_option maxRecDepth 100000 in
set_option maxHeartbeats 4000000 in
theorem rwrite_no (h : RefAt g vf va vw firm ats what fuel off w) (hf : fuel ≤ 9223372036854775807) (i : Int) (p : List Value) (r : Int × Bool × Int) (hr : noWrite firm fuel off i = some r) :
    Calls Tryd.prog 26 #[.pointer (some ⟨g, 0, none⟩), .int .i64 i, .agg p.toArray] w fun e w' => e = .returned (.int .i64 r.2.2) ∧ RefAt g vf va vw firm ats what r.1 r.2.1 w' ∧ Only (fun k => k = g) w w' := by
  have hb1 := (Below.refl w.heap.size w).alloc (Nat.le_refl _) (.cells p.toArray 42)
  have h1 := h.below hb1
  have c4 : (w.alloc (.cells p.toArray 42)).cell? ⟨g, 4, none⟩ = some (.bool off) := h1.cell 4
  have hno := no_any h1 i
  have hstep := rstep_any h1 hf
  cases off with
  | true =>
    obtain rfl : (fuel, true, 10) = r := by simpa [noWrite] using hr
    go_enter Tryd.func26, Tryd.ntmps26
    go_wp2
    go_ret
    exact ⟨rfl, h1, Only.of_below hb1⟩
  | false =>
    by_cases hbad : i < 0 ∨ (firm.length : Int) ≤ i
    · obtain rfl : (fuel, false, 1) = r := by simpa [noWrite, hbad] using hr
      have hd : decide (i < 0 ∨ (firm.length : Int) ≤ i) = true := by simpa using hbad
      rw [hd] at hno
      clear hbad hd
      go_enter Tryd.func26, Tryd.ntmps26
      go_wp2_with (go_at_call 30; refine hno.mono ?_; rintro e w' ⟨rfl, rfl⟩)
      go_ret
      exact ⟨rfl, h1, Only.of_below hb1⟩
    · have h0 : fuel = 0 := by
        by_cases h0 : fuel = 0
        · exact h0
        · simp [noWrite, hbad, h0] at hr
      obtain rfl : (fuel, true, 10) = r := by simpa [noWrite, hbad, h0] using hr
      have hd : decide (i < 0 ∨ (firm.length : Int) ≤ i) = false := by simpa using hbad
      rw [hd] at hno
      have hs : stepS fuel false = (fuel, true, 10) := by simp [stepS, h0]
      rw [hs] at hstep
      clear hbad hd hs h0 hr
      go_enter Tryd.func26, Tryd.ntmps26
      go_wp2_with (first
        | (go_at_call 30; refine hno.mono ?_; rintro e w' ⟨rfl, rfl⟩)
        | (go_at_call 38; refine hstep.mono ?_; rintro e w2 ⟨rfl, h2, hg2⟩))
      go_ret
      exact ⟨rfl, h2, (Only.of_below (F := fun k => k = g) hb1).trans (Only.of_grown (F := fun k => k = g) hg2 (fun k e => by simpa using e.symm)) (fun j hj => .inl hj)⟩
end
end Go.Proofs.YtbmpbcnoclhhgaaDoor
