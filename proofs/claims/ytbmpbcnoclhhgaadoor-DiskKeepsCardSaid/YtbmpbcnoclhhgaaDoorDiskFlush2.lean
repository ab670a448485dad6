/-
  The reference's disk: Flush where nothing is flushed.
-/
import Derived.Test.YtbmpbcnoclhhgaaDoorDiskFlush
namespace Go.Proofs.YtbmpbcnoclhhgaaDoor
open Go.RowKit Sh

section
variable {g : Nat} {vf va vw : Value} {firm what : List (List Value)} {ats : List Int} {fuel : Int} {off : Bool} {w : World}

set_option maxRecDepth 100000 in
set_option maxHeartbeats 4000000 in
theorem rflush_no (h : RefAt g vf va vw firm ats what fuel off w) (hf : fuel ≤ 9223372036854775807) (hno : off = true ∨ fuel = 0) :
    Calls Tryd.prog 27 #[.pointer (some ⟨g, 0, none⟩)] w fun e w' => e = .returned (.int .i64 10) ∧ RefAt g vf va vw firm ats what fuel true w' ∧ Only (fun k => k = g) w w' := by
  have c4 : w.cell? ⟨g, 4, none⟩ = some (.bool off) := h.cell 4
  have hstep := rstep_any h hf
  cases off with
  | true =>
    clear hstep
    go_enter Tryd.func27, Tryd.ntmps27
    go_wp2
    go_ret
    exact ⟨rfl, h, Only.refl _ _⟩
  | false =>
    have h0 : fuel = 0 := by simpa using hno
    have hs : stepS fuel false = (fuel, true, 10) := by simp [stepS, h0]
    rw [hs] at hstep
    clear hs h0 hno
    go_enter Tryd.func27, Tryd.ntmps27
    go_wp2_with (go_at_call 38; refine hstep.mono ?_; rintro e w2 ⟨rfl, h2, hg2⟩)
    go_ret
    exact ⟨rfl, h2, Only.of_grown hg2 (fun k e => by simpa using e.symm)⟩
end
end Go.Proofs.YtbmpbcnoclhhgaaDoor
