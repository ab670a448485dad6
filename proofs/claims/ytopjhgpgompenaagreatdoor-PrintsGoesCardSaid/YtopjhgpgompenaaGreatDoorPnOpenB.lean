/-
  A row of booleans, opened.
-/
import Derived.Test.YtopjhgpgompenaaGreatDoorPnPrintsGoes
import Derived.Deep.Grids
set_option linter.unusedSimpArgs false
set_option linter.unusedVariables false
namespace Go.Proofs.YtopjhgpgompenaaGreatDoor
open Go.RowKit Sh Go.Maps Go.Deep

theorem cellsBool : Tryz.prog.cellsOf 4 = 1 := by kernel_rfl
theorem open_gone {H : Type} {enc : TypeId × Value → H} {W : World} {v : Value} {d0 : DataW H} {p : List MemPlace} (h0 : DataW.Trod enc Tryz.prog W 0 (fun _ => true) true 87 v d0 p) (hv : v.cells = #[v]) :
    ∃ (ap : Option Addr) (gl cap : Nat) (B : Nat → Bool), v = .slice ap gl cap ∧ Gone W ap gl B := by
  obtain ⟨fuel, hf⟩ := h0
  rw [hv] at hf
  rcases open_bools Tryz.underlying87 Tryz.underlying4 cellsBool hf with ⟨hcs, _⟩ | ⟨a, len, cap, B, hcs, _, hl, hm, _, hcell⟩
  · simp only [List.cons.injEq, and_true] at hcs
    exact ⟨none, 0, 0, fun _ => false, hcs, Nat.zero_le _, fun i hi => by omega⟩
  · simp only [List.cons.injEq, and_true] at hcs
    exact ⟨some a, len, cap, B, hcs, by omega, fun i hi => ⟨a, rfl, World.block_lt_of_cell? W _ (hcell i (by omega)), hcell i (by omega)⟩⟩
end Go.Proofs.YtopjhgpgompenaaGreatDoor
