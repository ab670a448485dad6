/-
  The reference's ring in memory; its small calls.
-/
import Derived.Test.YtegdlpllljccgaaDoorJRg
import Derived.Test.YtegdlpllljccgaaDoorJDk
import Derived.StillTail
set_option linter.unusedSimpArgs false
set_option linter.unusedVariables false
namespace Go.Proofs.YtegdlpllljccgaaDoor
open Go.RowKit Sh

def ringCells (gd first n : Nat) (m : Mk) (used : Nat) : Array Value := (.pointer (some ⟨gd, 0, none⟩) :: .int .i64 first :: .int .i64 n :: .int .i64 m.place :: .int .u64 m.num :: (m.last.map cu8 ++ [.int .i64 used])).toArray
/-- The reference's ring in block g, its disk in block gd. -/
structure RgAt (g gd first n : Nat) (m : Mk) (used : Nat) (w : World) : Prop where
  at_ : w.heap[g]? = some (.cells (ringCells gd first n m used) 55 (0, 0))
  last : m.last.length = 32
section
variable {g gd first n used : Nat} {m : Mk} {w w' : World}
theorem RgAt.lt (h : RgAt g gd first n m used w) : g < w.heap.size := (Array.getElem?_eq_some_iff.1 h.at_).1
theorem RgAt.cell (h : RgAt g gd first n m used w) (j : Nat) : w.cell? ⟨g, j, none⟩ = (ringCells gd first n m used)[j]? := cell_of_row w g j _ _ _ h.at_
theorem RgAt.cell37 (h : RgAt g gd first n m used w) : w.cell? ⟨g, 37, none⟩ = some (.int .i64 used) := by
  rw [h.cell]
  have : (m.last.map cu8).length = 32 := by simp [h.last]
  simp [ringCells, List.getElem?_append_right, this]
theorem RgAt.below (h : RgAt g gd first n m used w) (hb : Below w.heap.size w w') : RgAt g gd first n m used w' := ⟨(hb.block g h.lt).trans h.at_, h.last⟩

/-- Takes. -/
theorem rtakes_any (k : Nat) (hk : k ≤ 4096) (w : World) : Calls Tryd.prog 21 #[.int .i64 k] w fun e w' => e = .returned (.int .i64 (takes k : Nat)) ∧ w' = w := by
  have w1 : IntKind.i64.wrap ((k : Int) + 15) = (k : Int) + 15 := IntWalk.i64_in _ (by omega)
  have w2 : Int.tdiv ((k : Int) + 15) 16 = ((k + 15) / 16 : Nat) := by rw [Int.tdiv_eq_ediv_of_nonneg (by omega)]; omega
  have w3 : IntKind.i64.wrap (((k + 15) / 16 : Nat) : Int) = (((k + 15) / 16 : Nat) : Int) := IntWalk.i64_in _ (by omega)
  have w4 : IntKind.i64.wrap (1 + (((k + 15) / 16 : Nat) : Int)) = 1 + (((k + 15) / 16 : Nat) : Int) := IntWalk.i64_in _ (by omega)
  have w5 : IntKind.i64.wrap (1 + (((k + 15) / 16 : Nat) : Int) + k) = (takes k : Nat) := by rw [IntWalk.i64_in _ (by omega)]; simp [takes]
  go_enter Tryd.func21, Tryd.ntmps21
  go_wp2
  go_ret
  exact ⟨rfl, rfl⟩

theorem RgAt.cells (h : RgAt g gd first n m used w) : w.cell? ⟨g, 0, none⟩ = some (.pointer (some ⟨gd, 0, none⟩)) ∧ w.cell? ⟨g, 1, none⟩ = some (.int .i64 first) ∧ w.cell? ⟨g, 2, none⟩ = some (.int .i64 n) ∧ w.cell? ⟨g, 3, none⟩ = some (.int .i64 m.place) ∧ w.cell? ⟨g, 4, none⟩ = some (.int .u64 m.num) := by
  refine ⟨?_, ?_, ?_, ?_, ?_⟩ <;> rw [h.cell] <;> simp [ringCells]

theorem flushS_pages : ∀ (ats : List Int) (what firm : List (List Value)), Pages firm → Pages what → Pages (flushS firm ats what)
  | [], what, firm, hf, _ => by cases what <;> exact hf
  | _ :: _, [], firm, hf, _ => hf
  | a :: xs, p :: ys, firm, hf, hw => by
    simp only [flushS]
    refine flushS_pages xs ys _ (fun q hq => ?_) (fun q hq => hw q (by simp [hq]))
    rcases List.mem_or_eq_of_mem_set hq with hq | rfl
    · exact hf q hq
    · exact hw _ (by simp)
theorem page_of_read {S : St} (h : Pages S.newest) (i : Int) : IsPage (readOf S i).1 := by
  unfold readOf readN
  split
  · rw [List.getD_eq_getElem?_getD]
    cases hc : S.newest[i.toNat]? with
    | none => exact zeroPage_ok
    | some p => exact h p (List.mem_of_getElem? hc)
  · exact zeroPage_ok
theorem RD.newPages {S : St} {F : Nat → Prop} {gd : Nat} {w : World} (h : RD S F gd w) : Pages S.newest := flushS_pages _ _ _ h.pages.1 h.pages.2

end
end Go.Proofs.YtegdlpllljccgaaDoor
