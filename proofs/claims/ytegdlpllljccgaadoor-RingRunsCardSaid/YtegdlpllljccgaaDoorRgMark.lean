/-
  The reference's mark as a value: built of a place, a number and 32 bytes.
-/
import Derived.Test.YtegdlpllljccgaaDoorRgAt
set_option linter.unusedSimpArgs false
set_option linter.unusedVariables false
namespace Go.Proofs.YtegdlpllljccgaaDoor
open Go.RowKit Sh

theorem fill_three (cells : Array Value) (hc : cells.size = 34) (a b : Value) (ha : a.cells = #[a]) (hb : b.cells = #[b]) (p : List Value) (hp : p.length = 32) (places : Nat → Option (Nat × Nat)) (h0 : places 0 = some (0, 1)) (h1 : places 1 = some (1, 1)) (h2 : places 2 = some (2, 32)) :
    Instr.fill places cells [(0, a), (1, b), (2, .agg p.toArray)] = some (a :: b :: p).toArray := by
  have e1 : (Value.agg p.toArray).cells = p.toArray := rfl
  simp only [Instr.fill, h0, h1, h2, ha, hb, e1]
  have s1 : ∀ (x : Value) (k : Nat) (cs : Array Value), (#[x] : Array Value).zipIdx.foldl (fun cs x => match x with | (c, j) => cs.setIfInBounds (k + j) c) cs = cs.setIfInBounds k x := fun x k cs => by
    show cs.setIfInBounds (k + 0) x = _
    rw [Nat.add_zero]
  rw [if_neg (by simp [hc]), s1, if_neg (by simp [hc]), s1, if_neg (by simp [hc, hp])]
  congr 1
  rw [← Array.foldl_toList, Array.toList_zipIdx]
  obtain ⟨hs, hk⟩ := Great.foldl_set 2 p 0 ((cells.setIfInBounds 0 a).setIfInBounds 1 b)
  apply Array.ext_getElem?
  intro k
  refine (hk k).trans ?_
  rw [Array.size_setIfInBounds, Array.size_setIfInBounds, hc]
  by_cases hk0 : k = 0
  · subst hk0
    rw [if_neg (by omega), Array.getElem?_setIfInBounds, Array.getElem?_setIfInBounds]
    simp [hc]
  · by_cases hk1 : k = 1
    · subst hk1
      rw [if_neg (by omega), Array.getElem?_setIfInBounds]
      simp [hc]
    · by_cases hlt : k < 34
      · rw [if_pos (by omega)]
        obtain ⟨j, rfl⟩ : ∃ j, k = j + 2 := ⟨k - 2, by omega⟩
        rw [show j + 2 - (2 + 0) = j by omega]
        simp
      · rw [if_neg (by omega), Array.getElem?_eq_none (by simp [hc]; omega), Array.getElem?_eq_none (by simp [hp]; omega)]

def markCells (m : Mk) : List Value := .int .i64 m.place :: .int .u64 m.num :: m.last.map cu8
theorem infoMark : (Tryd.prog.info? 46).map (fun i => (i.zero, i.size)) = some (some (.agg (markCells ⟨0, 0, List.replicate 32 0⟩).toArray), 34) := by kernel_rfl
theorem built_mark (m : Mk) (h : m.last.length = 32) : Tryd.prog.built 46 [(0, .int .i64 m.place), (1, .int .u64 m.num), (2, .agg (m.last.map cu8).toArray)] = some (markCells m).toArray := by
  have hu : (Tryd.prog.underlying 46).bind (fun d => match d with | .struct fs => fs.toList.mapM (fun f => (Tryd.prog.info? f.type).map fun i => (f.offset, i.size)) | _ => none) = some [(0, 1), (1, 1), (2, 32)] := by kernel_rfl
  obtain ⟨ti, hti, hz⟩ := Option.map_eq_some_iff.1 infoMark
  simp only [Prod.mk.injEq] at hz
  unfold Program.built
  rw [hti, Tryd.underlying46]
  rw [Tryd.underlying46] at hu
  simp only [Option.bind_some] at hu
  simp only [hz.1, hu]
  exact fill_three _ (by simp [Value.cells, markCells]) (.int .i64 m.place) (.int .u64 m.num) rfl rfl _ (by simp [h]) _ rfl rfl rfl
end Go.Proofs.YtegdlpllljccgaaDoor
