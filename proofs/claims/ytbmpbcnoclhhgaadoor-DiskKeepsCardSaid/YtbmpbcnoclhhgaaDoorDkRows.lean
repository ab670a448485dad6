/-
  The program's disk: pending writes as rows of 65 cells; a page of the newest ones laid anew; a pending write more.
-/
import Derived.Test.YtbmpbcnoclhhgaaDoorDkRead
namespace Go.Proofs.YtbmpbcnoclhhgaaDoor
open Go.RowKit Sh Go.Extern.Stop Go.Stop Go.Extern

theorem infoWrite : (Tryd.prog.info? 73).map (fun i => (i.zero, i.size, i.bytes)) = some (some (.agg (.int .i64 0 :: zeroPage).toArray), 65, 72) := by kernel_rfl
theorem info65 : (Tryd.prog.info? 73).map (·.size) = some 65 := by kernel_rfl

theorem fill_two (cells : Array Value) (hc : cells.size = 65) (a : Value) (ha : a.cells = #[a]) (p : List Value) (hp : p.length = 64) (places : Nat → Option (Nat × Nat)) (h0 : places 0 = some (0, 1)) (h1 : places 1 = some (1, 64)) :
    Instr.fill places cells [(0, a), (1, .agg p.toArray)] = some (a :: p).toArray := by
  have e1 : (Value.agg p.toArray).cells = p.toArray := rfl
  simp only [Instr.fill, h0, h1, ha, e1]
  have s1 : (#[a] : Array Value).zipIdx.foldl (fun cs (x : Value × Nat) => cs.setIfInBounds (0 + x.2) x.1) cells = cells.setIfInBounds 0 a := by simp
  have s1' : (#[a] : Array Value).zipIdx.foldl (fun cs x => match x with | (c, j) => cs.setIfInBounds (0 + j) c) cells = cells.setIfInBounds 0 a := s1
  rw [if_neg (by simp [hc]), s1', if_neg (by simp [hc, hp])]
  congr 1
  rw [← Array.foldl_toList, Array.toList_zipIdx]
  obtain ⟨hs, hk⟩ := Great.foldl_set 1 p 0 (cells.setIfInBounds 0 a)
  apply Array.ext_getElem?
  intro k
  refine (hk k).trans ?_
  rw [Array.size_setIfInBounds, hc]
  by_cases hk0 : k = 0
  · subst hk0
    rw [if_neg (by omega), Array.getElem?_setIfInBounds]
    simp [hc]
  · by_cases hlt : k < 65
    · rw [if_pos (by omega)]
      obtain ⟨j, rfl⟩ : ∃ j, k = j + 1 := ⟨k - 1, by omega⟩
      rw [show j + 1 - (1 + 0) = j by omega]
      simp
    · rw [if_neg (by omega), Array.getElem?_eq_none (by simp [hc]; omega), Array.getElem?_eq_none (by simp [hp]; omega)]

theorem built_write (i : Int) (p : List Value) (hp : IsPage p) : Tryd.prog.built 73 [(0, .int .i64 i), (1, .agg p.toArray)] = some (wcell i p).toArray := by
  have hu : (Tryd.prog.underlying 73).bind (fun d => match d with | .struct fs => fs.toList.mapM (fun f => (Tryd.prog.info? f.type).map fun i => (f.offset, i.size)) | _ => none) = some [(0, 1), (1, 64)] := by kernel_rfl
  obtain ⟨ti, hti, hz⟩ := Option.map_eq_some_iff.1 infoWrite
  simp only [Prod.mk.injEq] at hz
  unfold Program.built
  rw [hti, Tryd.underlying73]
  rw [Tryd.underlying73] at hu
  simp only [Option.bind_some] at hu
  simp only [hz.1, hu]
  exact fill_two _ (by simp [Value.cells, zeroPage]) (.int .i64 i) rfl p hp.1 _ rfl rfl

/-- '[]write{x}' as an operation. -/
theorem wp_build_write {o : Oper} {a : Act} {w : World} {K : Act → World → Prop} {Q : Exit → Act → World → Prop} (x : Operand) (ho : o.op = .buildSlice 67 1 #[(0, x)]) (c : List Value) (hc : c.length = 65) (hx : a.eval x = .agg c.toArray)
    (h : K (a.put o.dst (.slice (some ⟨w.heap.size, 0, none⟩) 1 1)) (w.alloc (.cells c.toArray 73))) : o.wp Tryd.prog a w K Q := by
  obtain ⟨i, hi, hzz⟩ := Option.map_eq_some_iff.1 infoWrite
  simp only [Prod.mk.injEq] at hzz
  obtain ⟨hz, hs, hb⟩ := hzz
  refine wp_buildSlice (P := Tryd.prog) 67 73 1 _ ho c.toArray i _ Tryd.underlying67 hi hz (by rw [hs]; decide) (by rw [hs]; decide) ?_ h
  rw [hs]
  have hl : ((#[(0, x)] : Array (Nat × Operand)).map fun (i, x) => (i, a.eval x)).toList = [(0, .agg c.toArray)] := by simp [hx]
  rw [hl]
  have hf := Great.fill_whole (s := 65) (by omega) [.agg c.toArray] ((Array.range (1 * 65)).map ((Value.agg (Value.int .i64 0 :: zeroPage).toArray).cells[· % (Value.agg (Value.int .i64 0 :: zeroPage).toArray).cells.size]!)) (fun v hv => by
    obtain rfl := List.mem_singleton.1 hv
    show c.toArray.size = 65
    rw [List.size_toArray]; exact hc) (by simp)
  simpa [Value.cells] using hf

/-- A pending write out of the row. -/
theorem own_write {w : World} {B g n cap : Nat} {xs : List Int} {ys : List (List Value)} (h : w.ownsRow B 73 65 (.slice (some ⟨g, 0, none⟩) n cap) n (pendC xs ys).flatten) (hp : Pages ys) (_hs : ys.length = xs.length) (i : Nat) (a : Int) (p : List Value) (ha : xs[i]? = some a) (hpi : ys[i]? = some p) (hn : xs.length = n) : w.rangeAt g (i * 65) (wcell a p) := by
  intro j v hj
  have hil : i < n := by rw [← hn]; exact (List.getElem?_eq_some_iff.1 ha).1
  have hlen : (wcell a p).length = 65 := by simp [wcell, (hp p (List.mem_of_getElem? hpi)).1]
  have hj65 : j < 65 := by have := (List.getElem?_eq_some_iff.1 hj).1; omega
  rw [h.cellAt (i * 65 + j) (by omega), flat_getM 65 (pendC_65 hp) i (wcell a p) (pendC_get i a p ha hpi) j hj65, hj]

section
variable {g : Nat} {vf vn vp : Value} {firm newest what : List (List Value)} {ats : List Int} {fuel : Int} {off : Bool} {w w3 w4 w' : World}

theorem own_ne {v u : Value} {b : Nat} (h : v.ownBlock = none ∨ v.ownBlock ≠ u.ownBlock) (hu : u.ownBlock = some b) : v.ownBlock = none ∨ v.ownBlock ≠ some b := h.imp id (fun e => by rw [← hu]; exact e)
theorem own_ne' {v u : Value} {b : Nat} (h : v.ownBlock = none ∨ v.ownBlock ≠ u.ownBlock) (hv : v.ownBlock = some b) : u.ownBlock = none ∨ u.ownBlock ≠ some b := by
  rcases h with e | e
  · rw [e] at hv; cases hv
  · right; intro e2; rw [hv, e2] at e; exact e rfl

/-- A page of the newest ones is another one. -/
theorem DiskAt.setNew {gn cn : Nat} (h : DiskAt g vf (.slice (some ⟨gn, 0, none⟩) newest.length cn) vp firm newest ats what fuel off w) (k : Nat) (hk : k < newest.length) (p : List Value) (hp : IsPage p)
    (hst : ∀ cur : List Value, w.heap[gn]? = some (.cells cur.toArray 42 (0, 0)) → w'.heap[gn]? = some (.cells (splice cur (k * 64) p).toArray 42 (0, 0))) (hg : w.grownBy w' (some gn)) :
    DiskAt g vf (.slice (some ⟨gn, 0, none⟩) newest.length cn) vp firm (newest.set k p) ats what fuel off w' := by
  obtain ⟨a1, a2, a3, a4, a5, a6⟩ := h.apart
  have hgg : gn ≠ g := fun e => a2 (by rw [e]; rfl)
  have hr := own_store h.rowN h.newOk rfl k hk p hp hst
  have hok : Pages (newest.set k p) := fun x hx => by
    rcases List.mem_or_eq_of_mem_set hx with hx | rfl
    · exact h.newOk x hx
    · exact hp
  exact ⟨(hg.block g h.lt (fun e => hgg (by simpa using e.symm))).trans h.at_, h.rowF.kept hg (own_ne a4 rfl), by rw [List.length_set]; exact hr, h.rowP.kept hg (own_ne' a6 rfl), h.same, h.firmOk, hok, h.whatOk, a1, a2, a3, a4, a5, a6⟩
/-- A page of the firm ones is another one. -/
theorem DiskAt.setFirm {gf cf : Nat} (h : DiskAt g (.slice (some ⟨gf, 0, none⟩) firm.length cf) vn vp firm newest ats what fuel off w) (k : Nat) (hk : k < firm.length) (p : List Value) (hp : IsPage p)
    (hst : ∀ cur : List Value, w.heap[gf]? = some (.cells cur.toArray 42 (0, 0)) → w'.heap[gf]? = some (.cells (splice cur (k * 64) p).toArray 42 (0, 0))) (hg : w.grownBy w' (some gf)) :
    DiskAt g (.slice (some ⟨gf, 0, none⟩) firm.length cf) vn vp (firm.set k p) newest ats what fuel off w' := by
  obtain ⟨a1, a2, a3, a4, a5, a6⟩ := h.apart
  have hgg : gf ≠ g := fun e => a1 (by rw [e]; rfl)
  have hr := own_store h.rowF h.firmOk rfl k hk p hp hst
  have hok : Pages (firm.set k p) := fun x hx => by
    rcases List.mem_or_eq_of_mem_set hx with hx | rfl
    · exact h.firmOk x hx
    · exact hp
  exact ⟨(hg.block g h.lt (fun e => hgg (by simpa using e.symm))).trans h.at_, by rw [List.length_set]; exact hr, h.rowN.kept hg (own_ne' a4 rfl), h.rowP.kept hg (own_ne' a5 rfl), h.same, hok, h.newOk, h.whatOk, a1, a2, a3, a4, a5, a6⟩

theorem DiskAt.drew (h : DiskAt g vf vn vp firm newest ats what fuel off w) : DiskAt g vf vn vp firm newest ats what fuel off ({ w with drawn := w.drawn + 1 }) :=
  h.below ⟨rfl, rfl, rfl, Nat.le_refl _, fun _ _ => rfl⟩

/-- The row of pending writes has one more, laid into its field. -/
theorem DiskAt.putPend (h : DiskAt g vf vn vp firm newest ats what fuel off w) {gg cap : Nat} {i : Int} {p : List Value} (hp : IsPage p) (h3 : Below w.heap.size w w3)
    (hown : w4.ownsRow 0 73 65 (.slice (some ⟨gg, 0, none⟩) (ats.length + 1) cap) (ats.length + 1) ((pendC ats what).flatten ++ wcell i p)) (hgr : w3.grownBy w4 vp.ownBlock) (hat : vp.ownBlock = some gg ∨ w.heap.size ≤ gg) :
    DiskAt g vf vn (.slice (some ⟨gg, 0, none⟩) (ats.length + 1) cap) firm newest (ats ++ [i]) (what ++ [p]) fuel off (w4.setCell ⟨g, 2, none⟩ (.slice (some ⟨gg, 0, none⟩) (ats.length + 1) cap)) ∧
      Only (Foot g vf vn vp) w (w4.setCell ⟨g, 2, none⟩ (.slice (some ⟨gg, 0, none⟩) (ats.length + 1) cap)) ∧ (Foot g vf vn vp gg ∨ w.heap.size ≤ gg) := by
  obtain ⟨a1, a2, a3, a4, a5, a6⟩ := h.apart
  have hlt := h.lt
  have hg3 : w.grownBy w3 none := ⟨h3.os, h3.tape, h3.output, h3.size, fun j hj _ => h3.block j hj⟩
  have ho : ∀ v : Value, v.ownBlock = none ∨ v.ownBlock ≠ none := fun v => by cases v.ownBlock <;> simp
  have f3 := (h.rowF.kept hg3 (ho _)).kept hgr a5
  have n3 := (h.rowN.kept hg3 (ho _)).kept hgr a6
  have b4 : w4.heap[g]? = some (.cells #[vf, vn, vp, .int .i64 fuel, .bool off] 69 (0, 0)) :=
    (hgr.block g (by have := h3.size; omega) (fun e => a3 e.symm)).trans ((h3.block g hlt).trans h.at_)
  have hs := grown_setCell w4 ⟨g, 2, none⟩ (.slice (some ⟨gg, 0, none⟩) (ats.length + 1) cap)
  have hgg : gg ≠ g := by
    rcases hat with e | e
    · intro e2; rw [e, e2] at a3; exact a3 rfl
    · omega
  have hne : (Value.slice (some ⟨gg, 0, none⟩) (ats.length + 1) cap).ownBlock ≠ some g := by simp [Value.ownBlock, hgg]
  have hfg : vf.ownBlock = none ∨ vf.ownBlock ≠ some gg := by
    rcases hat with e | e
    · rw [← e]; exact a5
    · rcases hv : vf.ownBlock with _ | k
      · exact .inl rfl
      · right; have := (h.rowF.lt k hv).2; simp; omega
  have hng : vn.ownBlock = none ∨ vn.ownBlock ≠ some gg := by
    rcases hat with e | e
    · rw [← e]; exact a6
    · rcases hv : vn.ownBlock with _ | k
      · exact .inl rfl
      · right; have := (h.rowN.lt k hv).2; simp; omega
  have hok : Pages (what ++ [p]) := fun q hq => by
    rcases List.mem_append.1 hq with hq | hq
    · exact h.whatOk q hq
    · rw [List.mem_singleton.1 hq]; exact hp
  refine ⟨⟨by simp [World.setCell, Array.getElem?_modify, b4], f3.kept hs (.inr a1), n3.kept hs (.inr a2), ?_, by simp [h.same], h.firmOk, h.newOk, hok, a1, a2, hne, a4, hfg, hng⟩, ?_, ?_⟩
  · rw [List.length_append, pendC_append h.same, List.flatten_append]
    have := hown.kept hs (.inr hne)
    simpa using this
  · refine ⟨hgr.os.trans h3.os, hgr.tape.trans h3.tape, hgr.output.trans h3.output, by have := h3.size; have := hgr.size; simp [World.setCell]; omega, fun k hk hn => ?_⟩
    have hkg : k ≠ g := fun e => hn (.inl e)
    have hka : some k ≠ vp.ownBlock := fun e => hn (.inr (.inr (.inr e.symm)))
    rw [Below.heap_setCell _ _ _ _ hkg, hgr.block k (by have := h3.size; omega) hka, h3.block k hk]
  · rcases hat with e | e
    · exact .inl (.inr (.inr (.inr e)))
    · exact .inr e

/-- Nothing is pending any more. -/
theorem DiskAt.putNone (h : DiskAt g vf vn vp firm newest ats what fuel off w) : DiskAt g vf vn (.slice none 0 0) firm newest [] [] fuel off (w.setCell ⟨g, 2, none⟩ (.slice none 0 0)) := by
  obtain ⟨a1, a2, _, a4, _, _⟩ := h.apart
  have g1 := grown_setCell w ⟨g, 2, none⟩ (.slice none 0 0)
  have ho : ∀ v : Value, v.ownBlock = none ∨ v.ownBlock ≠ (Value.slice none 0 0).ownBlock := fun v => by cases hv : v.ownBlock <;> simp [Value.ownBlock]
  exact ⟨by simp [World.setCell, Array.getElem?_modify, h.at_], h.rowF.kept g1 (.inr a1), h.rowN.kept g1 (.inr a2), World.ownsRow_nil _ _ _ _, rfl, h.firmOk, h.newOk, fun p hp => by simp at hp, a1, a2, by simp [Value.ownBlock], a4, ho _, ho _⟩
end
end Go.Proofs.YtbmpbcnoclhhgaaDoor
