/-
  'DiskKeeps': what the law itself keeps: the firm pages, and of each sector what was written to it since.
-/
import Derived.Test.YtbmpbcnoclhhgaaDoorDkCalls
namespace Go.Proofs.YtbmpbcnoclhhgaaDoor
open Go.RowKit Sh Go.Extern.Stop Go.Stop Go.Extern

/-- The pending writes to sector q. -/
def pendOf : List Int → List (List Value) → Int → List (List Value)
  | a :: xs, p :: ys, q => if a = q then p :: pendOf xs ys q else pendOf xs ys q
  | _, _, _ => []
theorem pendOf_snoc : ∀ (xs : List Int) (ys : List (List Value)) (a : Int) (p : List Value) (q : Int), ys.length = xs.length → pendOf (xs ++ [a]) (ys ++ [p]) q = if a = q then pendOf xs ys q ++ [p] else pendOf xs ys q
  | [], [], a, p, q, _ => by simp [pendOf]
  | [], _ :: _, _, _, _, h => by simp at h
  | _ :: _, [], _, _, _, h => by simp at h
  | b :: xs, r :: ys, a, p, q, h => by
    simp only [List.cons_append, pendOf]
    rw [pendOf_snoc xs ys a p q (by simpa using h)]
    split <;> split <;> simp
theorem pendOf_mem : ∀ (xs : List Int) (ys : List (List Value)) (q : Int) (p : List Value), p ∈ pendOf xs ys q → p ∈ ys
  | a :: xs, r :: ys, q, p, h => by
    simp only [pendOf] at h
    split at h
    · rcases List.mem_cons.1 h with rfl | h
      · simp
      · simp [pendOf_mem xs ys q p h]
    · simp [pendOf_mem xs ys q p h]
  | [], _, _, _, h => by simp [pendOf] at h
  | _ :: _, [], _, _, h => by simp [pendOf] at h
theorem pendOf_len : ∀ (xs : List Int) (ys : List (List Value)) (q : Int), (pendOf xs ys q).length ≤ xs.length
  | a :: xs, r :: ys, q => by
    have := pendOf_len xs ys q
    simp only [pendOf, List.length_cons]
    split
    · simp only [List.length_cons]; omega
    · omega
  | [], _, _ => by simp [pendOf]
  | _ :: _, [], _ => by simp [pendOf]
theorem own_form {w : World} {B : Nat} {e : TypeId} {s n : Nat} {v : Value} {xs : List Value} (h : w.ownsRow B e s v n xs) : ∃ ao cap, v = .slice ao n cap := by
  rcases h.2 with ⟨hv, h0⟩ | ⟨g, cap, cur, hv, _⟩
  · exact ⟨none, 0, by rw [hv, h0]⟩
  · exact ⟨_, _, hv⟩
theorem seen_last : ∀ (xs : List Int) (ys : List (List Value)) (q : Int), seen xs ys q = (pendOf xs ys q).getLast?
  | [], ys, q => by simp [seen, pendOf]
  | _ :: _, [], q => by simp [seen, pendOf]
  | a :: xs, p :: ys, q => by
    simp only [seen, pendOf]
    rw [seen_last xs ys q]
    cases hl : pendOf xs ys q with
    | nil => by_cases h : a = q <;> simp [h]
    | cons r l =>
      cases hz : (r :: l).getLast? with
      | none => simp at hz
      | some z => by_cases h : a = q <;> simp [h, hz]
theorem crash_in : ∀ (xs : List Int) (ys firm : List (List Value)) (k : Nat) (pick : List Int) (j : Nat) (p : List Value), (∀ a ∈ xs, 0 ≤ a) → (crashS k firm xs ys pick)[j]? = some p → firm[j]? = some p ∨ p ∈ pendOf xs ys j
  | [], ys, firm, k, pick, j, p, _, h => by simp [crashS] at h; exact .inl h
  | _ :: _, [], firm, k, pick, j, p, _, h => by simp [crashS] at h; exact .inl h
  | a :: xs, r :: ys, firm, k, pick, j, p, h0, h => by
    simp only [crashS] at h
    have ha := h0 a (by simp)
    rcases crash_in xs ys _ (k + 1) pick j p (fun x hx => h0 x (by simp [hx])) h with h1 | h1
    · split at h1
      · by_cases e : a = (j : Int)
        · subst e
          rw [Int.toNat_natCast, List.getElem?_set] at h1
          split at h1
          · split at h1
            · right; simp only [pendOf, if_true]; simp at h1; simp [h1]
            · cases h1
          · omega
        · rw [List.getElem?_set_ne (by omega)] at h1
          exact .inl h1
      · exact .inl h1
    · right
      simp only [pendOf]
      split
      · simp [h1]
      · exact h1
/-- What is read behind a crash. -/
theorem read_crash {S : St} {k : Nat} (h : On S 20 k) (pick : List Int) (j : Nat) (hj : j < 20) : S.firm[j]? = some (readOf (crashOf S pick) j).1 ∨ (readOf (crashOf S pick) j).1 ∈ pendOf S.ats S.what j := by
  have hO := h.crash pick
  have e : (readOf (crashOf S pick) j).1 = (crashS 0 S.firm S.ats S.what pick).getD j zeroPage := by
    have hn := hO.read j hj
    unfold readOf readN at hn ⊢
    split at hn
    · rw [if_pos (by assumption)]; rfl
    · exact absurd hn (by assumption)
  have hl : (crashS 0 S.firm S.ats S.what pick).length = 20 := by rw [crashS_length]; exact h.size
  have hg : (crashS 0 S.firm S.ats S.what pick)[j]? = some (readOf (crashOf S pick) j).1 := by
    rw [e, List.getD_eq_getElem?_getD, List.getElem?_eq_getElem (by omega)]; rfl
  exact crash_in _ _ _ 0 pick j _ (fun a ha => (h.good.inr a ha).1) hg

/-- What the law keeps, in memory. -/
structure Mem (B b7 b8 : Nat) (fm : List (List Value)) (sm : Nat → List (List Value)) (sv : Nat → Value) (w : World) : Prop where
  at7 : w.heap[b7]? = some (.cells fm.flatten.toArray 48 (0, 0))
  at8 : w.heap[b8]? = some (.cells ((List.range 20).map sv).toArray 49 (0, 0))
  row : ∀ j, j < 20 → w.ownsRow B 42 64 (sv j) (sm j).length (sm j).flatten
  ok7 : Pages fm
  len7 : fm.length = 20
  ok8 : ∀ j, j < 20 → Pages (sm j)
  apart : ∀ i j, i < 20 → j < 20 → i ≠ j → (sv i).ownBlock = none ∨ (sv i).ownBlock ≠ (sv j).ownBlock
  off : ∀ j, j < 20 → (sv j).ownBlock ≠ some b7 ∧ (sv j).ownBlock ≠ some b8
  ne : b7 ≠ b8
  ge : B ≤ b7 ∧ B ≤ b8
def MFoot (b7 b8 : Nat) (sv : Nat → Value) (k : Nat) : Prop := k = b7 ∨ k = b8 ∨ ∃ j, j < 20 ∧ (sv j).ownBlock = some k

section
variable {B b7 b8 : Nat} {fm : List (List Value)} {sm : Nat → List (List Value)} {sv : Nat → Value} {w w' : World} {G : Nat → Prop}
theorem Mem.lt (h : Mem B b7 b8 fm sm sv w) {k : Nat} (hk : MFoot b7 b8 sv k) : k < w.heap.size := by
  rcases hk with rfl | rfl | ⟨j, hj, e⟩
  · exact (Array.getElem?_eq_some_iff.1 h.at7).1
  · exact (Array.getElem?_eq_some_iff.1 h.at8).1
  · exact ((h.row j hj).lt k e).2
theorem Mem.base (h : Mem B b7 b8 fm sm sv w) {k : Nat} (hk : MFoot b7 b8 sv k) : B ≤ k := by
  rcases hk with rfl | rfl | ⟨j, hj, e⟩
  · exact h.ge.1
  · exact h.ge.2
  · exact ((h.row j hj).lt k e).1
theorem Mem.keep (h : Mem B b7 b8 fm sm sv w) (ho : Only G w w') (hG : ∀ k, MFoot b7 b8 sv k → ¬ G k) : Mem B b7 b8 fm sm sv w' := by
  refine ⟨(ho.block b7 (h.lt (.inl rfl)) (hG _ (.inl rfl))).trans h.at7, (ho.block b8 (h.lt (.inr (.inl rfl))) (hG _ (.inr (.inl rfl)))).trans h.at8, fun j hj => ?_, h.ok7, h.len7, h.ok8, h.apart, h.off, h.ne, h.ge⟩
  have hr := h.row j hj
  refine ⟨hr.1, hr.2.imp id ?_⟩
  rintro ⟨b, cap, cur, hv, hb, hg, rest⟩
  exact ⟨b, cap, cur, hv, hb, (ho.block b (Array.getElem?_eq_some_iff.1 hg).1 (hG b (.inr (.inr ⟨j, hj, by rw [hv]; rfl⟩)))).trans hg, rest⟩
theorem Mem.below (h : Mem B b7 b8 fm sm sv w) (hb : Below w.heap.size w w') : Mem B b7 b8 fm sm sv w' := h.keep (G := fun _ => False) (Only.of_below hb) (fun _ _ => id)
theorem Mem.congr (h : Mem B b7 b8 fm sm sv w) {sm' : Nat → List (List Value)} (he : ∀ j, j < 20 → sm' j = sm j) : Mem B b7 b8 fm sm' sv w :=
  ⟨h.at7, h.at8, fun j hj => by rw [he j hj]; exact h.row j hj, h.ok7, h.len7, fun j hj => by rw [he j hj]; exact h.ok8 j hj, h.apart, h.off, h.ne, h.ge⟩
theorem Mem.cell8 (h : Mem B b7 b8 fm sm sv w) (j : Nat) (hj : j < 20) : w.cell? ⟨b8, j, none⟩ = some (sv j) := by
  rw [cell_of_row w b8 j _ _ _ h.at8]; simp [hj]
theorem Mem.thaw8 (h : Mem B b7 b8 fm sm sv w) (j : Nat) : w.frozen? ⟨b8, j, none⟩ = false := by simp [World.frozen?, h.at8]
theorem set_row (sv : Nat → Value) (q : Nat) (v : Value) : ((List.range 20).map sv).toArray.setIfInBounds q v = ((List.range 20).map fun j => if j = q then v else sv j).toArray := by
  apply Array.ext_getElem?
  intro k
  rw [Array.getElem?_setIfInBounds]
  by_cases hk : q = k
  · subst hk
    by_cases h20 : q < 20
    · simp [h20]
    · simp [h20]
  · have e : ¬ k = q := fun e => hk e.symm
    rw [if_neg hk]
    by_cases h20 : k < 20
    · simp [h20, e]
    · simp [h20]
/-- A page more of sector q. -/
theorem Mem.append (h : Mem B b7 b8 fm sm sv w) {q gg cap : Nat} (hq : q < 20) {p : List Value} (hp : IsPage p) {w3 w4 : World} (h3 : Below w.heap.size w w3)
    (hown : w4.ownsRow B 42 64 (.slice (some ⟨gg, 0, none⟩) ((sm q).length + 1) cap) ((sm q).length + 1) ((sm q).flatten ++ p)) (hgr : w3.grownBy w4 (sv q).ownBlock) (hat : (sv q).ownBlock = some gg ∨ w.heap.size ≤ gg) :
    Mem B b7 b8 fm (fun j => if j = q then sm q ++ [p] else sm j) (fun j => if j = q then .slice (some ⟨gg, 0, none⟩) ((sm q).length + 1) cap else sv j) (w4.setCell ⟨b8, q, none⟩ (.slice (some ⟨gg, 0, none⟩) ((sm q).length + 1) cap)) ∧
      Only (MFoot b7 b8 sv) w (w4.setCell ⟨b8, q, none⟩ (.slice (some ⟨gg, 0, none⟩) ((sm q).length + 1) cap)) ∧ (MFoot b7 b8 sv gg ∨ w.heap.size ≤ gg) := by
  have l7 := h.lt (.inl rfl : MFoot b7 b8 sv b7)
  have l8 := h.lt (.inr (.inl rfl) : MFoot b7 b8 sv b8)
  have s3 := h3.size
  have s4 := hgr.size
  have hg3 : w.grownBy w3 none := ⟨h3.os, h3.tape, h3.output, h3.size, fun j hj _ => h3.block j hj⟩
  have ho : ∀ v : Value, v.ownBlock = none ∨ v.ownBlock ≠ none := fun v => by cases v.ownBlock <;> simp
  have hs := grown_setCell w4 ⟨b8, q, none⟩ (.slice (some ⟨gg, 0, none⟩) ((sm q).length + 1) cap)
  have a7 : w4.heap[b7]? = _ := (hgr.block b7 (by omega) (fun e => (h.off q hq).1 e.symm)).trans ((h3.block b7 l7).trans h.at7)
  have a8 : w4.heap[b8]? = _ := (hgr.block b8 (by omega) (fun e => (h.off q hq).2 e.symm)).trans ((h3.block b8 l8).trans h.at8)
  have g7 : gg ≠ b7 := by
    rcases hat with e | e
    · intro e2; rw [e2] at e; exact (h.off q hq).1 e
    · omega
  have g8 : gg ≠ b8 := by
    rcases hat with e | e
    · intro e2; rw [e2] at e; exact (h.off q hq).2 e
    · omega
  have far : ∀ j, j < 20 → j ≠ q → (sv j).ownBlock ≠ some gg := fun j hj hne e => by
    rcases hat with e2 | e2
    · rcases h.apart j q hj hq hne with e3 | e3
      · rw [e3] at e; cases e
      · rw [e, e2] at e3; exact e3 rfl
    · have := ((h.row j hj).lt gg e).2; omega
  refine ⟨⟨?_, ?_, fun j hj => ?_, h.ok7, h.len7, fun j hj => ?_, fun i j hi hj hne => ?_, fun j hj => ?_, h.ne, h.ge⟩, ?_, ?_⟩
  · rw [Below.heap_setCell _ _ _ _ h.ne]; exact a7
  · rw [heap_setCell_same w4 b8 q _ _ _ a8, set_row]
  · by_cases e : j = q
    · subst e
      simp only [if_true, List.length_append, List.length_singleton, List.flatten_append, List.flatten_singleton]
      exact hown.kept hs (.inr (by simp [Value.ownBlock, g8]))
    · simp only [if_neg e]
      exact (((h.row j hj).kept hg3 (ho _)).kept hgr (h.apart j q hj hq e)).kept hs (.inr (h.off j hj).2)
  · by_cases e : j = q
    · subst e
      simp only [if_true]
      intro x hx
      rcases List.mem_append.1 hx with hx | hx
      · exact h.ok8 j hj x hx
      · rw [List.mem_singleton.1 hx]; exact hp
    · simp only [if_neg e]; exact h.ok8 j hj
  · by_cases ei : i = q
    · have ej : ¬ j = q := fun e => hne (by rw [ei, e])
      simp only [if_pos ei, if_neg ej]
      right
      exact fun e => far j hj ej e.symm
    · by_cases ej : j = q
      · simp only [if_neg ei, if_pos ej]
        exact .inr (far i hi ei)
      · simp only [if_neg ei, if_neg ej]; exact h.apart i j hi hj hne
  · by_cases e : j = q
    · simp only [if_pos e]; simp [Value.ownBlock, g7, g8]
    · simp only [if_neg e]; exact h.off j hj
  · refine ⟨hgr.os.trans h3.os, hgr.tape.trans h3.tape, hgr.output.trans h3.output, by have := hs.size; omega, fun k hk hn => ?_⟩
    have hk8 : k ≠ b8 := fun e => hn (.inr (.inl e))
    rw [Below.heap_setCell _ _ _ _ hk8, hgr.block k (by omega) (fun e => hn (.inr (.inr ⟨q, hq, e.symm⟩))), h3.block k hk]
  · rcases hat with e | e
    · exact .inl (.inr (.inr ⟨q, hq, e⟩))
    · exact .inr e
/-- Sector j's last page is firm, and nothing of it is pending any more. -/
theorem Mem.firmed (h : Mem B b7 b8 fm sm sv w) {j : Nat} (hj : j < 20) {p : List Value} (hp : IsPage p) {w5 : World}
    (hs5 : w5.heap[b7]? = some (.cells (splice fm.flatten (j * 64) p).toArray 48 (0, 0))) (hg5 : w.grownBy w5 (some b7)) :
    Mem B b7 b8 (fm.set j p) (fun i => if i = j then [] else sm i) (fun i => if i = j then .slice none 0 0 else sv i) (w5.setCell ⟨b8, j, none⟩ (.slice none 0 0)) ∧ Only (MFoot b7 b8 sv) w (w5.setCell ⟨b8, j, none⟩ (.slice none 0 0)) := by
  have l8 := h.lt (.inr (.inl rfl) : MFoot b7 b8 sv b8)
  have hs := grown_setCell w5 ⟨b8, j, none⟩ (.slice none 0 0)
  have a8 : w5.heap[b8]? = _ := (hg5.block b8 l8 (by simp [h.ne.symm])).trans h.at8
  refine ⟨⟨?_, ?_, fun i hi => ?_, fun x hx => ?_, by rw [List.length_set]; exact h.len7, fun i hi => ?_, fun i k hi hk hne => ?_, fun i hi => ?_, h.ne, h.ge⟩, ?_⟩
  · rw [Below.heap_setCell _ _ _ _ h.ne, hs5, splice_page h.ok7 j (by rw [h.len7]; exact hj) p hp]
  · rw [heap_setCell_same w5 b8 j _ _ _ a8, set_row]
  · by_cases e : i = j
    · simp only [if_pos e]; exact World.ownsRow_nil _ _ _ _
    · simp only [if_neg e]
      exact ((h.row i hi).kept hg5 (.inr (h.off i hi).1)).kept hs (.inr (h.off i hi).2)
  · rcases List.mem_or_eq_of_mem_set hx with hx | rfl
    · exact h.ok7 x hx
    · exact hp
  · by_cases e : i = j
    · simp only [if_pos e]; exact fun x hx => by simp at hx
    · simp only [if_neg e]; exact h.ok8 i hi
  · by_cases e : i = j
    · simp only [if_pos e]; exact .inl rfl
    · by_cases e2 : k = j
      · simp only [if_neg e, if_pos e2]
        rcases hv : (sv i).ownBlock with _ | b
        · exact .inl rfl
        · exact .inr (by simp [Value.ownBlock])
      · simp only [if_neg e, if_neg e2]; exact h.apart i k hi hk hne
  · by_cases e : i = j
    · simp only [if_pos e]; simp [Value.ownBlock]
    · simp only [if_neg e]; exact h.off i hi
  · refine ⟨hg5.os, hg5.tape, hg5.output, by have := hs.size; have := hg5.size; omega, fun k hk hn => ?_⟩
    have hk8 : k ≠ b8 := fun e => hn (.inr (.inl e))
    rw [Below.heap_setCell _ _ _ _ hk8, hg5.block k hk (fun e => hn (.inl (by simpa using e)))]
end

/-- Behind i rounds of the law's own flush. -/
def mixF (old new : List (List Value)) (i : Nat) : List (List Value) := new.take i ++ old.drop i
def mixS (sm : Nat → List (List Value)) (i j : Nat) : List (List Value) := if j < i then [] else sm j
theorem mixF_next {old new : List (List Value)} (h : new.length = old.length) (i : Nat) (hi : i < old.length) : mixF old new (i + 1) = (mixF old new i).set i new[i] := by
  unfold mixF
  have e1 : new.take (i + 1) = new.take i ++ [new[i]] := by rw [List.take_succ_eq_append_getElem (by omega)]
  have e2 : old.drop i = old[i] :: old.drop (i + 1) := List.drop_eq_getElem_cons hi
  have hl : (new.take i).length = i := by rw [List.length_take]; omega
  rw [e1, e2, List.set_append_right _ _ (by omega), hl, Nat.sub_self, List.set_cons_zero, List.append_assoc]
  rfl
theorem mixF_same {old new : List (List Value)} (h : new.length = old.length) (i : Nat) (hi : i < old.length) (he : new[i] = old[i]) : mixF old new (i + 1) = mixF old new i := by
  unfold mixF
  have e1 : new.take (i + 1) = new.take i ++ [new[i]] := by rw [List.take_succ_eq_append_getElem (by omega)]
  have e2 : old.drop i = old[i] :: old.drop (i + 1) := List.drop_eq_getElem_cons hi
  rw [e1, e2, he]; simp
theorem mixS_next (sm : Nat → List (List Value)) (i j : Nat) : mixS sm (i + 1) j = if j = i then [] else mixS sm i j := by
  unfold mixS
  by_cases e : j = i
  · simp [e]
  · by_cases h : j < i
    · simp [h, e]; omega
    · simp [h, e]; omega
end Go.Proofs.YtbmpbcnoclhhgaaDoor
