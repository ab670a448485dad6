/-
  A crash of a disk on which each sector waits at most once: each is then as it was newest, or as it was firm.
-/
import Derived.Test.YtegdlpllljccgaaDoorJDk
set_option linter.unusedSimpArgs false
set_option linter.unusedVariables false
namespace Go.Proofs.YtegdlpllljccgaaDoor
open Go.RowKit Sh

theorem flushS_far : ∀ (xs : List Int) (ys firm : List (List Value)) (i : Nat), (∀ a ∈ xs, a.toNat ≠ i) → (flushS firm xs ys)[i]? = firm[i]?
  | [], ys, firm, i, _ => by cases ys <;> rfl
  | _ :: _, [], firm, i, _ => rfl
  | a :: xs, p :: ys, firm, i, h => by
    simp only [flushS]
    rw [flushS_far xs ys _ i (fun x hx => h x (by simp [hx])), List.getElem?_set_ne (h a (by simp))]
theorem flushS_congr : ∀ (xs : List Int) (ys f1 f2 : List (List Value)) (i : Nat), f1.length = f2.length → f1[i]? = f2[i]? → (flushS f1 xs ys)[i]? = (flushS f2 xs ys)[i]?
  | [], ys, f1, f2, i, _, h => by cases ys <;> exact h
  | _ :: _, [], f1, f2, i, _, h => h
  | a :: xs, p :: ys, f1, f2, i, hl, h => by
    simp only [flushS]
    refine flushS_congr xs ys _ _ i (by simp [hl]) ?_
    by_cases e : a.toNat = i
    · subst e
      rw [List.getElem?_set, List.getElem?_set, hl, if_pos rfl, if_pos rfl]
    · rw [List.getElem?_set_ne e, List.getElem?_set_ne e, h]
theorem crashS_get : ∀ (xs : List Int) (ys firm : List (List Value)) (k : Nat) (pick : List Int) (i : Nat), ys.length = xs.length → (xs.map Int.toNat).Nodup →
    (crashS k firm xs ys pick)[i]? = (flushS firm xs ys)[i]? ∨ (crashS k firm xs ys pick)[i]? = firm[i]?
  | [], [], firm, k, pick, i, _, _ => .inr rfl
  | [], _ :: _, _, _, _, _, h, _ => by simp at h
  | _ :: _, [], _, _, _, _, h, _ => by simp at h
  | a :: xs, p :: ys, firm, k, pick, i, hl, hd => by
    rw [List.map_cons, List.nodup_cons] at hd
    have hl' : ys.length = xs.length := by simpa using hl
    have hna : ∀ x ∈ xs, x.toNat ≠ a.toNat := fun x hx e => hd.1 (by rw [← e]; exact List.mem_map_of_mem hx)
    simp only [crashS, flushS]
    by_cases hp : (k : Int) ∈ pick
    · rw [if_pos hp]
      rcases crashS_get xs ys (firm.set a.toNat p) (k + 1) pick i hl' hd.2 with h | h
      · exact .inl h
      · by_cases e : a.toNat = i
        · subst e
          left
          rw [h, flushS_far xs ys _ _ hna]
        · exact .inr (by rw [h, List.getElem?_set_ne e])
    · rw [if_neg hp]
      rcases crashS_get xs ys firm (k + 1) pick i hl' hd.2 with h | h
      · by_cases e : a.toNat = i
        · subst e
          right
          rw [h, flushS_far xs ys _ _ hna]
        · left
          rw [h]
          exact flushS_congr xs ys _ _ i (by simp) (by rw [List.getElem?_set_ne e])
      · exact .inr h
theorem crashS_far : ∀ (xs : List Int) (ys firm : List (List Value)) (k : Nat) (pick : List Int) (i : Nat), (∀ a ∈ xs, a.toNat ≠ i) → (crashS k firm xs ys pick)[i]? = firm[i]?
  | [], _, _, _, _, _, _ => by simp [crashS]
  | _ :: _, [], _, _, _, _, _ => by simp [crashS]
  | a :: xs, p :: ys, firm, k, pick, i, h => by
    simp only [crashS]
    rw [crashS_far xs ys _ (k + 1) pick i (fun x hx => h x (by simp [hx]))]
    split
    · rw [List.getElem?_set_ne (h a (by simp))]
    · rfl
/-- Each sector waits at most once, and was empty. -/
structure Once (S : St) : Prop where
  nodup : (S.ats.map Int.toNat).Nodup
  empty : ∀ a ∈ S.ats, S.firm[a.toNat]? = some zeroPage
theorem crash_once {S : St} (hG : Good S) (h : Once S) (pick : List Int) (i : Nat) :
    (crashOf S pick).newest[i]? = S.newest[i]? ∨ ((∃ a ∈ S.ats, a.toNat = i) ∧ (crashOf S pick).newest[i]? = some zeroPage) := by
  show (flushS (crashS 0 S.firm S.ats S.what pick) [] [])[i]? = _ ∨ _ ∧ (flushS (crashS 0 S.firm S.ats S.what pick) [] [])[i]? = _
  simp only [flushS]
  by_cases hi : ∃ a ∈ S.ats, a.toNat = i
  · rcases crashS_get S.ats S.what S.firm 0 pick i hG.same h.nodup with e | e
    · exact .inl e
    · obtain ⟨a, ha, rfl⟩ := hi
      exact .inr ⟨⟨a, ha, rfl⟩, by rw [e, h.empty a ha]⟩
  · left
    have hf : ∀ a ∈ S.ats, a.toNat ≠ i := fun a ha e => hi ⟨a, ha, e⟩
    rw [crashS_far _ _ _ _ _ _ hf]
    exact (flushS_far _ _ _ _ hf).symm
end Go.Proofs.YtegdlpllljccgaaDoor
