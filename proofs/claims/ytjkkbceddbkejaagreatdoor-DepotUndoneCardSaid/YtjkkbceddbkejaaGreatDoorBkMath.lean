/-
  Pages by number, as a book keeps them: lists that rise.
-/
import Derived.Test.YtjkkbceddbkejaaGreatDoorJRg
import Derived.Maps.OwnSet
set_option linter.unusedSimpArgs false
set_option linter.unusedVariables false
namespace Go.Proofs.YtjkkbceddbkejaaGreatDoor
open Go.RowKit Sh Go.Maps

def putM : List Chg → Nat → List UInt8 → List Chg
  | [], k, p => [⟨k, p⟩]
  | c :: l, k, p => if k < c.at_ then ⟨k, p⟩ :: c :: l else if k = c.at_ then ⟨k, p⟩ :: l else c :: putM l k p
def getM : List Chg → Nat → Option (List UInt8)
  | [], _ => none
  | c :: l, k => if c.at_ = k then some c.what else getM l k
def learnM (m l : List Chg) : List Chg := l.foldl (fun m c => putM m c.at_ c.what) m
def Rising (l : List Chg) : Prop := l.Pairwise fun a b => a.at_ < b.at_
/-- Pages of a book of that many. -/
def Within (D : Nat) (l : List Chg) : Prop := ∀ c ∈ l, c.at_ < D ∧ c.what.length = 64

theorem mem_putM {k : Nat} {p : List UInt8} {c : Chg} : ∀ {l : List Chg}, c ∈ putM l k p → c = ⟨k, p⟩ ∨ c ∈ l
  | [], h => by simp [putM] at h; exact .inl h
  | d :: l, h => by
    unfold putM at h
    split at h
    · rcases List.mem_cons.1 h with h | h
      · exact .inl h
      · exact .inr h
    · split at h
      · rcases List.mem_cons.1 h with h | h
        · exact .inl h
        · exact .inr (by simp [h])
      · rcases List.mem_cons.1 h with h | h
        · exact .inr (by simp [h])
        · exact (mem_putM h).imp id (by intro h; simp [h])
theorem within_put {D k : Nat} {p : List UInt8} {l : List Chg} (h : Within D l) (hk : k < D) (hp : p.length = 64) : Within D (putM l k p) := fun c hc => by
  rcases mem_putM hc with rfl | hc
  · exact ⟨hk, hp⟩
  · exact h c hc
theorem rising_put {k : Nat} {p : List UInt8} : ∀ {l : List Chg}, Rising l → Rising (putM l k p)
  | [], _ => by simp [putM, Rising]
  | c :: l, h => by
    obtain ⟨h1, h2⟩ := List.pairwise_cons.1 h
    unfold putM
    split
    · rename_i hlt
      refine List.pairwise_cons.2 ⟨fun b hb => ?_, h⟩
      rcases List.mem_cons.1 hb with rfl | hb
      · exact hlt
      · have := h1 b hb; show k < b.at_; omega
    · split
      · rename_i hne heq
        exact List.pairwise_cons.2 ⟨fun b hb => by have := h1 b hb; show k < b.at_; omega, h2⟩
      · rename_i hne heq
        refine List.pairwise_cons.2 ⟨fun b hb => ?_, rising_put h2⟩
        rcases mem_putM hb with rfl | hb
        · show c.at_ < k; omega
        · exact h1 b hb
theorem get_put_same (k : Nat) (p : List UInt8) : ∀ l : List Chg, getM (putM l k p) k = some p
  | [] => by simp [putM, getM]
  | c :: l => by
    unfold putM
    split
    · simp [getM]
    · split
      · simp [getM]
      · rename_i h1 h2
        simp only [getM]
        rw [if_neg (by omega)]
        exact get_put_same k p l
theorem get_put_other {k j : Nat} (p : List UInt8) (hj : j ≠ k) : ∀ l : List Chg, getM (putM l k p) j = getM l j
  | [] => by simp [putM, getM]; omega
  | c :: l => by
    unfold putM
    split
    · simp only [getM]; rw [if_neg (by omega)]
    · split
      · rename_i h1 h2
        simp only [getM]; rw [if_neg (by omega), if_neg (by omega)]
      · simp only [getM]
        rw [get_put_other p hj l]
theorem length_put_le (k : Nat) (p : List UInt8) : ∀ l : List Chg, (putM l k p).length ≤ l.length + 1
  | [] => by simp [putM]
  | c :: l => by
    unfold putM
    split
    · simp
    · split
      · simp
      · simp only [List.length_cons]; have := length_put_le k p l; omega
theorem rising_none {k : Nat} : ∀ {l : List Chg}, (∀ c ∈ l, k < c.at_) → getM l k = none
  | [], _ => rfl
  | c :: l, h => by
    simp only [getM]
    rw [if_neg (by have := h c (by simp); omega)]
    exact rising_none fun d hd => h d (by simp [hd])
theorem mem_of_getM {k : Nat} {p : List UInt8} : ∀ {l : List Chg}, getM l k = some p → (⟨k, p⟩ : Chg) ∈ l
  | c :: l, h => by
    simp only [getM] at h
    split at h
    · rename_i e
      obtain rfl : c.what = p := by simpa using h
      subst e
      simp
    · exact List.mem_cons_of_mem _ (mem_of_getM h)
theorem length_put {k : Nat} (p : List UInt8) : ∀ {l : List Chg}, Rising l → (putM l k p).length = match getM l k with | some _ => l.length | none => l.length + 1
  | [], _ => rfl
  | c :: l, h => by
    obtain ⟨h1, h2⟩ := List.pairwise_cons.1 h
    unfold putM
    split
    · rename_i hlt
      have : getM (c :: l) k = none := rising_none fun d hd => by
        rcases List.mem_cons.1 hd with rfl | hd
        · exact hlt
        · have := h1 d hd; omega
      rw [this]; rfl
    · split
      · rename_i h3 heq
        simp [getM, heq]
      · rename_i h3 hne
        simp only [getM, List.length_cons]
        rw [length_put p h2, if_neg (by omega)]
        cases getM l k <;> rfl
/-- What a map holds that reads so. -/
def entM (l : List Chg) : List (Lit × DataW Unit) := l.map fun c => (.int .i64 c.at_, .lit (.string c.what))
def mapD (l : List Chg) : DataW Unit := .map (entM l)
theorem find_entM (k : Nat) : ∀ l : List Chg, (entM l).find? (fun p => p.1.sameKey (.int .i64 k)) = (getM l k).map fun p => (.int .i64 k, .lit (.string p))
  | [] => rfl
  | c :: l => by
    simp only [entM, List.map_cons, List.find?_cons, getM]
    by_cases e : c.at_ = k
    · subst e; simp [Lit.sameKey]
    · have : Lit.sameKey (.int .i64 c.at_) (.int .i64 k) = false := by simp [Lit.sameKey]; omega
      rw [this, if_neg e]
      exact find_entM k l
theorem atKey_mapD (l : List Chg) (k : Nat) (z : DataW Unit) : (mapD l).atKey (.int .i64 k) z = match getM l k with | some p => .lit (.string p) | none => z := by
  unfold mapD DataW.atKey
  simp only [find_entM]
  cases getM l k <;> rfl
theorem has_mapD (k : Nat) : ∀ l : List Chg, has (mapD l) (.int .i64 k) = (getM l k).isSome
  | [] => rfl
  | c :: l => by
    have ih := has_mapD k l
    unfold mapD has at ih ⊢
    simp only [entM, List.map_cons, List.any_cons, getM] at ih ⊢
    by_cases e : c.at_ = k
    · subst e; simp [Lit.sameKey]
    · have : Lit.sameKey (.int .i64 c.at_) (.int .i64 k) = false := by simp [Lit.sameKey]; omega
      rw [this, if_neg e, Bool.false_or]
      exact ih
theorem has_mapD_neg (l : List Chg) (i : Int) (hi : i < 0) : has (mapD l) (.int .i64 i) = false := by
  unfold mapD has entM
  simp only [List.any_map, List.any_eq_false]
  intro c _
  simp [Lit.sameKey]; omega
theorem size_mapD (l : List Chg) : size (mapD l) = l.length := by simp [mapD, size, entM]
theorem insert_entM (k : Nat) (p : List UInt8) : ∀ {l : List Chg}, Rising l → DataW.insert ((.int .i64 k : Lit), (.lit (.string p) : DataW Unit)) ((entM l).filter fun q => !q.1.sameKey (.int .i64 k)) = entM (putM l k p)
  | [], _ => rfl
  | c :: l, h => by
    obtain ⟨h1, h2⟩ := List.pairwise_cons.1 h
    have ih := insert_entM k p h2
    have hs : Lit.sameKey (.int .i64 c.at_) (.int .i64 k) = decide (c.at_ = k) := by simp only [Lit.sameKey, true_and, decide_eq_decide]; omega
    have all : ∀ l : List Chg, (∀ d ∈ l, k < d.at_) → (entM l).filter (fun q => !q.1.sameKey (.int .i64 k)) = entM l := fun l hl => by
      refine List.filter_eq_self.2 fun q hq => ?_
      obtain ⟨d, hd, rfl⟩ := List.mem_map.1 hq
      have := hl d hd
      simp [Lit.sameKey]; omega
    have first : ∀ l : List Chg, (∀ d ∈ l, k < d.at_) → DataW.insert ((.int .i64 k : Lit), (.lit (.string p) : DataW Unit)) (entM l) = entM (⟨k, p⟩ :: l) := fun l hl => by
      cases l with
      | nil => rfl
      | cons d l =>
        have := hl d (by simp)
        simp only [entM, List.map_cons, DataW.insert]
        rw [if_pos (by simp [Lit.before]; omega)]
    unfold putM
    split
    · rename_i hlt
      have hall : ∀ d ∈ c :: l, k < d.at_ := fun d hd => by
        rcases List.mem_cons.1 hd with rfl | hd
        · exact hlt
        · have := h1 d hd; omega
      rw [all _ hall, first _ hall]
    · split
      · rename_i h3 heq
        have hall : ∀ d ∈ l, k < d.at_ := fun d hd => by have := h1 d hd; omega
        have e : (entM (c :: l)).filter (fun q => !q.1.sameKey (.int .i64 k)) = (entM l).filter (fun q => !q.1.sameKey (.int .i64 k)) := by
          show List.filter _ ((.int .i64 c.at_, .lit (.string c.what)) :: entM l) = _
          rw [List.filter_cons_of_neg (by rw [hs]; simp [heq])]
        rw [e, all _ hall, first _ hall]
      · rename_i h3 hne
        have e : (entM (c :: l)).filter (fun q => !q.1.sameKey (.int .i64 k)) = (.int .i64 c.at_, .lit (.string c.what)) :: (entM l).filter (fun q => !q.1.sameKey (.int .i64 k)) := by
          show List.filter _ ((.int .i64 c.at_, .lit (.string c.what)) :: entM l) = _
          rw [List.filter_cons_of_pos (by rw [hs]; simp; omega)]
        rw [e]
        simp only [DataW.insert]
        rw [if_neg (by simp [Lit.before]; omega), ih]
        rfl
theorem put_mapD {l : List Chg} (h : Rising l) (k : Nat) (p : List UInt8) : (mapD l).put (.int .i64 k) (.lit (.string p)) = mapD (putM l k p) := by
  unfold mapD DataW.put
  simp only
  rw [insert_entM k p h]

/-- What rises and has the same members is the same. -/
theorem rising_eq : ∀ {a b : List Chg}, Rising a → Rising b → a.Perm b → a = b
  | [], b, _, _, h => by rw [h.nil_eq]
  | a :: xs, [], _, _, h => by cases h.eq_nil
  | a :: xs, b :: ys, ha, hb, h => by
    obtain ⟨a1, a2⟩ := List.pairwise_cons.1 ha
    obtain ⟨b1, b2⟩ := List.pairwise_cons.1 hb
    have e : a = b := by
      have m1 := (h.mem_iff (a := a)).1 (by simp)
      have m2 := (h.mem_iff (a := b)).2 (by simp)
      rcases List.mem_cons.1 m1 with e | m1
      · exact e
      · rcases List.mem_cons.1 m2 with e | m2
        · exact e.symm
        · have := b1 a m1; have := a1 b m2; omega
    subst e
    rw [rising_eq a2 b2 (List.Perm.cons_inv h)]
end Go.Proofs.YtjkkbceddbkejaaGreatDoor
