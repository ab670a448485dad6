/-
  Tables in plain words: registrations as a list of (nexus, key), or as a key by each nexus.
-/
import Derived.Lib.Hide
set_option linter.unusedSimpArgs false
set_option linter.unusedVariables false
namespace Go.Proofs.Ytkpogmigfjmacaa

/-- A nexus's key in a list of registrations: the first one's; 0 for none. -/
def keyL : List (Int × Int) → Int → Int
  | [], _ => 0
  | r :: l, n => if r.1 = n then r.2 else keyL l n

theorem keyL_miss {l : List (Int × Int)} {n : Int} (h : ∀ (j : Nat) (q : Int × Int), l[j]? = some q → q.1 ≠ n) : keyL l n = 0 := by
  induction l with
  | nil => rfl
  | cons r l ih =>
    have h0 : r.1 ≠ n := h 0 r rfl
    rw [keyL, if_neg h0]
    exact ih fun j q hj => h (j + 1) q hj
theorem keyL_hit : ∀ {l : List (Int × Int)} {n : Int} {k : Nat} {q : Int × Int} (_ : l[k]? = some q) (_ : q.1 = n) (_ : ∀ j, j < k → ∀ q : Int × Int, l[j]? = some q → q.1 ≠ n), keyL l n = q.2
  | [], _, _, _, hk, _, _ => by simp at hk
  | r :: l, n, 0, q, hk, hq, _ => by
    obtain rfl : r = q := by simpa using hk
    rw [keyL, if_pos hq]
  | r :: l, n, k + 1, q, hk, hq, h => by
    have h0 : r.1 ≠ n := h 0 (by omega) r rfl
    rw [keyL, if_neg h0]
    exact keyL_hit (l := l) (k := k) (by simpa using hk) hq fun j hj p hp => h (j + 1) (by omega) p (by simpa using hp)

def isTyB (t : Int) : Bool := decide (t = 1 ∨ t = 3 ∨ t = 5 ∨ t = 6 ∨ t = 7 ∨ t = 8)
def ofAllB (t : Int) : Bool := decide (t = 7 ∨ t = 8)
def ofRegB (t : Int) : Bool := decide (t = 5 ∨ t = 6)
def resB (t : Int) : Bool := decide (t ≠ 0)
def regB (l : List (Int × Int)) (n : Int) : Bool := decide (keyL l n ≠ 0)
def holdsB (l : List (Int × Int)) (h t n : Int) : Bool := resB t && regB l n && (decide (n = h) || ofAllB t)
def writesB (d : Int) : Bool := decide (d = 7 ∨ d = 8 ∨ d = 9 ∨ d = 10 ∨ d = 11)
def barsB (l : List (Int × Int)) (h t n d : Int) : Bool :=
  resB t && !holdsB l h t n && !(ofRegB t && regB l n) && (if d = 6 then decide (t = 3 ∨ t = 6 ∨ t = 8) else writesB d)
def takesB (l : List (Int × Int)) (h t x : Int) : Bool := resB t && (if ofAllB t = true then decide (x = 0) else decide (x = keyL l h))

/-- Do registrations rise, of nexuses below 8, with keys? -/
def riseB : List (Int × Int) → Int → Bool
  | [], _ => true
  | r :: l, n => decide (n < r.1 ∧ r.1 < 8 ∧ r.2 ≠ 0) && riseB l r.1
def lenB (l : List (Int × Int)) : Bool := decide (l.length ≤ 6)
def soundB (l : List (Int × Int)) (h t : Int) : Bool := lenB l && riseB l (-1) && (if t = 0 then decide (h = -1) else isTyB t && regB l h)

theorem riseB_drop {l : List (Int × Int)} {k : Nat} {q : Int × Int} (hq : l[k]? = some q) (n : Int) : riseB (l.drop k) n = (decide (n < q.1 ∧ q.1 < 8 ∧ q.2 ≠ 0) && riseB (l.drop (k + 1)) q.1) := by
  obtain ⟨hk, rfl⟩ := List.getElem?_eq_some_iff.1 hq
  rw [List.drop_eq_getElem_cons hk]
  rfl

def leftOf (pd : Int × Int → Bool) (l : List (Int × Int)) : List (Int × Int) := l.filter fun q => !pd q
def goneOf (pd : Int × Int → Bool) (l : List (Int × Int)) : List Int := (l.filter pd).map (·.1)
theorem leftOf_take {pd : Int × Int → Bool} {l : List (Int × Int)} {k : Nat} {q : Int × Int} (hq : l[k]? = some q) : leftOf pd (l.take (k + 1)) = leftOf pd (l.take k) ++ (if pd q = true then [] else [q]) := by
  rw [List.take_add_one, hq]
  unfold leftOf
  cases h : pd q <;> simp [h]
theorem goneOf_take {pd : Int × Int → Bool} {l : List (Int × Int)} {k : Nat} {q : Int × Int} (hq : l[k]? = some q) : goneOf pd (l.take (k + 1)) = goneOf pd (l.take k) ++ (if pd q = true then [q.1] else []) := by
  rw [List.take_add_one, hq]
  unfold goneOf
  cases h : pd q <;> simp [h]
theorem leftOf_le (pd : Int × Int → Bool) (l : List (Int × Int)) : (leftOf pd l).length ≤ l.length := List.length_filter_le _ _
theorem goneOf_le (pd : Int × Int → Bool) (l : List (Int × Int)) : (goneOf pd l).length ≤ l.length := by unfold goneOf; rw [List.length_map]; exact List.length_filter_le _ _
/-- The Holder and the Type behind a removal that left those registrations. -/
def remH (left : List (Int × Int)) (h t : Int) : Int := if (resB t && !regB left h) = true then (match left with | [] => -1 | r :: _ => if ofAllB t = true then r.1 else -1) else h
def remT (left : List (Int × Int)) (h t : Int) : Int := if (resB t && !regB left h) = true then (match left with | [] => 0 | _ :: _ => if ofAllB t = true then t else 0) else t

def idxB {α : Type} (pd : α → Bool) (l : List α) : Int := match l.findIdx? pd with | some k => (k : Int) | none => -1
theorem idxB_hit {α : Type} {pd : α → Bool} {l : List α} {k : Nat} {q : α} (hk : l[k]? = some q) (hq : pd q = true) (h : ∀ j, j < k → ∀ q, l[j]? = some q → pd q = false) : idxB pd l = k := by
  obtain ⟨hl, rfl⟩ := List.getElem?_eq_some_iff.1 hk
  have : l.findIdx? pd = some k := List.findIdx?_eq_some_iff_getElem.2 ⟨hl, hq, fun j hj => by
    have := h j hj l[j] (List.getElem?_eq_getElem (by omega))
    simpa using this⟩
  unfold idxB; rw [this]
theorem idxB_miss {α : Type} {pd : α → Bool} {l : List α} (h : ∀ (j : Nat) (q : α), l[j]? = some q → pd q = false) : idxB pd l = -1 := by
  have : l.findIdx? pd = none := List.findIdx?_eq_none_iff.2 fun x hx => by
    obtain ⟨j, hj, rfl⟩ := List.getElem_of_mem hx
    exact h j _ (List.getElem?_eq_getElem hj)
  unfold idxB; rw [this]
theorem idxB_any {α : Type} (pd : α → Bool) (l : List α) : decide (0 ≤ idxB pd l) = l.any pd := by
  unfold idxB
  cases h : l.findIdx? pd with
  | none =>
    have h2 := List.findIdx?_eq_none_iff.1 h
    have : l.any pd = false := by rw [List.any_eq_false]; exact fun x hx => by simpa using h2 x hx
    rw [this]; rfl
  | some k =>
    obtain ⟨hl, hq, _⟩ := List.findIdx?_eq_some_iff_getElem.1 h
    have : l.any pd = true := List.any_eq_true.2 ⟨l[k], List.getElem_mem hl, hq⟩
    rw [this]; simp
theorem idxB_cases {α : Type} (pd : α → Bool) (l : List α) : (idxB pd l = -1 ∧ l.filter (fun q => !pd q) = l) ∨ ∃ k, k < l.length ∧ idxB pd l = (k : Int) ∧ (l.take k).filter (fun q => !pd q) = l.take k ∧ (l.take (k + 1)).filter (fun q => !pd q) = l.take k := by
  unfold idxB
  cases h : l.findIdx? pd with
  | none =>
    have h2 := List.findIdx?_eq_none_iff.1 h
    exact .inl ⟨rfl, List.filter_eq_self.2 fun x hx => by simp [h2 x hx]⟩
  | some k =>
    obtain ⟨hl, hq, hb⟩ := List.findIdx?_eq_some_iff_getElem.1 h
    have h1 : (l.take k).filter (fun q => !pd q) = l.take k := List.filter_eq_self.2 fun x hx => by
      obtain ⟨j, hj, rfl⟩ := List.getElem_of_mem hx
      have hjk : j < k := by rw [List.length_take] at hj; omega
      have := hb j hjk
      simpa using this
    exact .inr ⟨k, hl, rfl, h1, by rw [List.take_add_one, List.filter_append, h1, List.getElem?_eq_getElem hl]; simp [hq]⟩
end Go.Proofs.Ytkpogmigfjmacaa
