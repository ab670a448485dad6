/-
  The document's preempt: plain.
-/
import Derived.Test.YtkpogmigfjmacaaPeRReg
set_option linter.unusedSimpArgs false
set_option linter.unusedVariables false
namespace Go.Proofs.Ytkpogmigfjmacaa
open Go.RowKit

/-- Who is named, by nexuses. -/
def smP (l : List (Int × Int)) (tk : Bool) (n x : Int) (i : Int) : Bool := !(keyL l i == 0) && (keyL l i == x || (tk && x == 0)) && !(tk && i == n)
theorem named_smP {l : List (Int × Int)} {tk : Bool} {n x : Int} (hr : riseB l (-1) = true) (hx : x = 0 → tk = true) {q : Int × Int} (hq : q ∈ l) : namedB tk n x q = smP l tk n x q.1 := by
  have h2 := (rise_mem hr hq).2.2
  unfold namedB smP
  rw [keyL_mem hr hq]
  have e : (q.2 == 0) = false := by simpa using h2
  rw [e]
  by_cases hx0 : x = 0
  · rw [hx hx0]; subst hx0; simp [e]; rfl
  · have : (x == 0) = false := by simpa using hx0
    rw [this]
    cases tk <;> cases (q.1 == n) <;> simp
theorem left_smP {l : List (Int × Int)} {tk : Bool} {n x : Int} (hr : riseB l (-1) = true) (hx : x = 0 → tk = true) : leftOf (namedB tk n x) l = l.filter fun q => !smP l tk n x q.1 :=
  List.filter_congr fun q hq => by rw [named_smP hr hx hq]
theorem gone_smP {l : List (Int × Int)} {tk : Bool} {n x : Int} (hr : riseB l (-1) = true) (hx : x = 0 → tk = true) : goneOf (namedB tk n x) l = (l.filter fun q => smP l tk n x q.1).map (·.1) := by
  unfold goneOf
  rw [List.filter_congr (q := fun q => smP l tk n x q.1) fun q hq => named_smP hr hx hq]
def anyK (sm : Int → Bool) (k : Nat) : Bool := (List.range k).any fun i : Nat => sm (i : Int)
theorem anyK_next (sm : Int → Bool) (k : Nat) : anyK sm (k + 1) = (anyK sm k || sm (k : Int)) := by
  unfold anyK; rw [List.range_succ, List.any_append]; simp
theorem any_smP {l : List (Int × Int)} {tk : Bool} {n x : Int} (hr : riseB l (-1) = true) (hx : x = 0 → tk = true) : l.any (namedB tk n x) = anyK (smP l tk n x) 8 := by
  rw [Bool.eq_iff_iff, List.any_eq_true, anyK, List.any_eq_true]
  constructor
  · rintro ⟨q, hq, h⟩
    rw [named_smP hr hx hq] at h
    have hm := rise_mem hr hq
    exact ⟨q.1.toNat, List.mem_range.2 (by omega), by rw [show ((q.1.toNat : Nat) : Int) = q.1 by omega]; exact h⟩
  · rintro ⟨i, hi, h⟩
    have hk : keyL l (i : Int) ≠ 0 := by
      intro e
      simp [smP, e] at h
    obtain ⟨q, hq, h1, h2⟩ := keyL_ne hk
    exact ⟨q, hq, by rw [named_smP hr hx hq, h1]; exact h⟩
/-- .. those ahead of k. -/
def someV (sm : Int → Bool) (k : Nat) : List Value := boolV fun i => decide (i < (k : Int)) && sm i
theorem someV_0 (sm : Int → Bool) : someV sm 0 = boolV fun _ => false := boolV_congr fun i h0 _ => by rw [decide_eq_false (by omega)]; rfl
theorem someV_8 (sm : Int → Bool) : someV sm 8 = boolV sm := boolV_congr fun i _ h8 => by rw [decide_eq_true (by omega)]; rfl
theorem someV_next (sm : Int → Bool) {k : Nat} (hk : k < 8) {v : Bool} (hv : sm (k : Int) = v) : (someV sm k).set k (.bool v) = someV sm (k + 1) := by
  unfold someV
  rw [boolV_set _ hk]
  refine boolV_congr fun i _ _ => ?_
  by_cases e : i = (k : Int)
  · subst e; rw [if_pos rfl, ← hv, decide_eq_true (by omega)]; rfl
  · rw [if_neg e]
    by_cases e2 : i < (k : Int)
    · rw [decide_eq_true e2, decide_eq_true (by omega)]
    · rw [decide_eq_false e2, decide_eq_false (by omega)]
theorem someV_len (sm : Int → Bool) (k : Nat) : (someV sm k).length = 8 := boolV_len _
theorem someV_at (sm : Int → Bool) {k i : Nat} (hi : i < 8) : ∃ v, (someV sm k)[i]? = some (.bool v) := ⟨_, boolV_at _ hi⟩
theorem set_set (l : List Value) (k : Nat) (a b : Value) : (l.set k a).set k b = l.set k b := by simp
end Go.Proofs.Ytkpogmigfjmacaa
