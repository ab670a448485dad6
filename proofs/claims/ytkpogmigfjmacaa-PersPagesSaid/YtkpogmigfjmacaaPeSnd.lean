/-
  What the orders leave can be: plain.
-/
import Derived.Test.YtkpogmigfjmacaaPeRise
import Derived.Test.YtkpogmigfjmacaaPeDel
set_option linter.unusedSimpArgs false
set_option linter.unusedVariables false
namespace Go.Proofs.Ytkpogmigfjmacaa
open Go.RowKit

theorem sound_iff {l : List (Int × Int)} {h t : Int} : soundB l h t = true ↔ l.length ≤ 6 ∧ riseB l (-1) = true ∧ ((t = 0 ∧ h = -1) ∨ (t ≠ 0 ∧ isTyB t = true ∧ keyL l h ≠ 0)) := by
  unfold soundB lenB
  by_cases ht : t = 0
  · rw [if_pos ht]
    simp only [Bool.and_eq_true, decide_eq_true_eq, and_assoc]
    constructor
    · rintro ⟨a, b, c⟩; exact ⟨a, b, .inl ⟨ht, c⟩⟩
    · rintro ⟨a, b, c | c⟩
      · exact ⟨a, b, c.2⟩
      · exact absurd ht c.1
  · rw [if_neg ht]
    simp only [Bool.and_eq_true, decide_eq_true_eq, and_assoc, regB]
    constructor
    · rintro ⟨a, b, c, d⟩; exact ⟨a, b, .inr ⟨ht, c, d⟩⟩
    · rintro ⟨a, b, c | c⟩
      · exact absurd c.1 ht
      · exact ⟨a, b, c.2⟩
/-- A removal, said by nexuses. -/
def smOf (pd : Int × Int → Bool) (l : List (Int × Int)) (i : Int) : Bool := pd (i, keyL l i)
theorem leftOf_sm {pd : Int × Int → Bool} {l : List (Int × Int)} (h : riseB l (-1) = true) : leftOf pd l = l.filter fun q => !smOf pd l q.1 :=
  List.filter_congr fun q hq => by rw [smOf, keyL_mem h hq]
theorem goneOf_sm {pd : Int × Int → Bool} {l : List (Int × Int)} (h : riseB l (-1) = true) : goneOf pd l = (l.filter fun q => smOf pd l q.1).map (·.1) := by
  unfold goneOf
  rw [List.filter_congr (q := fun q => smOf pd l q.1) fun q hq => by rw [smOf, keyL_mem h hq]]
theorem rise_left {pd : Int × Int → Bool} {l : List (Int × Int)} (h : riseB l (-1) = true) : riseB (leftOf pd l) (-1) = true := rise_filter _ h
theorem keyL_left {pd : Int × Int → Bool} {l : List (Int × Int)} (h : riseB l (-1) = true) (i : Int) : keyL (leftOf pd l) i = if smOf pd l i = true then 0 else keyL l i := by
  rw [leftOf_sm h, keyL_filter (fun i => !smOf pd l i) h i]
  cases smOf pd l i <;> rfl
theorem rem_sound {pd : Int × Int → Bool} {l : List (Int × Int)} {h t : Int} (hs : soundB l h t = true) : soundB (leftOf pd l) (remH (leftOf pd l) h t) (remT (leftOf pd l) h t) = true := by
  obtain ⟨h1, h2, h3⟩ := sound_iff.1 hs
  have hl := leftOf_le pd l
  have hr := rise_left (pd := pd) h2
  refine sound_iff.2 ⟨by omega, hr, ?_⟩
  generalize leftOf pd l = L at hl hr ⊢
  rcases h3 with ⟨rfl, rfl⟩ | ⟨ht, hty, hk⟩
  · left; exact ⟨rfl, rfl⟩
  · have hres : resB t = true := by simp [resB, ht]
    by_cases hz : keyL L h = 0
    · have hreg : regB L h = false := by simp [regB, hz]
      unfold remH remT
      rw [hres, hreg]
      simp only [Bool.not_false, Bool.and_true, if_true]
      cases L with
      | nil => exact .inl ⟨rfl, rfl⟩
      | cons r L =>
        cases ho : ofAllB t with
        | true =>
          refine .inr ⟨ht, hty, ?_⟩
          simp only [if_true, keyL]
          exact (rise_cons.1 hr).1.2.2
        | false => exact .inl ⟨rfl, rfl⟩
    · have hreg : regB L h = true := by simp [regB, hz]
      unfold remH remT
      rw [hres, hreg]
      exact .inr ⟨ht, hty, hz⟩
theorem withL_len2 : ∀ {l : List (Int × Int)} {m n x : Int} (_ : riseB l m = true) (_ : keyL l n ≠ 0), (withL l n x).length = l.length
  | [], _, _, _, _, hk => absurd rfl hk
  | r :: l, m, n, x, h, hk => by
    obtain ⟨ha, hb⟩ := rise_cons.1 h
    rw [withL]
    by_cases e2 : r.1 = n
    · rw [if_neg (by omega), if_pos e2]; rfl
    · rw [keyL, if_neg e2] at hk
      obtain ⟨q, hq, h1, h2⟩ := keyL_ne hk
      have := (rise_mem hb hq).1
      rw [if_pos (by omega)]
      simp only [List.length_cons, withL_len2 hb hk]
theorem keepN_le (n : Int) (l : List Int) : (keepN n l).length ≤ l.length := List.length_filter_le _ _
theorem act_sound {T : Tb} (hs : soundB T.l T.h T.t = true) (n a ty key other : Int) (hn0 : 0 ≤ n) (hn8 : n < 8) (ap : Bool) :
    soundB (actL T n a ty key other ap).1.l (actL T n a ty key other ap).1.h (actL T n a ty key other ap).1.t = true ∧ (actL T n a ty key other ap).2.2.length ≤ 6 := by
  obtain ⟨g, l, h, t, p⟩ := T
  simp only at hs
  obtain ⟨h1, h2, h3⟩ := sound_iff.1 hs
  have hg : ∀ pd, (goneOf pd l).length ≤ 6 := fun pd => by have := goneOf_le pd l; omega
  unfold actL
  split
  · unfold regL
    split
    · exact ⟨hs, by simp⟩
    split
    · exact ⟨hs, by simp⟩
    split
    · exact ⟨hs, by simp⟩
    rename_i c1 c2 c3
    split
    · exact ⟨rem_sound hs, hg _⟩
    · rename_i ho
      refine ⟨sound_iff.2 ⟨?_, rise_with h2 (by omega) hn8 ho, ?_⟩, by simp⟩
      · by_cases hz : keyL l n = 0
        · have := withL_len l n other
          have h6 : ¬ (6 ≤ l.length) := fun h6 => c3 ⟨hz, h6⟩
          show (withL l n other).length ≤ 6
          omega
        · show (withL l n other).length ≤ 6
          rw [withL_len2 h2 hz]; exact h1
      · rcases h3 with h3 | ⟨ht, hty, hk⟩
        · exact .inl h3
        · refine .inr ⟨ht, hty, ?_⟩
          rw [keyL_with h2]
          split
          · exact ho
          · exact hk
  split
  · exact ⟨hs, by simp⟩
  split
  · exact ⟨hs, by simp⟩
  rename_i cr
  have hreg : keyL l n ≠ 0 := by simpa [regB] using cr
  split
  · split
    · unfold resvL
      split
      · exact ⟨hs, by simp⟩
      split
      · rename_i c4 c5
        refine ⟨sound_iff.2 ⟨h1, h2, .inr ⟨?_, by simpa using c4, hreg⟩⟩, by simp⟩
        intro e
        have e' : ty = 0 := e
        rw [e'] at c4
        exact c4 rfl
      split
      · exact ⟨hs, by simp⟩
      split
      · exact ⟨hs, by simp⟩
      · exact ⟨hs, by simp⟩
    split
    · unfold relsL
      split
      · exact ⟨hs, by simp⟩
      split
      · exact ⟨sound_iff.2 ⟨h1, h2, .inl ⟨rfl, rfl⟩⟩, by simp⟩
      · exact ⟨hs, by simp⟩
    split
    · exact ⟨rem_sound hs, hg _⟩
    · unfold preL
      split
      · exact ⟨hs, by simp⟩
      split
      · exact ⟨hs, by simp⟩
      split
      · rename_i c6 c7 c8
        have hty : isTyB ty = true := by
          cases hb : isTyB ty with
          | true => rfl
          | false => exact absurd ⟨c8, hb⟩ c7
        refine ⟨sound_iff.2 ⟨by have := leftOf_le (namedB true n other) l; show (leftOf (namedB true n other) l).length ≤ 6; omega, rise_left h2, .inr ⟨?_, hty, ?_⟩⟩, hg _⟩
        · intro e
          have e' : ty = 0 := e
          rw [e'] at hty
          cases hty
        · show keyL (leftOf (namedB true n other) l) n ≠ 0
          rw [keyL_left h2]
          have : smOf (namedB true n other) l n = false := by simp [smOf, namedB]
          rw [this]
          exact hreg
      split
      · exact ⟨hs, by simp⟩
      · exact ⟨rem_sound hs, hg _⟩
  · exact ⟨hs, by simp⟩
end Go.Proofs.Ytkpogmigfjmacaa
