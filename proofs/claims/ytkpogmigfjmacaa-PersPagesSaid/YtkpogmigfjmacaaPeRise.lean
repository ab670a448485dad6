/-
  Rising registrations, and a key by each nexus: plain.
-/
import Derived.Test.YtkpogmigfjmacaaPeMath2
set_option linter.unusedSimpArgs false
set_option linter.unusedVariables false
namespace Go.Proofs.Ytkpogmigfjmacaa
open Go.RowKit

theorem rise_cons {r : Int × Int} {l : List (Int × Int)} {n : Int} : riseB (r :: l) n = true ↔ (n < r.1 ∧ r.1 < 8 ∧ r.2 ≠ 0) ∧ riseB l r.1 = true := by
  simp only [riseB, Bool.and_eq_true, decide_eq_true_eq]
theorem rise_low {l : List (Int × Int)} {n m : Int} (h : riseB l n = true) (hm : m ≤ n) : riseB l m = true := by
  cases l with
  | nil => rfl
  | cons r l =>
    obtain ⟨⟨h1, h2, h3⟩, h4⟩ := rise_cons.1 h
    exact rise_cons.2 ⟨⟨by omega, h2, h3⟩, h4⟩
theorem rise_mem : ∀ {l : List (Int × Int)} {n : Int} (_ : riseB l n = true) {q : Int × Int} (_ : q ∈ l), n < q.1 ∧ q.1 < 8 ∧ q.2 ≠ 0
  | [], _, _, _, hq => by cases hq
  | r :: l, n, h, q, hq => by
    obtain ⟨⟨h1, h2, h3⟩, h4⟩ := rise_cons.1 h
    rcases List.mem_cons.1 hq with rfl | hq
    · exact ⟨h1, h2, h3⟩
    · obtain ⟨k1, k2, k3⟩ := rise_mem h4 hq
      exact ⟨by omega, k2, k3⟩
theorem keyL_zero : ∀ {l : List (Int × Int)} {n : Int} (_ : ∀ q ∈ l, q.1 ≠ n), keyL l n = 0
  | [], _, _ => rfl
  | r :: l, n, h => by
    rw [keyL, if_neg (h r (by simp))]
    exact keyL_zero fun q hq => h q (by simp [hq])
theorem keyL_rise {l : List (Int × Int)} {n i : Int} (h : riseB l n = true) (hi : i ≤ n) : keyL l i = 0 :=
  keyL_zero fun q hq e => by have := (rise_mem h hq).1; omega
theorem keyL_hi {l : List (Int × Int)} {n i : Int} (h : riseB l n = true) (hi : 8 ≤ i) : keyL l i = 0 :=
  keyL_zero fun q hq e => by have := (rise_mem h hq).2.1; omega
theorem keyL_mem : ∀ {l : List (Int × Int)} {n : Int} (_ : riseB l n = true) {q : Int × Int} (_ : q ∈ l), keyL l q.1 = q.2
  | [], _, _, _, hq => by cases hq
  | r :: l, n, h, q, hq => by
    obtain ⟨_, h4⟩ := rise_cons.1 h
    rcases List.mem_cons.1 hq with rfl | hq
    · rw [keyL, if_pos rfl]
    · have := (rise_mem h4 hq).1
      rw [keyL, if_neg (by omega)]
      exact keyL_mem h4 hq
theorem keyL_ne {l : List (Int × Int)} {i : Int} : keyL l i ≠ 0 → ∃ q ∈ l, q.1 = i ∧ q.2 = keyL l i := by
  induction l with
  | nil => intro h; exact absurd rfl h
  | cons r l ih =>
    intro h
    by_cases e : r.1 = i
    · exact ⟨r, by simp, e, by rw [keyL, if_pos e]⟩
    · rw [keyL, if_neg e] at h ⊢
      obtain ⟨q, hq, h1, h2⟩ := ih h
      exact ⟨q, by simp [hq], h1, h2⟩
/-- Rising registrations are what their keys are. -/
theorem rise_ext : ∀ {l l' : List (Int × Int)} {n : Int} (_ : riseB l n = true) (_ : riseB l' n = true) (_ : ∀ i, keyL l i = keyL l' i), l = l'
  | [], [], _, _, _, _ => rfl
  | [], r :: l', n, _, h', he => by
    obtain ⟨⟨_, _, h3⟩, _⟩ := rise_cons.1 h'
    have := he r.1
    rw [keyL, keyL, if_pos rfl] at this
    exact absurd this.symm h3
  | r :: l, [], n, h, _, he => by
    obtain ⟨⟨_, _, h3⟩, _⟩ := rise_cons.1 h
    have := he r.1
    rw [keyL, keyL, if_pos rfl] at this
    exact absurd this h3
  | r :: l, r' :: l', n, h, h', he => by
    obtain ⟨⟨h1, h2, h3⟩, h4⟩ := rise_cons.1 h
    obtain ⟨⟨k1, k2, k3⟩, k4⟩ := rise_cons.1 h'
    have e1 : r.1 = r'.1 := by
      rcases Int.lt_trichotomy r.1 r'.1 with hlt | heq | hgt
      · have := he r.1
        rw [keyL, if_pos rfl, keyL, if_neg (by omega), keyL_rise k4 (by omega)] at this
        exact absurd this h3
      · exact heq
      · have := he r'.1
        rw [keyL, if_neg (by omega), keyL_rise h4 (by omega), keyL, if_pos rfl] at this
        exact absurd this.symm k3
    have e2 : r.2 = r'.2 := by
      have := he r.1
      rwa [keyL, if_pos rfl, keyL, if_pos e1.symm] at this
    have e : r = r' := Prod.ext e1 e2
    subst e
    congr 1
    refine rise_ext h4 k4 fun i => ?_
    by_cases hi : i ≤ r.1
    · rw [keyL_rise h4 hi, keyL_rise k4 hi]
    · have := he i
      rwa [keyL, if_neg (by omega), keyL, if_neg (by omega)] at this
/-! A key by each nexus. -/
def lstK (f : Int → Int) (k : Nat) : List (Int × Int) := (List.range k).filterMap fun i : Nat => if f (i : Int) = 0 then none else some ((i : Int), f (i : Int))
theorem lstK_next (f : Int → Int) (k : Nat) : lstK f (k + 1) = lstK f k ++ (if f k = 0 then [] else [((k : Int), f k)]) := by
  unfold lstK
  rw [List.range_succ, List.filterMap_append]
  by_cases h : f (k : Int) = 0 <;> simp [h]
theorem rise_snoc : ∀ {l : List (Int × Int)} {n : Int} {q : Int × Int} (_ : riseB l n = true) (_ : ∀ r ∈ l, r.1 < q.1) (_ : n < q.1) (_ : q.1 < 8) (_ : q.2 ≠ 0), riseB (l ++ [q]) n = true
  | [], n, q, _, _, h1, h2, h3 => rise_cons.2 ⟨⟨h1, h2, h3⟩, rfl⟩
  | r :: l, n, q, h, hl, h1, h2, h3 => by
    obtain ⟨ha, hb⟩ := rise_cons.1 h
    exact rise_cons.2 ⟨ha, rise_snoc hb (fun p hp => hl p (by simp [hp])) (hl r (by simp)) h2 h3⟩
theorem keyL_append {l : List (Int × Int)} {q : Int × Int} (h : ∀ r ∈ l, r.1 ≠ q.1) (i : Int) : keyL (l ++ [q]) i = if i = q.1 then q.2 else keyL l i := by
  induction l with
  | nil =>
    simp only [List.nil_append, keyL]
    by_cases e : q.1 = i
    · rw [if_pos e, if_pos e.symm]
    · rw [if_neg e, if_neg (fun e' => e e'.symm)]
  | cons r l ih =>
    simp only [List.cons_append, keyL]
    by_cases e : r.1 = i
    · rw [if_pos e, if_neg (fun e' => h r (by simp) (by omega)), if_pos e]
    · rw [if_neg e, if_neg e, ih (fun p hp => h p (by simp [hp]))]
theorem lstK_facts (f : Int → Int) : ∀ (k : Nat), k ≤ 8 → riseB (lstK f k) (-1) = true ∧ (∀ r ∈ lstK f k, r.1 < k) ∧ ∀ i, keyL (lstK f k) i = if 0 ≤ i ∧ i < k then f i else 0
  | 0, _ => ⟨rfl, by simp [lstK], fun i => by rw [if_neg (by omega)]; rfl⟩
  | k + 1, hk => by
    obtain ⟨h1, h2, h3⟩ := lstK_facts f k (by omega)
    rw [lstK_next]
    by_cases hz : f (k : Int) = 0
    · rw [if_pos hz, List.append_nil]
      refine ⟨h1, fun r hr => by have := h2 r hr; omega, fun i => ?_⟩
      rw [h3 i]
      by_cases e : i = k
      · subst e; rw [if_neg (by omega), if_pos (by omega), hz]
      · by_cases e2 : 0 ≤ i ∧ i < (k : Int)
        · rw [if_pos e2, if_pos (by omega)]
        · rw [if_neg e2, if_neg (by omega)]
    · rw [if_neg hz]
      refine ⟨rise_snoc h1 (fun r hr => h2 r hr) (by show (-1 : Int) < (k : Int); omega) (by show (k : Int) < 8; omega) hz, fun r hr => ?_, fun i => ?_⟩
      · rcases List.mem_append.1 hr with hr | hr
        · have := h2 r hr; omega
        · simp only [List.mem_cons, List.not_mem_nil, or_false] at hr
          subst hr; show (k : Int) < _; omega
      · rw [keyL_append (fun r hr => by have := h2 r hr; show r.1 ≠ (k : Int); omega), h3 i]
        by_cases e : i = k
        · subst e; rw [if_pos rfl, if_pos (by omega)]
        · rw [if_neg e]
          by_cases e2 : 0 ≤ i ∧ i < (k : Int)
          · rw [if_pos e2, if_pos (by omega)]
          · rw [if_neg e2, if_neg (by omega)]
/-- The list of a key by each nexus is the one that has these keys. -/
theorem lstK_eq {f : Int → Int} {l : List (Int × Int)} (h : riseB l (-1) = true) (hf : ∀ i, 0 ≤ i → i < 8 → f i = keyL l i) : lstK f 8 = l := by
  obtain ⟨h1, _, h3⟩ := lstK_facts f 8 (Nat.le_refl _)
  refine rise_ext h1 h fun i => ?_
  rw [h3 i]
  by_cases e : 0 ≤ i ∧ i < 8
  · rw [if_pos (by omega)]; exact hf i e.1 e.2
  · rw [if_neg (by omega)]
    by_cases e2 : i < 0
    · exact (keyL_rise h (by omega)).symm
    · exact (keyL_hi h (by omega)).symm
theorem lstK_keyL {l : List (Int × Int)} (h : riseB l (-1) = true) : lstK (keyL l) 8 = l := lstK_eq h fun _ _ _ => rfl
theorem rise_filter : ∀ {l : List (Int × Int)} {n : Int} (pd : Int × Int → Bool) (_ : riseB l n = true), riseB (l.filter pd) n = true
  | [], _, _, _ => rfl
  | r :: l, n, pd, h => by
    obtain ⟨ha, hb⟩ := rise_cons.1 h
    rw [List.filter_cons]
    split
    · exact rise_cons.2 ⟨ha, rise_filter pd hb⟩
    · exact rise_low (rise_filter pd hb) (by omega)
theorem keyL_filter : ∀ {l : List (Int × Int)} {n : Int} (sm : Int → Bool) (_ : riseB l n = true) (i : Int), keyL (l.filter fun q => sm q.1) i = if sm i = true then keyL l i else 0
  | [], _, _, _, i => by simp [keyL]
  | r :: l, n, sm, h, i => by
    obtain ⟨ha, hb⟩ := rise_cons.1 h
    have ih := keyL_filter sm hb i
    rw [List.filter_cons]
    by_cases e : r.1 = i
    · subst e
      cases hs : sm r.1 with
      | true => simp only [hs, if_true, keyL]
      | false =>
        simp only [hs, Bool.false_eq_true, if_false] at ih ⊢
        exact ih
    · cases hs : sm r.1 with
      | true => simp only [if_true, keyL, if_neg e]; exact ih
      | false => simp only [Bool.false_eq_true, if_false, keyL, if_neg e]; exact ih
theorem rise_with : ∀ {l : List (Int × Int)} {m n x : Int} (_ : riseB l m = true) (_ : m < n) (_ : n < 8) (_ : x ≠ 0), riseB (withL l n x) m = true
  | [], m, n, x, _, h1, h2, h3 => rise_cons.2 ⟨⟨h1, h2, h3⟩, rfl⟩
  | r :: l, m, n, x, h, h1, h2, h3 => by
    obtain ⟨ha, hb⟩ := rise_cons.1 h
    rw [withL]
    by_cases e : r.1 < n
    · rw [if_pos e]; exact rise_cons.2 ⟨ha, rise_with hb e h2 h3⟩
    · rw [if_neg e]
      by_cases e2 : r.1 = n
      · rw [if_pos e2]; exact rise_cons.2 ⟨⟨h1, h2, h3⟩, by rw [← e2]; exact hb⟩
      · rw [if_neg e2]; exact rise_cons.2 ⟨⟨h1, h2, h3⟩, rise_cons.2 ⟨⟨by show n < r.1; omega, ha.2.1, ha.2.2⟩, hb⟩⟩
theorem keyL_with : ∀ {l : List (Int × Int)} {m n x : Int} (_ : riseB l m = true) (i : Int), keyL (withL l n x) i = if i = n then x else keyL l i
  | [], _, n, x, _, i => by
    simp only [withL, keyL]
    by_cases e : n = i
    · rw [if_pos e, if_pos e.symm]
    · rw [if_neg e, if_neg (fun e' => e e'.symm)]
  | r :: l, m, n, x, h, i => by
    obtain ⟨ha, hb⟩ := rise_cons.1 h
    rw [withL]
    by_cases e : r.1 < n
    · rw [if_pos e, keyL, keyL, keyL_with hb i]
      by_cases e2 : r.1 = i
      · rw [if_pos e2, if_pos e2, if_neg (by omega)]
      · rw [if_neg e2, if_neg e2]
    · rw [if_neg e]
      by_cases e2 : r.1 = n
      · rw [if_pos e2, keyL, keyL]
        by_cases e3 : n = i
        · rw [if_pos e3, if_pos e3.symm]
        · rw [if_neg (show ¬ n = i from e3), if_neg (fun e' => e3 e'.symm), if_neg (by omega)]
      · rw [if_neg e2, keyL]
        by_cases e3 : n = i
        · rw [if_pos e3, if_pos e3.symm]
        · rw [if_neg (show ¬ n = i from e3), if_neg (fun e' => e3 e'.symm)]
end Go.Proofs.Ytkpogmigfjmacaa
