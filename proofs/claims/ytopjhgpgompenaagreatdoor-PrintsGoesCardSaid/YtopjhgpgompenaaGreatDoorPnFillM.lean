/-
  A table that is filled: plain.
-/
import Derived.Test.YtopjhgpgompenaaGreatDoorPnStands
set_option linter.unusedSimpArgs false
set_option linter.unusedVariables false
namespace Go.Proofs.YtopjhgpgompenaaGreatDoor
open Go.RowKit Sh Go.Maps Go.Extern.Stop Go.Stop Go.Extern

theorem pn_mod (x : Int) (n : Nat) (h0 : 0 < n) (hn : n ≤ 2000) : ∃ (s : Int) (i r : Nat), x.tmod (n : Int) = s ∧ wrap64 (s + (n : Int)) = (r : Int) ∧ (r : Int).tmod (n : Int) = (i : Int) ∧ i < n := by
  have t1 := Int.tmod_lt_of_pos x (show (0 : Int) < (n : Int) by omega)
  have t2 : -(n : Int) < x.tmod (n : Int) := Int.lt_tmod_of_pos x (by omega)
  obtain ⟨s, hs⟩ : ∃ s : Int, x.tmod (n : Int) = s := ⟨_, rfl⟩
  rw [hs] at t1 t2
  refine ⟨s, (s + n).toNat % n, (s + n).toNat, hs, ?_, ?_, Nat.mod_lt _ h0⟩
  · rw [IntWalk.wrap64_in _ (by omega)]; omega
  · rw [Int.tmod_eq_emod_of_nonneg (by omega), Int.natCast_emod]
/-! What look tells. -/
theorem lookL_some {f : Ent → Bool} {es : List Ent} {n a p : Nat} (h0 : 0 < n) (h : lookL f es n a = some p) : p < n ∧ f (es.getD p noE) = true := by
  unfold lookL at h
  have hf := List.find?_some h
  have hm := List.mem_of_find?_eq_some h
  obtain ⟨k, _, rfl⟩ := List.mem_map.1 hm
  exact ⟨Nat.mod_lt _ h0, hf⟩
theorem lookL_none {f : Ent → Bool} {es : List Ent} {n a : Nat} (h0 : 0 < n) (h : lookL f es n a = none) (p : Nat) (hp : p < n) : f (es.getD p noE) = false := by
  unfold lookL at h
  rw [List.find?_eq_none] at h
  have hk : (a + (p + n - a % n) % n) % n = p := by
    have ha := Nat.mod_lt a h0
    rw [Nat.add_mod, Nat.mod_mod, ← Nat.add_mod]
    have e : a % n + (p + n - a % n) = p + n := by omega
    have : (a + (p + n - a % n)) % n = (a % n + (p + n - a % n)) % n := by rw [Nat.add_mod, ← Nat.mod_mod a n, ← Nat.add_mod, Nat.mod_mod]
    rw [this, e, Nat.add_mod_right, Nat.mod_eq_of_lt hp]
  have := h p (List.mem_map.2 ⟨(p + n - a % n) % n, List.mem_range.2 (Nat.mod_lt _ h0), hk⟩)
  simpa using this
/-- The one place that fits is told. -/
theorem lookL_one {f : Ent → Bool} {es : List Ent} {n a p : Nat} (h0 : 0 < n) (hp : p < n) (hf : f (es.getD p noE) = true) (hu : ∀ q, q < n → f (es.getD q noE) = true → q = p) : lookL f es n a = some p := by
  cases h : lookL f es n a with
  | none => rw [lookL_none h0 h p hp] at hf; cases hf
  | some q =>
    obtain ⟨h1, h2⟩ := lookL_some h0 h
    rw [hu q h1 h2]
/-! Counting. -/
def usedE (es : List Ent) : Nat := es.countP (fun e => !fitO e)
theorem usedE_set {es : List Ent} {p : Nat} {e : Ent} (hp : p < es.length) (h0 : fitO (es.getD p noE) = true) (he : fitO e = false) : usedE (es.set p e) = usedE es + 1 := by
  unfold usedE
  induction es generalizing p with
  | nil => simp at hp
  | cons x es ih =>
    cases p with
    | zero =>
      have hx : fitO x = true := h0
      simp only [List.set_cons_zero, List.countP_cons, he, hx]
      simp
    | succ p =>
      have := ih (p := p) (by simpa using hp) h0
      simp only [List.set_cons_succ, List.countP_cons, this]
      omega
theorem usedE_le (es : List Ent) : usedE es ≤ es.length := List.countP_le_length
theorem usedE_all {es : List Ent} (h : ∀ p, p < es.length → fitO (es.getD p noE) = false) : usedE es = es.length := by
  unfold usedE
  rw [List.countP_eq_length]
  intro e he
  obtain ⟨p, hp⟩ := List.mem_iff_getElem?.1 he
  have hlt := (List.getElem?_eq_some_iff.1 hp).1
  have := h p hlt
  rw [List.getD_eq_getElem?_getD, hp] at this
  simpa using this
theorem usedE_some {es : List Ent} {p : Nat} (hp : p < es.length) (h : fitO (es.getD p noE) = true) : usedE es ≠ es.length := by
  intro hc
  unfold usedE at hc
  rw [List.countP_eq_length] at hc
  have := hc _ (List.getElem_mem hp)
  rw [List.getD_eq_getElem?_getD, List.getElem?_eq_getElem hp] at h
  simp only [Option.getD_some] at h
  rw [h] at this
  cases this
theorem usedE_new (n : Nat) : usedE (List.replicate n noE) = 0 := by
  unfold usedE
  rw [List.countP_eq_zero]
  intro e he
  rw [(List.mem_replicate.1 he).2]
  decide
/-- The digests of the law. -/
def dgF (al : Bool) (seed : UInt8) (i : Nat) : List UInt8 := if al then seed :: 9 :: (List.replicate 28 0 ++ [UInt8.ofNat i, UInt8.ofNat i]) else seed :: UInt8.ofNat i :: List.replicate 30 0
theorem dgF_len (al : Bool) (seed : UInt8) (i : Nat) : (dgF al seed i).length = 32 := by unfold dgF; cases al <;> simp
theorem dgF_inj {al : Bool} {seed : UInt8} {i j : Nat} (hi : i < 256) (hj : j < 256) (h : dgF al seed i = dgF al seed j) : i = j := by
  have key : UInt8.ofNat i = UInt8.ofNat j := by
    unfold dgF at h
    cases al with
    | false =>
      simp only [Bool.false_eq_true, if_false, List.cons.injEq, true_and, and_true] at h
      exact h
    | true =>
      simp only [if_true, List.cons.injEq, true_and] at h
      have := List.append_cancel_left h
      exact (List.cons.inj this).1
  have := congrArg UInt8.toNat key
  rw [UInt8.toNat_ofNat', UInt8.toNat_ofNat'] at this
  omega
def entF (al : Bool) (seed : UInt8) (i : Nat) : Ent := ⟨dgF al seed i, i, 1⟩
/-- What is in a table while it is filled. -/
structure PFill (al : Bool) (seed : UInt8) (es : List Ent) (n i : Nat) : Prop where
  len : es.length = n
  used : usedE es = i
  at_ : ∀ j, j < i → ∃ p, p < n ∧ es.getD p noE = entF al seed j
  each : ∀ p, p < n → es.getD p noE = noE ∨ ∃ j, j < i ∧ es.getD p noE = entF al seed j
  one : ∀ p q, p < n → q < n → es.getD p noE = es.getD q noE → es.getD p noE ≠ noE → p = q
theorem PFill.zero (al : Bool) (seed : UInt8) (n : Nat) : PFill al seed (List.replicate n noE) n 0 := by
  have hz : ∀ p, p < n → (List.replicate n noE).getD p noE = noE := fun p hp => by rw [List.getD_eq_getElem?_getD, List.getElem?_replicate, if_pos hp]; rfl
  exact ⟨List.length_replicate, usedE_new n, fun j hj => by omega, fun p hp => .inl (hz p hp), fun p q hp _ _ hne => absurd (hz p hp) hne⟩
theorem entF_no (al : Bool) (seed : UInt8) (i : Nat) : entF al seed i ≠ noE := fun h => by
  have h2 : (1 : Nat) = 0 := congrArg Ent.refs h
  omega
theorem PFill.full {al : Bool} {seed : UInt8} {es : List Ent} {n i a : Nat} (h : PFill al seed es n i) (h0 : 0 < n) : lookL fitO es n a = none ↔ i = n := by
  constructor
  · intro hn
    have := usedE_all (es := es) (fun p hp => lookL_none h0 hn p (by rw [← h.len]; exact hp))
    rw [h.used, h.len] at this; exact this
  · intro hi
    cases hl : lookL fitO es n a with
    | none => rfl
    | some p =>
      obtain ⟨h1, h2⟩ := lookL_some h0 hl
      have := usedE_some (es := es) (p := p) (by rw [h.len]; exact h1) h2
      rw [h.used, h.len] at this
      exact absurd hi this
theorem getD_set_ent (es : List Ent) (p q : Nat) (e : Ent) (hp : p < es.length) : (es.set p e).getD q noE = if q = p then e else es.getD q noE := by
  rw [List.getD_eq_getElem?_getD]
  by_cases h : q = p
  · subst h; rw [if_pos rfl, List.getElem?_set_self hp]; rfl
  · rw [if_neg h, List.getElem?_set_ne (fun e => h e.symm), List.getD_eq_getElem?_getD]
theorem PFill.put {al : Bool} {seed : UInt8} {es : List Ent} {n i a p : Nat} (h : PFill al seed es n i) (h0 : 0 < n) (hi : i < 256) (hl : lookL fitO es n a = some p) : p < n ∧ PFill al seed (es.set p (normE (entF al seed i))) n (i + 1) := by
  obtain ⟨h1, h2⟩ := lookL_some h0 hl
  have hlen := h.len
  have hp : p < es.length := by omega
  have hno : es.getD p noE = noE := (h.each p h1).resolve_right (fun ⟨j, _, hj⟩ => by rw [hj] at h2; cases h2)
  have hn : normE (entF al seed i) = entF al seed i := rfl
  rw [hn]
  have hg := fun q => getD_set_ent es p q (entF al seed i) hp
  have hnew : ∀ q, q < n → es.getD q noE ≠ entF al seed i := fun q hq e => by
    rcases h.each q hq with h3 | ⟨j, hj, h3⟩
    · rw [h3] at e; exact entF_no al seed i e.symm
    · rw [h3] at e
      have := congrArg Ent.slot e
      have : j = i := this
      omega
  refine ⟨h1, ⟨by rw [List.length_set]; exact hlen, by rw [usedE_set hp h2 rfl, h.used], fun j hj => ?_, fun q hq => ?_, fun q r hq hr he hne => ?_⟩⟩
  · by_cases e : j = i
    · subst e; exact ⟨p, h1, by rw [hg, if_pos rfl]⟩
    · obtain ⟨q, hq, hq2⟩ := h.at_ j (by omega)
      refine ⟨q, hq, ?_⟩
      rw [hg, if_neg, hq2]
      intro e2; subst e2; rw [hno] at hq2; exact entF_no al seed j hq2.symm
  · rw [hg]
    by_cases e : q = p
    · rw [if_pos e]; exact .inr ⟨i, by omega, rfl⟩
    · rw [if_neg e]
      exact (h.each q hq).imp id (fun ⟨j, hj, h3⟩ => ⟨j, by omega, h3⟩)
  · rw [hg, hg] at he
    rw [hg] at hne
    by_cases e1 : q = p
    · by_cases e2 : r = p
      · omega
      · rw [if_pos e1, if_neg e2] at he
        exact absurd he.symm (hnew r hr)
    · by_cases e2 : r = p
      · rw [if_neg e1, if_pos e2] at he
        exact absurd he (hnew q hq)
      · rw [if_neg e1, if_neg e2] at he
        rw [if_neg e1] at hne
        exact h.one q r hq hr he hne
/-- Where an entry is found. -/
theorem PFill.finds {al : Bool} {seed : UInt8} {es : List Ent} {n i j : Nat} (h : PFill al seed es n i) (h0 : 0 < n) (hi : i ≤ 256) (hj : j < i) (a : Nat) :
    ∃ p, p < n ∧ es.getD p noE = entF al seed j ∧ lookL (fitF (dgF al seed j)) es n a = some p ∧ lookL (fitS (j : Int)) es n 0 = some p := by
  obtain ⟨p, hp, he⟩ := h.at_ j hj
  refine ⟨p, hp, he, lookL_one h0 hp ?_ (fun q hq hf => ?_), lookL_one h0 hp ?_ (fun q hq hf => ?_)⟩
  · rw [he]; unfold fitF entF; simp
  · rcases h.each q hq with h3 | ⟨k, hk, h3⟩
    · rw [h3] at hf; exact absurd hf (by unfold fitF; simp [noE])
    · rw [h3] at hf
      have hd : dgF al seed k = dgF al seed j := by unfold fitF entF at hf; simpa using hf
      have : k = j := dgF_inj (by omega) (by omega) hd
      subst this
      exact h.one q p hq hp (h3.trans he.symm) (by rw [h3]; exact entF_no al seed k)
  · rw [he]; unfold fitS entF; simp
  · rcases h.each q hq with h3 | ⟨k, hk, h3⟩
    · rw [h3] at hf; exact absurd hf (by unfold fitS; simp [noE])
    · rw [h3] at hf
      have : k = j := by unfold fitS entF at hf; simp at hf; omega
      subst this
      exact h.one q p hq hp (h3.trans he.symm) (by rw [h3]; exact entF_no al seed k)
end Go.Proofs.YtopjhgpgompenaaGreatDoor
