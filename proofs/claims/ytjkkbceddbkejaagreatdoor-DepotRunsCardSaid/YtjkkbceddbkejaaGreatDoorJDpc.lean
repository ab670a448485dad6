import Derived.Test.YtjkkbceddbkejaaGreatDoorJDpa
import Derived.Test.YtjkkbceddbkejaaGreatDoorRxBook
import Derived.Test.YtjkkbceddbkejaaGreatDoorJDpb
import Derived.Test.YtjkkbceddbkejaaGreatDoorBkOwnX
set_option linter.unusedSimpArgs false
set_option linter.unusedVariables false
/-
  Depot: heads and blocks as plain lists.
-/
namespace Go.Proofs.YtjkkbceddbkejaaGreatDoor
open Go.RowKit Sh

/-- A head as it is told: where nothing is live all is free. -/
def normH (h : List UInt8) : List UInt8 := if h.count 1 = 0 then z4 else h
structure Hd (h : List UInt8) : Prop where
  len : h.length = 4
  low : ∀ c ∈ h, c = 0 ∨ c = 1 ∨ c = 2
  norm : h.count 1 = 0 → h = z4
theorem cut_low (c : UInt8) : cutH c = 0 ∨ cutH c = 1 ∨ cutH c = 2 := by
  unfold cutH
  split
  · rename_i h
    rcases (show c.toNat = 0 ∨ c.toNat = 1 ∨ c.toNat = 2 by omega) with e | e | e
    · exact .inl (UInt8.toNat_inj.1 e)
    · exact .inr (.inl (UInt8.toNat_inj.1 e))
    · exact .inr (.inr (UInt8.toNat_inj.1 e))
  · exact .inr (.inr rfl)
theorem cut_same {c : UInt8} (h : c = 0 ∨ c = 1 ∨ c = 2) : cutH c = c := by rcases h with rfl | rfl | rfl <;> rfl
theorem z4_hd : Hd z4 := ⟨rfl, fun c hc => .inl (List.eq_of_mem_replicate hc), fun _ => rfl⟩
theorem norm_hd {h : List UInt8} (hl : h.length = 4) (hc : ∀ c ∈ h, c = 0 ∨ c = 1 ∨ c = 2) : Hd (normH h) := by
  unfold normH
  split
  · exact z4_hd
  · rename_i e; exact ⟨hl, hc, fun h0 => absurd h0 e⟩
theorem told_hd {p : List UInt8} (hp : p.length = 64) : Hd (toldH p) := by
  have : toldH p = normH (rawH p) := rfl
  rw [this]
  refine norm_hd (rawH_len hp) (fun c hc => ?_)
  obtain ⟨d, _, rfl⟩ := List.mem_map.1 hc
  exact cut_low d
theorem told_page {h : List UInt8} (hl : h.length = 4) (hc : ∀ c ∈ h, c = 0 ∨ c = 1 ∨ c = 2) : toldH (pageH h) = normH h := by
  have e : rawH (pageH h) = h := by
    unfold rawH pageH
    rw [List.take_append_of_le_length (by omega), List.take_of_length_le (by omega)]
    conv => rhs; rw [← List.map_id h]
    exact List.map_congr_left (fun c hc' => cut_same (hc c hc'))
  unfold toldH normH
  rw [e]
  rfl
theorem Hd.norm_self {h : List UInt8} (H : Hd h) : normH h = h := by
  unfold normH
  split
  · rename_i e; exact (H.norm e).symm
  · rfl
theorem set_low {h : List UInt8} (hc : ∀ c ∈ h, c = 0 ∨ c = 1 ∨ c = 2) {s : UInt8} (hs : s = 0 ∨ s = 1 ∨ s = 2) (i : Nat) : ∀ c ∈ h.set i s, c = 0 ∨ c = 1 ∨ c = 2 := fun c hc' => by
  rcases List.mem_or_eq_of_mem_set hc' with h1 | rfl
  · exact hc c h1
  · exact hs
/-! Counts. -/
theorem count_set {l : List UInt8} {i : Nat} {x a c : UInt8} (hx : l[i]? = some x) : (l.set i a).count c + (if x = c then 1 else 0) = l.count c + (if a = c then 1 else 0) := by
  induction l generalizing i with
  | nil => simp at hx
  | cons y l ih =>
    cases i with
    | zero =>
      simp only [List.getElem?_cons_zero, Option.some.injEq] at hx
      subst hx
      simp only [List.set_cons_zero, List.count_cons, beq_iff_eq]
      omega
    | succ i =>
      simp only [List.getElem?_cons_succ] at hx
      have := ih hx
      simp only [List.set_cons_succ, List.count_cons]
      omega
theorem Hd.total {h : List UInt8} (H : Hd h) : h.count 0 + h.count 1 + h.count 2 = 4 := by
  have key : ∀ l : List UInt8, (∀ c ∈ l, c = 0 ∨ c = 1 ∨ c = 2) → l.count 0 + l.count 1 + l.count 2 = l.length := by
    intro l
    induction l with
    | nil => intro _; rfl
    | cons c l ih =>
      intro hc
      have := ih (fun d hd => hc d (List.mem_cons_of_mem _ hd))
      rcases hc c (List.mem_cons_self ..) with rfl | rfl | rfl
      · rw [List.count_cons_self, List.count_cons_of_ne (by decide), List.count_cons_of_ne (by decide), List.length_cons]; omega
      · rw [List.count_cons_self, List.count_cons_of_ne (by decide), List.count_cons_of_ne (by decide), List.length_cons]; omega
      · rw [List.count_cons_self, List.count_cons_of_ne (by decide), List.count_cons_of_ne (by decide), List.length_cons]; omega
  rw [key h H.low, H.len]
theorem Hd.le4 {h : List UInt8} (H : Hd h) (c : UInt8) : h.count c ≤ 4 := by rw [← H.len]; exact List.count_le_length
/-- Slots of a kind in all containers. -/
def cntA (c : UInt8) : List (List UInt8) → Nat
  | [] => 0
  | h :: t => h.count c + cntA c t
theorem cntA_set {c : UInt8} : ∀ {hs : List (List UInt8)} {k : Nat} {h h' : List UInt8}, hs[k]? = some h → cntA c (hs.set k h') + h.count c = cntA c hs + h'.count c
  | [], _, _, _, hk => by simp at hk
  | x :: hs, 0, h, h', hk => by
    simp only [List.getElem?_cons_zero, Option.some.injEq] at hk
    subst hk
    simp only [List.set_cons_zero, cntA]; omega
  | x :: hs, k + 1, h, h', hk => by
    simp only [List.getElem?_cons_succ] at hk
    have := cntA_set (c := c) (h' := h') hk
    simp only [List.set_cons_succ, cntA]; omega
theorem cntA_append (c : UInt8) : ∀ a b : List (List UInt8), cntA c (a ++ b) = cntA c a + cntA c b
  | [], b => by simp [cntA]
  | h :: t, b => by have := cntA_append c t b; simp only [List.cons_append, cntA]; omega
theorem cntA_take {c : UInt8} {hs : List (List UInt8)} {k : Nat} {h : List UInt8} (hk : hs[k]? = some h) : cntA c (hs.take (k + 1)) = cntA c (hs.take k) + h.count c := by
  rw [List.take_add_one, hk, cntA_append]; simp [cntA]
theorem cntA_total : ∀ {hs : List (List UInt8)}, (∀ h ∈ hs, Hd h) → cntA 0 hs + cntA 1 hs + cntA 2 hs = 4 * hs.length
  | [], _ => rfl
  | h :: t, H => by
    have h1 := (H h (List.mem_cons_self ..)).total
    have h2 := cntA_total (fun x hx => H x (List.mem_cons_of_mem _ hx))
    simp only [cntA, List.length_cons]; omega
theorem cntA_le {c : UInt8} : ∀ {hs : List (List UInt8)}, (∀ h ∈ hs, Hd h) → cntA c hs ≤ 4 * hs.length
  | [], _ => Nat.le_refl _
  | h :: t, H => by
    have h1 := (H h (List.mem_cons_self ..)).le4 c
    have h2 := cntA_le (c := c) (fun x hx => H x (List.mem_cons_of_mem _ hx))
    simp only [cntA, List.length_cons]; omega
theorem cntA_zero {c : UInt8} : ∀ {hs : List (List UInt8)}, cntA c hs = 0 ↔ ∀ h ∈ hs, h.count c = 0
  | [] => by simp [cntA]
  | h :: t => by
    have ih := cntA_zero (c := c) (hs := t)
    simp only [cntA, List.mem_cons, forall_eq_or_imp, ← ih]
    omega
/-! The room for a block. -/
/-- The first free slot of a head. -/
def freeH (h : List UInt8) : Option Nat := h.findIdx? (· == 0)
/-- The slot for the next block, containers from k on: not in but; fr, if none is begun. -/
def roomAt (but : Int) : Nat → List (List UInt8) → Option Nat → Option Nat
  | _, [], fr => fr
  | k, h :: t, fr =>
    match freeH h with
    | none => roomAt but (k + 1) t fr
    | some i => if (k : Int) = but then roomAt but (k + 1) t fr else if h ≠ z4 then some (k * 4 + i) else roomAt but (k + 1) t (fr.or (some (k * 4 + i)))
theorem freeH_some {h : List UInt8} {i : Nat} (e : freeH h = some i) : h[i]? = some 0 := by
  unfold freeH at e
  rw [List.findIdx?_eq_some_iff_getElem] at e
  obtain ⟨hi, h0, _⟩ := e
  rw [List.getElem?_eq_getElem hi]
  simpa using h0
theorem freeH_none {h : List UInt8} : freeH h = none ↔ h.count 0 = 0 := by
  unfold freeH
  rw [List.findIdx?_eq_none_iff, List.count_eq_zero]
  constructor
  · intro H hm; have := H 0 hm; simp at this
  · intro H x hx
    simp only [beq_eq_false_iff_ne, ne_eq]
    intro e; subst e; exact H hx
/-- The state of a slot. -/
def stS (hs : List (List UInt8)) (s : Nat) : UInt8 := (hs.getD (s / 4) []).getD (s % 4) 0
structure RoomOk (but : Int) (k0 : Nat) (hs : List (List UInt8)) (s : Nat) : Prop where
  lo : k0 ≤ s / 4
  hi : s / 4 < k0 + hs.length
  not : ((s / 4 : Nat) : Int) ≠ but
  free : (hs.getD (s / 4 - k0) [])[s % 4]? = some 0
theorem RoomOk.cons {but : Int} {k : Nat} {h : List UInt8} {t : List (List UInt8)} {s : Nat} (r : RoomOk but (k + 1) t s) : RoomOk but k (h :: t) s := by
  have := r.lo
  refine ⟨by have := r.lo; omega, by have := r.hi; simp only [List.length_cons]; omega, r.not, ?_⟩
  have e : s / 4 - k = (s / 4 - (k + 1)) + 1 := by omega
  rw [e, List.getD_cons_succ]
  exact r.free
theorem roomAt_some {but : Int} : ∀ {hs : List (List UInt8)} {k s : Nat} {fr : Option Nat}, (∀ h ∈ hs, h.length = 4) → roomAt but k hs fr = some s → fr = some s ∨ RoomOk but k hs s
  | [], _, _, _, _, e => .inl e
  | h :: t, k, s, fr, H, e => by
    have Ht := fun x hx => H x (List.mem_cons_of_mem _ hx)
    have hl := H h (List.mem_cons_self ..)
    have here : ∀ i, freeH h = some i → ¬ (k : Int) = but → RoomOk but k (h :: t) (k * 4 + i) := by
      intro i hi hb
      have h0 := freeH_some hi
      have hi4 : i < 4 := by rw [← hl]; exact (List.getElem?_eq_some_iff.1 h0).1
      have d : (k * 4 + i) / 4 = k := by omega
      have m : (k * 4 + i) % 4 = i := by omega
      refine ⟨by omega, by simp only [List.length_cons]; omega, by rw [d]; exact hb, ?_⟩
      rw [d, m, Nat.sub_self]; exact h0
    unfold roomAt at e
    split at e
    · exact (roomAt_some Ht e).imp id RoomOk.cons
    · rename_i i hi
      split at e
      · exact (roomAt_some Ht e).imp id RoomOk.cons
      · rename_i hb
        split at e
        · obtain rfl : k * 4 + i = s := by simpa using e
          exact .inr (here i hi hb)
        · rcases roomAt_some Ht e with h1 | h1
          · cases fr with
            | some x => exact .inl (by simpa using h1)
            | none =>
              obtain rfl : k * 4 + i = s := by simpa using h1
              exact .inr (here i hi hb)
          · exact .inr h1.cons
theorem roomAt_none {but : Int} : ∀ {hs : List (List UInt8)} {k : Nat} {fr : Option Nat}, roomAt but k hs fr = none ↔ fr = none ∧ ∀ j h, hs[j]? = some h → ((k + j : Nat) : Int) ≠ but → h.count 0 = 0
  | [], _, fr => by simp [roomAt]
  | h :: t, k, fr => by
    have step : ∀ {P : Prop}, (P ↔ (∀ j x, (h :: t)[j]? = some x → ((k + j : Nat) : Int) ≠ but → x.count 0 = 0)) → True := fun _ => trivial
    have split_ : (∀ j x, (h :: t)[j]? = some x → ((k + j : Nat) : Int) ≠ but → x.count 0 = 0) ↔ ((k : Int) ≠ but → h.count 0 = 0) ∧ ∀ j x, t[j]? = some x → ((k + 1 + j : Nat) : Int) ≠ but → x.count 0 = 0 := by
      constructor
      · intro H
        refine ⟨fun hb => H 0 h rfl (by simpa using hb), fun j x hj hb => H (j + 1) x hj (by rw [show k + (j + 1) = k + 1 + j by omega]; exact hb)⟩
      · rintro ⟨H0, H1⟩ j x hj hb
        cases j with
        | zero =>
          simp only [List.getElem?_cons_zero, Option.some.injEq] at hj
          subst hj
          exact H0 (by simpa using hb)
        | succ j => exact H1 j x hj (by rw [show k + 1 + j = k + (j + 1) by omega]; exact hb)
    rw [split_]
    unfold roomAt
    split
    · rename_i hn
      have hn0 := freeH_none.1 hn
      rw [roomAt_none]
      exact ⟨fun ⟨a, b⟩ => ⟨a, fun _ => hn0, b⟩, fun ⟨a, _, b⟩ => ⟨a, b⟩⟩
    · rename_i i hi
      have hn0 : ¬ h.count 0 = 0 := fun e => by rw [freeH_none.2 e] at hi; cases hi
      split
      · rename_i hb
        rw [roomAt_none]
        exact ⟨fun ⟨a, b⟩ => ⟨a, fun hb' => absurd hb hb', b⟩, fun ⟨a, _, b⟩ => ⟨a, b⟩⟩
      · rename_i hb
        split
        · exact ⟨fun e => by simp at e, fun ⟨_, b, _⟩ => absurd (b hb) hn0⟩
        · rw [roomAt_none]
          refine ⟨fun ⟨a, _⟩ => ?_, fun ⟨_, b, _⟩ => absurd (b hb) hn0⟩
          cases fr <;> simp at a
/-- The slot for the next block: not in container but. -/
def roomL (but : Int) (hs : List (List UInt8)) : Option Nat := roomAt but 0 hs none
theorem room_some {but : Int} {hs : List (List UInt8)} (H : ∀ h ∈ hs, Hd h) {s : Nat} (e : roomL but hs = some s) : s / 4 < hs.length ∧ ((s / 4 : Nat) : Int) ≠ but ∧ (hs.getD (s / 4) [])[s % 4]? = some 0 := by
  rcases roomAt_some (fun h hh => (H h hh).len) e with h | h
  · cases h
  · exact ⟨by have := h.hi; omega, h.not, h.free⟩
theorem room_none {hs : List (List UInt8)} : roomL (-1) hs = none ↔ cntA 0 hs = 0 := by
  unfold roomL
  rw [roomAt_none, cntA_zero]
  constructor
  · rintro ⟨_, h⟩ x hx
    obtain ⟨j, hj⟩ := List.mem_iff_getElem?.1 hx
    exact h j x hj (by omega)
  · intro h
    exact ⟨rfl, fun j x hj _ => h x (List.mem_iff_getElem?.2 ⟨j, hj⟩)⟩
/-! A slot is marked. -/
def markL (hs : List (List UInt8)) (s : Nat) (st : UInt8) : List (List UInt8) := hs.set (s / 4) (normH ((hs.getD (s / 4) []).set (s % 4) st))
theorem getD_mem {hs : List (List UInt8)} {k : Nat} (hk : k < hs.length) : hs.getD k [] ∈ hs ∧ hs[k]? = some (hs.getD k []) := by
  rw [List.getD_eq_getElem?_getD, List.getElem?_eq_getElem hk]
  exact ⟨List.getElem_mem _, rfl⟩
theorem markL_len (hs : List (List UInt8)) (s : Nat) (st : UInt8) : (markL hs s st).length = hs.length := List.length_set ..
theorem markL_hd {hs : List (List UInt8)} (H : ∀ h ∈ hs, Hd h) {s : Nat} (hs4 : s / 4 < hs.length) {st : UInt8} (hst : st = 0 ∨ st = 1 ∨ st = 2) : ∀ h ∈ markL hs s st, Hd h := fun h hh => by
  rcases List.mem_or_eq_of_mem_set hh with h1 | rfl
  · exact H h h1
  · have := H _ (getD_mem hs4).1
    exact norm_hd (by rw [List.length_set]; exact this.len) (set_low this.low hst _)
theorem markL_at {hs : List (List UInt8)} {s : Nat} (hs4 : s / 4 < hs.length) (st : UInt8) : (markL hs s st).getD (s / 4) [] = normH ((hs.getD (s / 4) []).set (s % 4) st) := by
  unfold markL
  rw [List.getD_eq_getElem?_getD, List.getElem?_set_self hs4]; rfl
theorem markL_other {hs : List (List UInt8)} {s k : Nat} (hk : k ≠ s / 4) (st : UInt8) : (markL hs s st).getD k [] = hs.getD k [] := by
  unfold markL
  rw [List.getD_eq_getElem?_getD, List.getElem?_set_ne (Ne.symm hk), List.getD_eq_getElem?_getD]
/-- A slot becomes live. -/
theorem mark_live {hs : List (List UInt8)} (H : ∀ h ∈ hs, Hd h) {s : Nat} (hs4 : s / 4 < hs.length) : normH ((hs.getD (s / 4) []).set (s % 4) 1) = (hs.getD (s / 4) []).set (s % 4) 1 := by
  have hd := H _ (getD_mem hs4).1
  unfold normH
  rw [if_neg]
  intro e
  rw [List.count_eq_zero] at e
  exact e (List.mem_set (by rw [hd.len]; omega) 1)
theorem stS_get {hs : List (List UInt8)} (H : ∀ h ∈ hs, Hd h) {s : Nat} (hs4 : s / 4 < hs.length) : (hs.getD (s / 4) [])[s % 4]? = some (stS hs s) := by
  have hd := H _ (getD_mem hs4).1
  unfold stS
  rw [List.getD_eq_getElem?_getD (l := hs.getD (s / 4) []), List.getElem?_eq_getElem (by rw [hd.len]; omega)]
  rfl
theorem st_live_self {hs : List (List UInt8)} (H : ∀ h ∈ hs, Hd h) {s : Nat} (hs4 : s / 4 < hs.length) : stS (markL hs s 1) s = 1 := by
  have hd := H _ (getD_mem hs4).1
  unfold stS
  rw [markL_at hs4, mark_live H hs4, List.getD_eq_getElem?_getD, List.getElem?_set_self (by rw [hd.len]; omega)]; rfl
theorem st_live_other {hs : List (List UInt8)} (H : ∀ h ∈ hs, Hd h) {s r : Nat} (hs4 : s / 4 < hs.length) (hr : r ≠ s) : stS (markL hs s 1) r = stS hs r := by
  unfold stS
  by_cases e : r / 4 = s / 4
  · rw [e, markL_at hs4, mark_live H hs4, List.getD_eq_getElem?_getD, List.getElem?_set_ne (by omega), List.getD_eq_getElem?_getD (l := hs.getD (s / 4) [])]
  · rw [markL_other e]
/-- A slot becomes dead. -/
theorem getD_z4 (i : Nat) : z4.getD i 0 = 0 := by
  rw [List.getD_eq_getElem?_getD]
  unfold z4
  rw [List.getElem?_replicate]
  split <;> rfl
theorem st_dead {hs : List (List UInt8)} (H : ∀ h ∈ hs, Hd h) {s : Nat} (hs4 : s / 4 < hs.length) (r : Nat) : stS (markL hs s 2) r = 1 ↔ stS hs r = 1 ∧ r ≠ s := by
  have hd := H _ (getD_mem hs4).1
  unfold stS
  by_cases e : r / 4 = s / 4
  · rw [e, markL_at hs4]
    by_cases hc : ((hs.getD (s / 4) []).set (s % 4) 2).count 1 = 0
    · have hz : normH ((hs.getD (s / 4) []).set (s % 4) 2) = z4 := if_pos hc
      rw [hz, getD_z4]
      refine ⟨fun h => absurd h (by decide), fun ⟨h1, h2⟩ => ?_⟩
      rw [List.count_eq_zero] at hc
      refine absurd ?_ hc
      have hm : r % 4 ≠ s % 4 := by omega
      have hlt : r % 4 < (hs.getD (s / 4) []).length := by rw [hd.len]; omega
      refine List.mem_iff_getElem?.2 ⟨r % 4, ?_⟩
      rw [List.getElem?_set_ne (Ne.symm hm), List.getElem?_eq_getElem hlt]
      rw [List.getD_eq_getElem?_getD (l := hs.getD (s / 4) []), List.getElem?_eq_getElem hlt] at h1
      exact congrArg some h1
    · have hz : normH ((hs.getD (s / 4) []).set (s % 4) 2) = (hs.getD (s / 4) []).set (s % 4) 2 := if_neg hc
      rw [hz]
      by_cases hm : r % 4 = s % 4
      · have : r = s := by omega
        subst this
        rw [List.getD_eq_getElem?_getD, List.getElem?_set_self (by rw [hd.len]; omega)]
        exact ⟨fun h => absurd h (by decide), fun h => absurd rfl h.2⟩
      · rw [List.getD_eq_getElem?_getD, List.getElem?_set_ne (Ne.symm hm), ← List.getD_eq_getElem?_getD]
        exact ⟨fun h => ⟨h, fun e => hm (by rw [e])⟩, fun h => h.1⟩
  · rw [markL_other e]
    exact ⟨fun h => ⟨h, fun e2 => e (by rw [e2])⟩, fun h => h.1⟩
/-! The worst container. -/
def worstAt : Nat → List (List UInt8) → Nat × Nat → Nat × Nat
  | _, [], r => r
  | k, h :: t, r => worstAt (k + 1) t (if r.2 < h.count 2 then (k, h.count 2) else r)
def worstL (hs : List (List UInt8)) : Nat × Nat := worstAt 0 hs (0, 0)
theorem worstAt_ge : ∀ {hs : List (List UInt8)} {k : Nat} {r : Nat × Nat}, r.2 ≤ (worstAt k hs r).2 ∧ ∀ h ∈ hs, h.count 2 ≤ (worstAt k hs r).2
  | [], _, _ => ⟨Nat.le_refl _, fun _ h => by simp at h⟩
  | h :: t, k, r => by
    obtain ⟨h1, h2⟩ := worstAt_ge (hs := t) (k := k + 1) (r := if r.2 < h.count 2 then (k, h.count 2) else r)
    have : r.2 ≤ (if r.2 < h.count 2 then (k, h.count 2) else r).2 ∧ h.count 2 ≤ (if r.2 < h.count 2 then (k, h.count 2) else r).2 := by split <;> simp <;> omega
    refine ⟨Nat.le_trans this.1 h1, fun x hx => ?_⟩
    rcases List.mem_cons.1 hx with rfl | hx
    · exact Nat.le_trans this.2 h1
    · exact h2 x hx
theorem worstAt_is : ∀ {hs : List (List UInt8)} {k : Nat} {r : Nat × Nat}, worstAt k hs r = r ∨ ∃ j h, hs[j]? = some h ∧ worstAt k hs r = (k + j, h.count 2) ∧ 0 < h.count 2
  | [], _, _ => .inl rfl
  | h :: t, k, r => by
    unfold worstAt
    rcases worstAt_is (hs := t) (k := k + 1) (r := if r.2 < h.count 2 then (k, h.count 2) else r) with e | ⟨j, x, hj, e, hp⟩
    · rw [e]
      split
      · rename_i hlt; exact .inr ⟨0, h, rfl, rfl, by omega⟩
      · exact .inl rfl
    · exact .inr ⟨j + 1, x, hj, by rw [e, show k + 1 + j = k + (j + 1) by omega], hp⟩
theorem worst_box {hs : List (List UInt8)} (h1 : 1 ≤ hs.length) : (worstL hs).1 < hs.length ∧ (worstL hs).2 = (if (worstL hs).2 = 0 then 0 else (hs.getD (worstL hs).1 []).count 2) := by
  unfold worstL
  rcases worstAt_is (hs := hs) (k := 0) (r := (0, 0)) with e | ⟨j, x, hj, e, hp⟩
  · rw [e]; exact ⟨h1, rfl⟩
  · rw [e]
    simp only [Nat.zero_add]
    have hlt := (List.getElem?_eq_some_iff.1 hj).1
    refine ⟨hlt, ?_⟩
    rw [if_neg (by omega), List.getD_eq_getElem?_getD, hj]; rfl
theorem worst_zero {hs : List (List UInt8)} : (worstL hs).2 = 0 ↔ cntA 2 hs = 0 := by
  rw [cntA_zero]
  constructor
  · intro e h hh
    have := (worstAt_ge (hs := hs) (k := 0) (r := (0, 0))).2 h hh
    unfold worstL at e
    omega
  · intro H
    unfold worstL
    rcases worstAt_is (hs := hs) (k := 0) (r := (0, 0)) with e | ⟨j, x, hj, e, hp⟩
    · rw [e]
    · have := H x (List.mem_iff_getElem?.2 ⟨j, hj⟩); omega
/-- The live slots of a head. -/
def slotsH (base : Nat) (h : List UInt8) (k : Nat) : List Nat := (List.range k).filterMap (fun i => if h[i]? = some 1 then some (base + i) else none)
theorem slotsH_step {base : Nat} {h : List UInt8} {k : Nat} {c : UInt8} (hk : h[k]? = some c) : slotsH base h (k + 1) = slotsH base h k ++ if c = 1 then [base + k] else [] := by
  unfold slotsH
  rw [List.range_succ, List.filterMap_append]
  congr 1
  by_cases e : c = 1
  · subst e; simp [hk]
  · simp [hk, e]
theorem slotsH_len {base : Nat} {h : List UInt8} (hl : h.length = 4) : ∀ k, k ≤ 4 → (slotsH base h k).length = (h.take k).count 1
  | 0, _ => by simp [slotsH]
  | k + 1, hk => by
    obtain ⟨c, hc⟩ : ∃ c, h[k]? = some c := ⟨_, List.getElem?_eq_getElem (by omega)⟩
    rw [slotsH_step hc, List.length_append, slotsH_len hl k (by omega), count_take hc]
    by_cases e : c = 1
    · rw [if_pos e, if_pos e]; rfl
    · rw [if_neg e, if_neg e]; rfl
end Go.Proofs.YtjkkbceddbkejaaGreatDoor

/-
  A depot on a book.
-/
namespace Go.Proofs.YtjkkbceddbkejaaGreatDoor
open Go.RowKit Sh

/-- A transaction that went on: at most k pages more, all of them from lo to hi. -/
structure Tx (b : Bk) (t : List Chg) (lo hi k : Nat) : Prop where
  len : t.length ≤ b.txn.length + k
  keys : ∀ c ∈ t, c ∈ b.txn ∨ (lo ≤ c.at_ ∧ c.at_ < hi)
  out : ∀ j, j < b.pages → (j < lo ∨ hi ≤ j) → contB { b with txn := t } j = contB b j
section
variable {b : Bk} {t t' : List Chg} {lo hi k k' : Nat}
theorem Tx.refl (b : Bk) (lo hi : Nat) : Tx b b.txn lo hi 0 := ⟨Nat.le_refl _, fun _ h => .inl h, fun _ _ _ => rfl⟩
theorem Tx.trans (h : Tx b t lo hi k) (h' : Tx { b with txn := t } t' lo hi k') : Tx b t' lo hi (k + k') :=
  ⟨by have h1 := h.len; have h2 : t'.length ≤ t.length + k' := h'.len; omega,
   fun c hc => (h'.keys c hc).elim (fun hm => h.keys c hm) .inr,
   fun j hj ho => (h'.out j hj ho).trans (h.out j hj ho)⟩
theorem Tx.mono (h : Tx b t lo hi k) (hk : k ≤ k') : Tx b t lo hi k' := ⟨by have := h.len; omega, h.keys, h.out⟩
theorem putM_keys {i : Nat} {p : List UInt8} {l : List Chg} (hr : lo ≤ i ∧ i < hi) : ∀ c ∈ putM l i p, c ∈ l ∨ (lo ≤ c.at_ ∧ c.at_ < hi) := fun c hc => by
  rcases mem_putM hc with rfl | h
  · exact .inr hr
  · exact .inl h
/-- A write, where there is room in the transaction. -/
theorem Dur.putx {m0 : Mk} {rs : List (List Chg)} (h : Dur b m0 rs) {i lo' hi' : Nat} (hi : i < b.pages) (hr : lo' ≤ i ∧ i < hi') {p : List UInt8} (hp : p.length = 64) (ht : b.txn.length < 60) :
    ∃ t, bwriteOf b (i : Int) p = ({ b with txn := t }, 0) ∧ Dur { b with txn := t } m0 rs ∧ Tx b t lo' hi' 1 ∧ ∀ j, j < b.pages → contB { b with txn := t } j = upd (contB b) i p j := by
  obtain ⟨t, e, hd, hl, hc⟩ := h.puts hi hp ht
  refine ⟨t, e, hd, ⟨hl, ?_, fun j hj ho => ?_⟩, hc⟩
  · have hk := putM_keys (lo := lo') (hi := hi') (i := i) (p := p) (l := b.txn) hr
    unfold bwriteOf at e
    rw [h.reads hi] at e
    simp only [Int.toNat_natCast, ne_eq, not_true_eq_false, if_false] at e
    have key : t = putM b.txn i p ∨ t = b.txn := by
      split at e
      · exact .inl (congrArg (fun r => r.1.txn) e).symm
      · split at e
        · exact .inr (congrArg (fun r => r.1.txn) e).symm
        · split at e
          · exact absurd (congrArg (fun r => r.2) e) (fun h => by have h2 : (11 : Int) = 0 := h; omega)
          · exact .inl (congrArg (fun r => r.1.txn) e).symm
    rcases key with rfl | rfl
    · exact hk
    · exact fun c hc => .inl hc
  · rw [hc j hj]
    unfold upd
    rw [if_neg (by omega)]
end
/-- A depot on a book: heads, and what lies in the slots. -/
structure De (b : Bk) (first n : Nat) (hs : List (List UInt8)) (bl : Nat → List UInt8) : Prop where
  ex : ∃ m0 rs, Dur b m0 rs
  len : hs.length = n
  head : ∀ k, k < n → toldH (contB b (first + k * 5)) = hs.getD k []
  blk : ∀ s, s < 4 * n → contB b (first + s / 4 * 5 + 1 + s % 4) = bl s
  room : first + 5 * n ≤ b.pages
section
variable {b : Bk} {first n : Nat} {hs : List (List UInt8)} {bl : Nat → List UInt8}
theorem De.ok (h : De b first n hs bl) : b.Ok := by obtain ⟨_, _, hd⟩ := h.ex; exact hd.ok
theorem De.reads (h : De b first n hs bl) {i : Nat} (hi : i < 5 * n) : pageOf b ((first + i : Nat) : Int) = (contB b (first + i), 0) ∧ (contB b (first + i)).length = 64 := by
  obtain ⟨_, _, hd⟩ := h.ex
  have := h.room
  exact ⟨hd.reads (by omega), hd.cont_len (by omega)⟩
theorem De.hd (h : De b first n hs bl) : ∀ x ∈ hs, Hd x := fun x hx => by
  obtain ⟨k, hk⟩ := List.mem_iff_getElem?.1 hx
  have hlt := (List.getElem?_eq_some_iff.1 hk).1
  have hl := h.len
  have := h.head k (by omega)
  rw [List.getD_eq_getElem?_getD, hk] at this
  rw [show x = toldH (contB b (first + k * 5)) from this.symm]
  exact told_hd (h.reads (by omega)).2
theorem De.txn60 (h : De b first n hs bl) : b.txn.length ≤ 60 := h.ok.txn60
/-- The pages that a depot's transaction has. -/
def InR (b : Bk) (lo hi : Nat) : Prop := ∀ c ∈ b.txn, lo ≤ c.at_ ∧ c.at_ < hi
theorem rising_span {lo hi : Nat} {l : List Chg} (hr : Rising l) (h : ∀ c ∈ l, lo ≤ c.at_ ∧ c.at_ < hi) : l.length ≤ hi - lo := by
  have hr' : Rising (l.map fun c => (⟨c.at_ - lo, c.what⟩ : Chg)) := by
    unfold Rising at *
    rw [List.pairwise_map]
    exact hr.imp_of_mem (fun ha hb hab => by have := h _ ha; have := h _ hb; show _ - lo < _ - lo; omega)
  have := rising_len (D := hi - lo) hr' (fun c hc => by
    obtain ⟨d, hd, rfl⟩ := List.mem_map.1 hc
    have := h d hd
    show d.at_ - lo < hi - lo; omega)
  rwa [List.length_map] at this
theorem InR.tx {t : List Chg} {lo hi k : Nat} (h : InR b lo hi) (x : Tx b t lo hi k) : InR { b with txn := t } lo hi := fun c hc => (x.keys c hc).elim (h c) id
theorem De.span (h : De b first n hs bl) (hi : InR b first (first + 5 * n)) : b.txn.length ≤ 5 * n := by
  have := rising_span h.ok.txnR hi; omega
/-- Slot s gets state st. -/
theorem De.mark (h : De b first n hs bl) {s : Nat} (hs4 : s < 4 * n) {st : UInt8} (hst : st = 0 ∨ st = 1 ∨ st = 2) (ht : b.txn.length < 60) :
    ∃ t, bwriteOf b ((first + s / 4 * 5 : Nat) : Int) (pageH ((hs.getD (s / 4) []).set (s % 4) st)) = ({ b with txn := t }, 0) ∧ De { b with txn := t } first n (markL hs s st) bl ∧ Tx b t first (first + 5 * n) 1 := by
  obtain ⟨m0, rs, hd⟩ := h.ex
  have hr := h.room
  have hl := h.len
  have hk : s / 4 < n := by omega
  have H := h.hd
  have hh := H _ (getD_mem (hs := hs) (k := s / 4) (by omega)).1
  have hlen : ((hs.getD (s / 4) []).set (s % 4) st).length = 4 := by rw [List.length_set]; exact hh.len
  obtain ⟨t, e, hd', tx, hc⟩ := hd.putx (i := first + s / 4 * 5) (lo' := first) (hi' := first + 5 * n) (by omega) (by omega) (pageH_len hlen) ht
  refine ⟨t, e, ⟨⟨m0, rs, hd'⟩, by rw [markL_len]; exact hl, fun k hk' => ?_, fun r hr4 => ?_, hr⟩, tx⟩
  · rw [hc _ (by omega)]
    unfold upd
    by_cases e2 : k = s / 4
    · subst e2
      rw [if_pos rfl, told_page hlen (set_low hh.low hst _), markL_at (by omega)]
    · rw [if_neg (by omega), h.head k hk', markL_other e2]
  · rw [hc _ (by omega)]
    unfold upd
    rw [if_neg (by omega)]
    exact h.blk r hr4
def updP (bl : Nat → List UInt8) (s : Nat) (p : List UInt8) : Nat → List UInt8 := fun r => if r = s then p else bl r
/-- A block is written. -/
theorem De.put (h : De b first n hs bl) {s : Nat} (hs4 : s < 4 * n) {p : List UInt8} (hp : p.length = 64) (ht : b.txn.length < 60) :
    ∃ t, bwriteOf b ((first + s / 4 * 5 + 1 + s % 4 : Nat) : Int) p = ({ b with txn := t }, 0) ∧ De { b with txn := t } first n hs (updP bl s p) ∧ Tx b t first (first + 5 * n) 1 := by
  obtain ⟨m0, rs, hd⟩ := h.ex
  have hr := h.room
  obtain ⟨t, e, hd', tx, hc⟩ := hd.putx (i := first + s / 4 * 5 + 1 + s % 4) (lo' := first) (hi' := first + 5 * n) (by omega) (by omega) hp ht
  refine ⟨t, e, ⟨⟨m0, rs, hd'⟩, h.len, fun k hk' => ?_, fun r hr4 => ?_, hr⟩, tx⟩
  · rw [hc _ (by omega)]
    unfold upd
    rw [if_neg (by omega)]
    exact h.head k hk'
  · rw [hc _ (by omega)]
    unfold upd updP
    by_cases e2 : r = s
    · subst e2; rw [if_pos rfl, if_pos rfl]
    · rw [if_neg (by omega), if_neg e2]
      exact h.blk r hr4
theorem De.undo (h : De b first n hs bl) {b0 : Bk} (h0 : De b0 first n hs bl) : True := trivial
/-- A commit of a depot's book. -/
theorem De.comm {D c : Nat} (h : De b first n hs bl) (hc : Co b D c) (h9 : c ≤ 1400) (ht : b.txn.length ≤ 4) : ∃ b', Comm b b' ∧ De b' first n hs bl ∧ Co b' D (c + 1) ∧ b'.txn = [] := by
  obtain ⟨m0, rs, hd⟩ := h.ex
  have h1 := hc.gen; have h2 := hc.ats; have h3 := h.room
  obtain ⟨b', k⟩ := hd.comm (by omega) (by omega)
  have tk : takes b.txn.length ≤ 6 := by unfold takes; omega
  have k1 := k.gen; have k2 := k.ats
  exact ⟨b', k, ⟨k.ex, h.len, fun j hj => by rw [k.cont _ (by omega)]; exact h.head j hj, fun s hs => by rw [k.cont _ (by omega)]; exact h.blk s hs, by rw [k.pages]; exact h.room⟩, ⟨by omega, by omega, k.n.trans hc.n, k.firm.trans hc.firm⟩, k.txn⟩
end
theorem told_zero64 : toldH (List.replicate 64 0) = z4 := by decide
/-- A depot on a new book. -/
theorem de_new {D first n : Nat} (h1 : 103 ≤ D) (h2 : D ≤ 4096) (h3 : first + 5 * n ≤ min (D - 2 - 100) 2048) : De (bk1 D 100) first n (List.replicate n z4) (fun _ => List.replicate 64 0) ∧ Co (bk1 D 100) D 0 ∧ (bk1 D 100).txn = [] := by
  have f := fr (D := D) (n := 100) (by omega) (by omega) (by omega) h2
  have hp := f.pages
  have hz : ∀ j, j < first + 5 * n → contB (bk1 D 100) j = List.replicate 64 0 := fun j hj => by
    rw [f.dur.cont (by rw [hp]; omega), f.txn]
    exact f.zero _ (by rw [hp]; omega)
  refine ⟨⟨⟨_, _, f.dur⟩, List.length_replicate, fun k hk => ?_, fun s hs => hz _ (by omega), by rw [hp]; exact h3⟩, ⟨by rw [f.gen]; omega, by rw [f.ats]; simp, f.len, f.firm⟩, f.txn⟩
  rw [hz _ (by omega), told_zero64, List.getD_eq_getElem?_getD, List.getElem?_replicate, if_pos hk]; rfl
end Go.Proofs.YtjkkbceddbkejaaGreatDoor

/-
  A depot on a book of the call's own: heads and blocks read and written.
-/
namespace Go.Proofs.YtjkkbceddbkejaaGreatDoor
open Go.RowKit Sh Go.Maps Go.Extern.Stop Go.Stop Go.Extern

def depO (g first boxes : Nat) : Obj := .cells #[.pointer (some ⟨g, 0, none⟩), .int .i64 first, .int .i64 boxes] 121 (0, 0)
section
variable {b : Bk} {gd g first n x k : Nat} {o : Obj} {T : List (Nat × Obj)} {w0 w w' : World} {hs : List (List UInt8)} {bl : Nat → List UInt8}
/-- A block that was made, and stands. -/
theorem OwnX.holds (h : OwnX b gd g T w0 w) (hb : Below w.heap.size w w') (hk : w.heap.size ≤ k) (ho : w'.heap[k]? = some o) : OwnX b gd g ((k, o) :: T) w0 w' := by
  obtain ⟨Fd, gr, bn, bt, hi, hF⟩ := h.ex
  have hx := h.below hb
  refine ⟨⟨Fd, gr, bn, bt, hi.below hb, fun j hj => ⟨(hF j hj).1, fun y hy => ?_⟩⟩, hx.bel, fun y hy => ?_⟩
  · rcases List.mem_cons.1 hy with rfl | hy
    · have := hi.foot_lt hj
      show j ≠ k
      omega
    · exact (hF j hj).2 y hy
  · rcases List.mem_cons.1 hy with rfl | hy
    · exact ⟨ho, by have := h.bel.size; omega⟩
    · exact hx.arr y hy
theorem OwnX.dep (h : OwnX b gd g T w0 w) (hT : (x, depO g first n) ∈ T) : DepAt x g first n w := h.at_ hT
def ReadsD (w : World) (g first n : Nat) (pg : Nat → List UInt8) : Prop := ∀ i, i < 5 * n → ∀ W, Below w.heap.size w W → Calls Tryz.prog 78 #[.pointer (some ⟨g, 0, none⟩), .int .i64 (first + i : Nat)] W (PageP (pg (first + i)) 0 W)
theorem OwnX.readsD (h : OwnX b gd g T w0 w) (hD : De b first n hs bl) : ReadsD w g first n (contB b) := fun i hi W hW => by
  refine ((h.below hW).read hD.ok ((first + i : Nat) : Int)).mono ?_
  rintro e w' ⟨u, rfl, hE, _, hb⟩
  rw [(hD.reads hi).1] at hE ⊢
  exact ⟨u, rfl, hE, hb⟩
/-- A container's head. -/
theorem OwnX.dhead (h : OwnX b gd g T w0 w) (hT : (x, depO g first n) ∈ T) (hD : De b first n hs bl) (hf : first ≤ 2000) (hn : n ≤ 64) (hk : k < n) :
    Calls Tryz.prog 77 #[.pointer (some ⟨x, 0, none⟩), .int .i64 k] w (RetP (.tuple #[headV (hs.getD k []), .nilIface]) w) := by
  have hr := hD.reads (i := k * 5) (by omega)
  refine (dhead_any (h.dep hT) (by omega) k (by omega) hr.2 (n := 0) (fun W hW => h.readsD hD (k * 5) (by omega) W hW)).mono ?_
  rintro e w' ⟨v, rfl, hE, hb⟩
  obtain rfl := ErrV.zero hE
  refine ⟨?_, hb⟩
  unfold headOf
  rw [if_pos rfl, hD.head k hk]
/-- A slot is marked. -/
theorem OwnX.dmark (h : OwnX b gd g T w0 w) (hT : (x, depO g first n) ∈ T) (hD : De b first n hs bl) (hf : first ≤ 2000) (hn : n ≤ 64) {s : Nat} (hs4 : s < 4 * n) {st : UInt8} {t : List Chg}
    (e : bwriteOf b ((first + s / 4 * 5 : Nat) : Int) (pageH ((hs.getD (s / 4) []).set (s % 4) st)) = ({ b with txn := t }, 0)) :
      Calls Tryz.prog 72 #[.pointer (some ⟨x, 0, none⟩), .int .i64 s, cu8 st] w (TQ 0 (fun w' => OwnX { b with txn := t } gd g T w0 w')) := by
  have hr := hD.reads (i := s / 4 * 5) (by omega)
  have hH := hD.head (s / 4) (by omega)
  have hh := hD.hd _ (getD_mem (hs := hs) (k := s / 4) (by have := hD.len; omega)).1
  refine dmark_ok (h.dep hT) (by omega) s (by omega) st hr.2 (fun W hW => h.readsD hD (s / 4 * 5) (by omega) W hW) (fun W hW => ?_)
  rw [hH]
  refine ((h.below hW).write hD.ok ((first + s / 4 * 5 : Nat) : Int) _ (pageH_len (by rw [List.length_set]; exact hh.len))).mono ?_
  rw [e]
  exact fun _ _ h => h
/-- A block is written. -/
theorem OwnX.dblock (h : OwnX b gd g T w0 w) (hD : De b first n hs bl) {s : Nat} {p : List UInt8} (hp : p.length = 64) {t : List Chg}
    (e : bwriteOf b ((first + s / 4 * 5 + 1 + s % 4 : Nat) : Int) p = ({ b with txn := t }, 0)) (W : World) (hW : Below w.heap.size w W) :
      Calls Tryz.prog 70 #[.pointer (some ⟨g, 0, none⟩), .int .i64 (first + s / 4 * 5 + 1 + s % 4 : Nat), pageV p] W (OwnXP { b with txn := t } 0 gd g T w0) := by
  refine ((h.below hW).write hD.ok ((first + s / 4 * 5 + 1 + s % 4 : Nat) : Int) p hp).mono ?_
  rw [e]
  exact fun _ _ h => h
/-- A block is read. -/
theorem OwnX.dread (h : OwnX b gd g T w0 w) (hD : De b first n hs bl) {s : Nat} (hs4 : s < 4 * n) (W : World) (hW : Below w.heap.size w W) :
    Calls Tryz.prog 78 #[.pointer (some ⟨g, 0, none⟩), .int .i64 (first + s / 4 * 5 + 1 + s % 4 : Nat)] W (PageP (bl s) 0 W) := by
  have := h.readsD hD (s / 4 * 5 + 1 + s % 4) (by omega) W hW
  rw [show first + (s / 4 * 5 + 1 + s % 4) = first + s / 4 * 5 + 1 + s % 4 by omega, hD.blk s hs4] at this
  exact this
theorem De.bl_len (hD : De b first n hs bl) {s : Nat} (hs4 : s < 4 * n) : (bl s).length = 64 := by
  have := (hD.reads (i := s / 4 * 5 + 1 + s % 4) (by omega)).2
  rwa [show first + (s / 4 * 5 + 1 + s % 4) = first + s / 4 * 5 + 1 + s % 4 by omega, hD.blk s hs4] at this
end
end Go.Proofs.YtjkkbceddbkejaaGreatDoor

/-
  Package depot: heads.
-/
namespace Go.Proofs.YtjkkbceddbkejaaGreatDoor
open Go.RowKit Sh Go.Maps Go.Extern.Stop Go.Stop Go.Extern

/-- Heads in a row. -/
def cellsH (hs : List (List UInt8)) : List (List Value) := hs.map fun h => h.map cu8
def rowH (hs : List (List UInt8)) : Array Value := (cellsH hs).flatten.toArray
def HeadsP (hs : List (List UInt8)) (n : Nat) (w : World) (e : Ending) (w' : World) : Prop := ∃ y, e = .returned (.tuple #[.slice (some ⟨y, 0, none⟩) n n, .nilIface]) ∧ w'.heap[y]? = some (.cells (rowH hs) 91 (0, 0)) ∧ Below w.heap.size w w' ∧ w.heap.size ≤ y
theorem infoHeads : (Tryz.prog.info? 91).map (fun i => (i.zero, i.size, i.bytes)) = some (some (.agg zeroHead), 4, 4) := by kernel_rfl
set_option maxRecDepth 100000 in
theorem make_heads (n : Nat) (hn : n ≤ 4096) (w : World) :
    (Instr.makeSlice 87 (.int .i64 (n : Int)) (.int .i64 (n : Int))).run Tryz.prog w = .ok (.slice (some ⟨w.heap.size, 0, none⟩) n n) (w.alloc (.cells (List.replicate n (z4.map cu8)).flatten.toArray 91)) := by
  obtain ⟨i, hi, hzz⟩ := Option.map_eq_some_iff.1 infoHeads
  simp only [Prod.mk.injEq] at hzz
  obtain ⟨hz, hs, hb⟩ := hzz
  have h := run_make (P := Tryz.prog) w 87 91 i (.agg zeroHead) Tryz.underlying87 hi hz .i64 .i64 n n (by omega) (Int.le_refl _) (by rw [hb]; omega) (by omega)
  rw [hs] at h
  rw [h, ← made_rows (z4.map cu8) 4 rfl (by omega)]
  rfl
section
variable {b : Bk} {gd g first n x : Nat} {T : List (Nat × Obj)} {w0 w : World} {hs : List (List UInt8)} {bl : Nat → List UInt8}
set_option maxRecDepth 100000 in
set_option maxHeartbeats 8000000 in
theorem heads_any (h : OwnX b gd g T w0 w) (hT : (x, depO g first n) ∈ T) (hD : De b first n hs bl) (hf : first ≤ 2000) (hn : n ≤ 64) :
    Calls Tryz.prog 39 #[.pointer (some ⟨x, 0, none⟩)] w (HeadsP hs n w) := by
  have hm := make_heads n (by omega) w
  obtain ⟨_, _, c2⟩ := (h.dep hT).cells
  have hH := hD.hd
  obtain ⟨F, HF⟩ : ∃ F : Nat → List Value, Hid (F = fun i => (hs.getD i []).map cu8) := ⟨_, rfl⟩
  obtain ⟨Z, HZ⟩ : ∃ Z : List Value, Hid (Z = z4.map cu8) := ⟨_, rfl⟩
  obtain ⟨R0, HR0⟩ : ∃ R0 : Array Value, Hid (R0 = (midL F Z n 0).flatten.toArray) := ⟨_, rfl⟩
  rw [← HZ.out, ← midL_zero F, ← HR0.out] at hm
  have hFl : ∀ i, i < n → (F i).length = 4 := fun i hi => by
    rw [HF.out]
    show ((hs.getD i []).map cu8).length = 4
    rw [List.length_map]
    exact (hH _ (getD_mem (by rw [hD.len]; exact hi)).1).len
  have hZl : Z.length = 4 := by rw [HZ.out]; rfl
  have hrows : ∀ k, ∀ p ∈ midL F Z n k, p.length = 4 := fun k p hp => by
    obtain ⟨i, hi, rfl⟩ := List.mem_map.1 hp
    have := List.mem_range.1 hi
    split
    · exact hFl i this
    · exact hZl
  have hfl : ∀ k, (midL F Z n k).flatten.length = n * 4 := fun k => by rw [rows_len 4 (hrows k), midL_length]
  have hend : rowH hs = (midL F Z n n).flatten.toArray := by
    unfold rowH cellsH
    congr 2
    rw [midL_all]
    apply List.ext_getElem (by simp [hD.len])
    intro i h1 h2
    have hi : i < hs.length := by simpa using h1
    simp only [List.getElem_map, List.getElem_range]
    rw [HF.out]
    show _ = (hs.getD i []).map cu8
    rw [List.getD_eq_getElem?_getD, List.getElem?_eq_getElem hi]; rfl
  have hb1 : Below w.heap.size w (w.alloc (.cells R0 91)) := (Below.refl _ _).alloc (Nat.le_refl _) _
  have hy1 : (w.alloc (.cells R0 91)).heap[w.heap.size]? = some (.cells (midL F Z n 0).flatten.toArray 91 (0, 0)) := by rw [← HR0.out]; exact heap_alloc_new w _
  have Hdh := Lib.hid (fun (wr : World) (hb : Below w.heap.size w wr) (k : Nat) (hk : k < n) => (h.below hb).dhead hT hD hf hn hk)
  have Hend := Lib.hid hend
  have HFl := Lib.hid hFl; have Hrows := Lib.hid hrows; have Hfl := Lib.hid hfl
  have n0 : (0 : Int) ≤ (n : Int) := by omega
  clear hend hFl hrows hfl hH h hD
  go_enter Tryz.func39, Tryz.ntmps39
  go_wp2
  generalize w.alloc (.cells R0 91) = w1 at hb1 hy1 ⊢
  obtain ⟨y, hy⟩ : ∃ y, w.heap.size = y := ⟨_, rfl⟩
  rw [hy] at hy1 ⊢
  have Hy := Lib.hid hy
  clear hm hy c2
  go_loopg [18] n (fun m v wr => ∃ k : Nat, m = n - k ∧ k ≤ n ∧ v = .int .i64 k ∧ wr.heap[y]? = some (.cells (midL F Z n k).flatten.toArray 91 (0, 0)) ∧ Below w.heap.size w wr)
  case atStart => exact ⟨0, rfl, by omega, rfl, hy1, hb1⟩
  case round =>
    clear hb1 hy1
    obtain ⟨k, rfl, hk, rfl, hyr, hb⟩ := hrel
    by_cases hlt : k < n
    · have hlt' : (k : Int) < (n : Int) := by omega
      have Hc := Lib.hid (Hdh.out wr hb k hlt)
      obtain ⟨hv, Hhv⟩ : ∃ hv : List Value, Hid (hv = F k) := ⟨_, rfl⟩
      have hV : headV (hs.getD k []) = .agg hv.toArray := by rw [Hhv.out, HF.out]; rfl
      rw [hV] at Hc
      have hvl : hv.length = 4 := by rw [Hhv.out]; exact HFl.out k hlt
      have hi : Hid ((Tryz.prog.info? 91).map (·.size) = some hv.toArray.size) := by rw [List.size_toArray, hvl]; exact infoHead
      have hz : Hid (zeroHead.size = hv.toArray.size) := by
        have e : hv.toArray.size = 4 := by rw [List.size_toArray, hvl]
        rw [e]; exact (rfl : zeroHead.size = 4)
      have h1 : Hid (hv.toArray.all (·.oneCell') = true) := by rw [Hhv.out, HF.out]; exact bytes_one _
      have h1l : Hid (∀ v ∈ hv.toArray.toList, v.oneCell' = true) := by
        have : ∀ v ∈ hv.toArray.toList, v.oneCell' = true := fun v hv' => by rw [Hhv.out, HF.out] at hv'; obtain ⟨c, _, rfl⟩ := List.mem_map.1 (by simpa using hv'); rfl
        exact this
      obtain ⟨zn, Hzn⟩ : ∃ zn : Array Value, Hid (zn = zeroHead) := ⟨_, rfl⟩
      rw [← Hzn.out] at hz
      have hal : ∀ w : World, (Instr.alloc 91 true (.tuple #[])).run Tryz.prog w = .ok (.pointer (some ⟨w.heap.size, 0, none⟩)) (w.alloc (.cells zn 91)) := by rw [Hzn.out]; exact allocHead
      obtain ⟨cur, Hcur⟩ : ∃ cur : List Value, Hid (cur = (midL F Z n k).flatten) := ⟨_, rfl⟩
      rw [← Hcur.out] at hyr
      have hfit : Hid (k * 4 + hv.toArray.size ≤ cur.length) := by
        have : k * 4 + hv.toArray.size ≤ cur.length := by rw [List.size_toArray, hvl, Hcur.out, Hfl.out k]; omega
        exact this
      have hylr := (Array.getElem?_eq_some_iff.1 hyr).1
      clear hV
      go_wp2_with (first
        | (go_at_call 77; refine Hc.out.mono ?_))
      rintro e w2 ⟨rfl, hb2⟩
      have hyr2 := (hb2.block y hylr).trans hyr
      have hbw2 := hb.trans (hb2.mono hb.size)
      have hb3 : Below w2.heap.size w2 (w2.alloc (.cells hv.toArray 91)) := (Below.refl _ _).alloc (Nat.le_refl _) _
      have hx3 : (w2.alloc (.cells hv.toArray 91)).heap[w2.heap.size]? = some (.cells hv.toArray 91 (0, 0)) := heap_alloc_new w2 _
      have hyl2 := (Array.getElem?_eq_some_iff.1 hyr2).1
      have hyr3 := (hb3.block y hyl2).trans hyr2
      have hbw3 := hbw2.trans (hb3.mono hbw2.size)
      have Hbw3 := Lib.hid hbw3
      clear hyr hyr2 hb2 hb hbw2 hb3 hbw3 Hc
      go_wp2_with (first
        | (refine wpList_alloc_arr rfl 91 rfl _ hal ?_)
        | (refine wpList_store_new rfl 91 _ _ rfl w2.heap.size rfl hv.toArray rfl rfl 91 _ hi.out hz.out h1.out ?_)
        | (refine wpList_load_row rfl 91 _ rfl w2.heap.size rfl 91 hv.toArray (0, 0) _ hx3 Tryz.underlying91 rfl hi.out ?_)
        | (refine wpList_store_into rfl 91 _ _ rfl y (k * 4) hv.toArray rfl rfl cur 91 hyr3 hi.out hfit.out h1l.out ?_; intro w8 Hs8 Hg8))
      go_roundg (n - (k + 1))
      case measure => omega
      case rel =>
        refine ⟨k + 1, rfl, by omega, by go_num, ?_, ?_⟩
        · have e := Hs8.out
          rw [e, Hcur.out, Hhv.out, splice_rows 4 (Hrows.out k) k (by rw [midL_length]; exact hlt) (F k) (HFl.out k hlt), midL_set]
        · exact Hbw3.out.trans ((Only.of_grown (F := fun j => j = y) Hg8.out (fun j e => by simpa using e.symm)).base Hbw3.out.size (fun j hj => by have e : j = y := hj; have := Hy.out; omega))
    · obtain rfl : k = n := by omega
      have hlt' : ¬ ((k : Int) < (k : Int)) := by omega
      have Hfin := Lib.hid (show HeadsP hs k w (.returned (.tuple #[.slice (some ⟨y, 0, none⟩) k k, .nilIface])) wr from ⟨y, rfl, by rw [Hend.out]; exact hyr, hb, by have := Hy.out; omega⟩)
      clear hyr hb
      go_wp2
      first | exact Hfin.out | (go_ret; exact Hfin.out) | refine bodyPost_ret (v := .tuple #[.slice (some ⟨y, 0, none⟩) k k, .nilIface]) (by simp [results, Tryz.results39, go_sem]) rfl Hfin.out
end
end Go.Proofs.YtjkkbceddbkejaaGreatDoor

/-
  slices.Index of a head's slots.
-/
namespace Go.Proofs.YtjkkbceddbkejaaGreatDoor
open Go.RowKit Sh Go.Maps Go.Extern.Stop Go.Stop Go.Extern

def idxI (h : List UInt8) : Int := match freeH h with | some i => (i : Int) | none => -1
theorem free_first {h : List UInt8} {k : Nat} (h0 : h[k]? = some 0) (hb : ∀ j, j < k → h[j]? ≠ some 0) : freeH h = some k := by
  unfold freeH
  rw [List.findIdx?_eq_some_iff_getElem]
  obtain ⟨hk, e⟩ := List.getElem?_eq_some_iff.1 h0
  refine ⟨hk, by simp [e], fun j hj => ?_⟩
  have := hb j hj
  rw [List.getElem?_eq_getElem (by omega)] at this
  intro e2
  exact this (congrArg some (by simpa using e2))
theorem free_no {h : List UInt8} (hl : h.length = 4) (hb : ∀ j, j < 4 → h[j]? ≠ some 0) : freeH h = none := by
  cases e : freeH h with
  | none => rfl
  | some i =>
    have h0 := freeH_some e
    have := (List.getElem?_eq_some_iff.1 h0).1
    exact absurd h0 (hb i (by omega))
section
variable {w : World}
set_option maxRecDepth 100000 in
theorem hindex_any (h : List UInt8) (hl : h.length = 4) (r : Nat) (hr : w.heap[r]? = some (.cells (h.map cu8).toArray 91 (0, 0))) :
    Calls Tryz.prog 100 #[.slice (some ⟨r, 0, none⟩) 4 4, .int .u8 0] w fun e w' => e = .returned (.int .i64 (idxI h)) ∧ w = w' := by
  have Hc := Lib.hid (fun (k : Nat) (c : UInt8) (hk : h[k]? = some c) => (show w.cell? ⟨r, k, none⟩ = some (.int .u8 (c.toNat : Int)) by
    rw [cell_of_row w r k _ _ _ hr, List.getElem?_toArray, List.getElem?_map, hk, ← cu8_nat]; rfl))
  have n4 : ((4 : Nat) : Int) = 4 := rfl
  clear hr
  go_enter Tryz.func100, Tryz.ntmps100
  go_wp2
  go_loopg [8] 4 (fun m v wr => ∃ k : Nat, m = 4 - k ∧ k ≤ 4 ∧ v = .int .i64 k ∧ w = wr ∧ ∀ j, j < k → h[j]? ≠ some 0)
  case atStart => exact ⟨0, rfl, by omega, rfl, rfl, fun j hj => by omega⟩
  case round =>
    obtain ⟨k, rfl, hk, rfl, rfl, hb⟩ := hrel
    by_cases hlt : k < 4
    · have hlt' : (k : Int) < 4 := by omega
      obtain ⟨c, hc⟩ : ∃ c, h[k]? = some c := ⟨_, List.getElem?_eq_getElem (by omega)⟩
      have hcell := Hc.out k c hc
      by_cases e : c = 0
      · subst e
        have e0 : ((0 : UInt8).toNat : Int) = 0 := rfl
        rw [e0] at hcell
        have Hfin := Lib.hid (show idxI h = (k : Int) by unfold idxI; rw [free_first hc hb])
        clear hb hc e0
        go_wp2
        go_ret
        exact ⟨by rw [Hfin.out]; rfl, rfl⟩
      · obtain ⟨C, hC⟩ : ∃ C : Nat, c.toNat = C := ⟨_, rfl⟩
        rw [hC] at hcell
        have e2 : ¬ ((0 : Int) = (C : Int)) := fun h2 => e (UInt8.toNat_inj.1 (by rw [hC]; show C = 0; omega))
        have Hb := Lib.hid (fun j (hj : j < k + 1) => (show h[j]? ≠ some 0 by
          by_cases ej : j = k
          · subst ej; rw [hc]; simpa using e
          · exact hb j (by omega)))
        clear hb hc hC e
        go_wp2
        go_roundg (4 - (k + 1))
        case measure => omega
        case rel => exact ⟨k + 1, rfl, by omega, by go_num, rfl, Hb.out⟩
    · obtain rfl : k = 4 := by omega
      have Hfin := Lib.hid (show idxI h = -1 by unfold idxI; rw [free_no hl hb])
      clear hb hlt
      go_wp2
      go_ret
      exact ⟨by rw [Hfin.out]; rfl, rfl⟩
end
end Go.Proofs.YtjkkbceddbkejaaGreatDoor

/-
  Package depot: room.
-/
namespace Go.Proofs.YtjkkbceddbkejaaGreatDoor
open Go.RowKit Sh Go.Maps Go.Extern.Stop Go.Stop Go.Extern

def RoomP (r : Option Nat) (w : World) (e : Ending) (w' : World) : Prop := match r with
  | some s => e = .returned (.tuple #[.int .i64 (s : Nat), .nilIface]) ∧ Below w.heap.size w w'
  | none => e = .returned (.tuple #[.int .i64 0, .iface 84 (.int .i64 20)]) ∧ Below w.heap.size w w'
def frI (fr : Option Nat) : Int := match fr with | some s => (s : Int) | none => -1
theorem drop_at {hs : List (List UInt8)} {k : Nat} (hk : k < hs.length) : hs.drop k = hs.getD k [] :: hs.drop (k + 1) := by
  rw [List.drop_eq_getElem_cons hk, List.getD_eq_getElem?_getD, List.getElem?_eq_getElem hk]; rfl
/-- A head in its row. -/
theorem rowH_at {hs : List (List UInt8)} (H : ∀ h ∈ hs, h.length = 4) {k : Nat} (hk : k < hs.length) {w : World} {y : Nat} (hy : w.heap[y]? = some (.cells (rowH hs) 91 (0, 0))) (j : Nat) (v : Value) (hj : ((hs.getD k []).map cu8)[j]? = some v) : w.cell? ⟨y, k * 4 + j, none⟩ = some v := by
  have hl := H _ (getD_mem hk).1
  have hj4 : j < 4 := by have := (List.getElem?_eq_some_iff.1 hj).1; rw [List.length_map, hl] at this; exact this
  have hP : ∀ p ∈ cellsH hs, p.length = 4 := fun p hp => by
    obtain ⟨q, hq, rfl⟩ := List.mem_map.1 hp
    rw [List.length_map]; exact H q hq
  have := flat_getM 4 hP k ((hs.getD k []).map cu8) (by unfold cellsH; rw [List.getElem?_map, (getD_mem hk).2]; rfl) j hj4
  rw [cell_of_row w y _ _ _ _ hy]
  unfold rowH
  rw [List.getElem?_toArray]
  exact this.trans hj
section
variable {b : Bk} {gd g first n x : Nat} {T : List (Nat × Obj)} {w0 w : World} {hs : List (List UInt8)} {bl : Nat → List UInt8}
set_option maxRecDepth 100000 in
set_option maxHeartbeats 16000000 in
theorem droom_any (h : OwnX b gd g T w0 w) (hT : (x, depO g first n) ∈ T) (hD : De b first n hs bl) (hf : first ≤ 2000) (hn : n ≤ 64) (but : Int) :
    Calls Tryz.prog 69 #[.pointer (some ⟨x, 0, none⟩), .int .i64 but] w (RoomP (roomL but hs) w) := by
  have Hh := Lib.hid (heads_any h hT hD hf hn)
  have hlen := hD.len
  have hH := hD.hd
  obtain ⟨G, hG⟩ : ∃ G, roomL but hs = G := ⟨_, rfl⟩
  rw [hG]
  unfold roomL at hG
  have HG := Lib.hid hG
  have n0 : (0 : Int) ≤ (n : Int) := by omega
  have HH := Lib.hid hH; have HL := Lib.hid hlen
  obtain ⟨zn, Hzn⟩ : ∃ zn : Array Value, Hid (zn = zeroHead) := ⟨_, rfl⟩
  have hal : ∀ w : World, (Instr.alloc 91 true (.tuple #[])).run Tryz.prog w = .ok (.pointer (some ⟨w.heap.size, 0, none⟩)) (w.alloc (.cells zn 91)) := by rw [Hzn.out]; exact allocHead
  clear h hD hG hH hlen
  go_enter Tryz.func69, Tryz.ntmps69
  go_wp2_with (first
    | (go_at_call 39; refine Hh.out.mono ?_))
  rintro e w1 ⟨y, rfl, hy1, hb1, hyw⟩
  have Hyw := Lib.hid hyw
  clear Hh hyw
  go_wp2
  go_loopg [23, 8] n (fun m v f wr => ∃ (k : Nat) (fr : Option Nat), m = n - k ∧ k ≤ n ∧ v = .int .i64 k ∧ f = .int .i64 (frI fr) ∧ (∀ s, fr = some s → s < 4 * n) ∧ roomAt but k (hs.drop k) fr = G ∧ wr.heap[y]? = some (.cells (rowH hs) 91 (0, 0)) ∧ Below w.heap.size w wr)
  case atStart => exact ⟨0, none, rfl, by omega, rfl, rfl, fun s hs => (by cases hs), (by rw [List.drop_zero]; exact HG.out), hy1, hb1⟩
  case round =>
    clear hb1 hy1
    obtain ⟨k, fr, rfl, hk, rfl, rfl, hfr, hroom, hyr, hb⟩ := hrel
    by_cases hlt : k < n
    · have hlt' : (k : Int) < (n : Int) := by omega
      have hks : k < hs.length := by rw [HL.out]; exact hlt
      rw [drop_at hks] at hroom
      have hHk := HH.out _ (getD_mem hks).1
      have hrow := rowH_at (fun h hh => (HH.out h hh).len) hks hyr
      obtain ⟨hd0, hhd0⟩ : ∃ hd0, hs.getD k [] = hd0 := ⟨_, rfl⟩
      rw [hhd0] at hroom hHk hrow
      have hdl := hHk.len
      obtain ⟨hv, Hhv⟩ : ∃ hv : List Value, Hid (hv = hd0.map cu8) := ⟨_, rfl⟩
      rw [← Hhv.out] at hrow
      have HRg := Lib.hid hrow
      have hV : headV hd0 = .agg hv.toArray := by rw [Hhv.out]; rfl
      have hvl : hv.length = 4 := by rw [Hhv.out]; simp [hdl]
      have hi : Hid ((Tryz.prog.info? 91).map (·.size) = some hv.toArray.size) := by rw [List.size_toArray, hvl]; exact infoHead
      have hi4 : Hid ((Tryz.prog.info? 91).map (·.size) = some hv.length) := by rw [hvl]; exact infoHead
      have hz : Hid (zn.size = hv.toArray.size) := by
        have e : hv.toArray.size = 4 := by rw [List.size_toArray, hvl]
        rw [e, Hzn.out]; exact (rfl : zeroHead.size = 4)
      have h1 : Hid (hv.toArray.all (·.oneCell') = true) := by rw [Hhv.out]; exact bytes_one _
      have hb3 : Below wr.heap.size wr (wr.alloc (.cells hv.toArray 91)) := (Below.refl _ _).alloc (Nat.le_refl _) _
      have hx3 : (wr.alloc (.cells hv.toArray 91)).heap[wr.heap.size]? = some (.cells hv.toArray 91 (0, 0)) := heap_alloc_new wr _
      have hyr3 := (hb3.block y (Array.getElem?_eq_some_iff.1 hyr).1).trans hyr
      have hbw3 := hb.trans (hb3.mono hb.size)
      have hix := hindex_any (w := wr.alloc (.cells hv.toArray 91)) hd0 hdl wr.heap.size (by rw [← Hhv.out]; exact hx3)
      have hbg := begun_any (w := wr.alloc (.cells hv.toArray 91)) hd0 hdl
      rw [hV] at hbg
      clear hV hrow hb hb3 hyr hHk hhd0
      have Hyr3 := Lib.hid hyr3; have Hbw3 := Lib.hid hbw3; have Hfr := Lib.hid hfr
      clear hyr3 hbw3 hfr
      cases hfree : freeH hd0 with
      | none =>
        have hroom2 : roomAt but (k + 1) (hs.drop (k + 1)) fr = G := by
          rw [← hroom]; conv => rhs; unfold roomAt
          rw [hfree]
        have hixI : idxI hd0 = -1 := by unfold idxI; rw [hfree]
        rw [hixI] at hix
        have Hix := Lib.hid hix; have Hroom := Lib.hid hroom2
        clear hix hbg hroom hroom2 hixI hfree
        by_cases hbt : (k : Int) = but
        · subst hbt
          go_wp2_with (first
            | (refine wpList_alloc_arr rfl 91 rfl _ hal ?_)
            | (refine wpList_load_mid rfl 91 _ rfl y (k * 4) rfl hv _ HRg.out Tryz.underlying91 rfl hi4.out ?_)
            | (refine wpList_store_new rfl 91 _ _ rfl wr.heap.size rfl hv.toArray rfl rfl 91 _ hi.out hz.out h1.out ?_)
            | (go_at_call 100; refine Hix.out.mono ?_; rintro e w' ⟨rfl, rfl⟩))
          go_roundg (n - (k + 1))
          case measure => omega
          case rel => exact ⟨k + 1, fr, rfl, by omega, by go_num, rfl, Hfr.out, Hroom.out, Hyr3.out, Hbw3.out⟩
        · go_wp2_with (first
            | (refine wpList_alloc_arr rfl 91 rfl _ hal ?_)
            | (refine wpList_load_mid rfl 91 _ rfl y (k * 4) rfl hv _ HRg.out Tryz.underlying91 rfl hi4.out ?_)
            | (refine wpList_store_new rfl 91 _ _ rfl wr.heap.size rfl hv.toArray rfl rfl 91 _ hi.out hz.out h1.out ?_)
            | (go_at_call 100; refine Hix.out.mono ?_; rintro e w' ⟨rfl, rfl⟩))
          go_roundg (n - (k + 1))
          case measure => omega
          case rel => exact ⟨k + 1, fr, rfl, by omega, by go_num, rfl, Hfr.out, Hroom.out, Hyr3.out, Hbw3.out⟩
      | some i =>
        have hi4' : i < 4 := by have := (List.getElem?_eq_some_iff.1 (freeH_some hfree)).1; omega
        have hixI : idxI hd0 = (i : Int) := by unfold idxI; rw [hfree]
        rw [hixI] at hix
        have Hix := Lib.hid hix
        have i0 : ¬ ((i : Int) < 0) := by omega
        clear hix hixI
        by_cases hbt : (k : Int) = but
        · have hroom2 : roomAt but (k + 1) (hs.drop (k + 1)) fr = G := by
            rw [← hroom]; conv => rhs; unfold roomAt
            rw [hfree]; simp only; rw [if_pos hbt]
          have Hroom := Lib.hid hroom2
          clear hbg hroom hroom2 hfree
          subst hbt
          go_wp2_with (first
            | (refine wpList_alloc_arr rfl 91 rfl _ hal ?_)
            | (refine wpList_load_mid rfl 91 _ rfl y (k * 4) rfl hv _ HRg.out Tryz.underlying91 rfl hi4.out ?_)
            | (refine wpList_store_new rfl 91 _ _ rfl wr.heap.size rfl hv.toArray rfl rfl 91 _ hi.out hz.out h1.out ?_)
            | (go_at_call 100; refine Hix.out.mono ?_; rintro e w' ⟨rfl, rfl⟩))
          go_roundg (n - (k + 1))
          case measure => omega
          case rel => exact ⟨k + 1, fr, rfl, by omega, by go_num, rfl, Hfr.out, Hroom.out, Hyr3.out, Hbw3.out⟩
        · have hbe : ((k : Int) == but) = false := by simpa using hbt
          have i0b : decide ((i : Int) < 0) = false := decide_eq_false i0
          obtain ⟨s, hse⟩ : ∃ s, k * 4 + i = s := ⟨_, rfl⟩
          have hsI : (k : Int) * 4 + (i : Int) = (s : Int) := by omega
          have w1 : IntKind.i64.wrap ((k : Int) * 4) = (k : Int) * 4 := IntWalk.i64_in _ (by omega)
          have w2 : IntKind.i64.wrap ((k : Int) * 4 + (i : Int)) = (s : Int) := by rw [IntWalk.i64_in _ (by omega)]; exact hsI
          have hs4 : s < 4 * n := by omega
          by_cases hz4 : hd0 = z4
          · have hroom2 : roomAt but (k + 1) (hs.drop (k + 1)) (fr.or (some s)) = G := by
              rw [← hroom]; conv => rhs; unfold roomAt
              rw [hfree]; simp only; rw [if_neg hbt, if_neg (by simp [hz4]), hse]
            rw [show (!decide (hd0 = z4)) = false by simp [hz4]] at hbg
            have Hroom := Lib.hid hroom2; have Hbg := Lib.hid hbg
            clear hbg hroom hroom2 hfree hz4 hse hsI
            cases fr with
            | none =>
              have hfI : frI none = -1 := rfl
              go_wp2_with (first
                | (refine wpList_alloc_arr rfl 91 rfl _ hal ?_)
                | (refine wpList_load_mid rfl 91 _ rfl y (k * 4) rfl hv _ HRg.out Tryz.underlying91 rfl hi4.out ?_)
                | (refine wpList_store_new rfl 91 _ _ rfl wr.heap.size rfl hv.toArray rfl rfl 91 _ hi.out hz.out h1.out ?_)
                | (refine wpList_load_row rfl 91 _ rfl wr.heap.size rfl 91 hv.toArray (0, 0) _ hx3 Tryz.underlying91 rfl hi.out ?_)
                | (go_at_call 100; refine Hix.out.mono ?_; rintro e w' ⟨rfl, rfl⟩)
                | (go_at_call 101; refine Hbg.out.mono ?_))
              rintro e w9 ⟨rfl, hb9⟩
              have Hb9 := Lib.hid hb9
              clear hb9
              go_wp2
              go_roundg (n - (k + 1))
              case measure => omega
              case rel => exact ⟨k + 1, some s, rfl, by omega, by go_num, rfl, fun s' h' => by obtain rfl : s = s' := Option.some.inj h'; exact hs4, Hroom.out, (Hb9.out.block y (Array.getElem?_eq_some_iff.1 Hyr3.out).1).trans Hyr3.out, Hbw3.out.trans (Hb9.out.mono Hbw3.out.size)⟩
            | some f0 =>
              have hf0 : ¬ ((f0 : Int) = -1) := by omega
              have hfI : frI (some f0) = (f0 : Int) := rfl
              rw [hfI]
              go_wp2_with (first
                | (refine wpList_alloc_arr rfl 91 rfl _ hal ?_)
                | (refine wpList_load_mid rfl 91 _ rfl y (k * 4) rfl hv _ HRg.out Tryz.underlying91 rfl hi4.out ?_)
                | (refine wpList_store_new rfl 91 _ _ rfl wr.heap.size rfl hv.toArray rfl rfl 91 _ hi.out hz.out h1.out ?_)
                | (refine wpList_load_row rfl 91 _ rfl wr.heap.size rfl 91 hv.toArray (0, 0) _ hx3 Tryz.underlying91 rfl hi.out ?_)
                | (go_at_call 100; refine Hix.out.mono ?_; rintro e w' ⟨rfl, rfl⟩)
                | (go_at_call 101; refine Hbg.out.mono ?_))
              rintro e w9 ⟨rfl, hb9⟩
              have Hb9 := Lib.hid hb9
              clear hb9
              go_wp2
              go_roundg (n - (k + 1))
              case measure => omega
              case rel => exact ⟨k + 1, some f0, rfl, by omega, by go_num, rfl, Hfr.out, Hroom.out, (Hb9.out.block y (Array.getElem?_eq_some_iff.1 Hyr3.out).1).trans Hyr3.out, Hbw3.out.trans (Hb9.out.mono Hbw3.out.size)⟩
          · have hG2 : some s = G := by
              rw [← hroom]; unfold roomAt
              rw [hfree]; simp only; rw [if_neg hbt, if_pos hz4, hse]
            rw [show (!decide (hd0 = z4)) = true by simp [hz4]] at hbg
            subst hG2
            have Hbg := Lib.hid hbg
            clear hbg hroom hfree hz4 hse hsI
            go_wp2_with (first
              | (refine wpList_alloc_arr rfl 91 rfl _ hal ?_)
              | (refine wpList_load_mid rfl 91 _ rfl y (k * 4) rfl hv _ HRg.out Tryz.underlying91 rfl hi4.out ?_)
              | (refine wpList_store_new rfl 91 _ _ rfl wr.heap.size rfl hv.toArray rfl rfl 91 _ hi.out hz.out h1.out ?_)
              | (refine wpList_load_row rfl 91 _ rfl wr.heap.size rfl 91 hv.toArray (0, 0) _ hx3 Tryz.underlying91 rfl hi.out ?_)
              | (go_at_call 100; refine Hix.out.mono ?_; rintro e w' ⟨rfl, rfl⟩)
              | (go_at_call 101; refine Hbg.out.mono ?_))
            rintro e w9 ⟨rfl, hb9⟩
            have Hfin := Lib.hid (show RoomP (some s) w (.returned (.tuple #[.int .i64 (s : Nat), .nilIface])) w9 from ⟨rfl, Hbw3.out.trans (hb9.mono Hbw3.out.size)⟩)
            clear hb9
            go_wp2
            first | exact Hfin.out | (go_ret; exact Hfin.out) | refine bodyPost_ret (v := .tuple #[.int .i64 (s : Nat), .nilIface]) (by simp [results, Tryz.results69, go_sem]) rfl Hfin.out
    · obtain rfl : k = n := by omega
      have hlt' : ¬ ((k : Int) < (k : Int)) := by omega
      have e1 : hs.drop k = [] := List.drop_eq_nil_of_le (by rw [HL.out]; exact Nat.le_refl _)
      rw [e1] at hroom
      have hGf : fr = G := hroom
      subst hGf
      cases fr with
      | none =>
        have Hfin := Lib.hid (show RoomP none w (.returned (.tuple #[.int .i64 0, .iface 84 (.int .i64 20)])) wr from ⟨rfl, hb⟩)
        have hfI : frI none = -1 := rfl
        clear hyr hb hroom e1 hfr
        go_wp2
        first | exact Hfin.out | (go_ret; exact Hfin.out) | refine bodyPost_ret (v := .tuple #[.int .i64 0, .iface 84 (.int .i64 20)]) (by simp [results, Tryz.results69, go_sem]) rfl Hfin.out
      | some s =>
        have Hfin := Lib.hid (show RoomP (some s) w (.returned (.tuple #[.int .i64 (s : Nat), .nilIface])) wr from ⟨rfl, hb⟩)
        have hs0 : ¬ ((s : Int) = -1) := by omega
        have hfI : frI (some s) = (s : Int) := rfl
        rw [hfI]
        clear hyr hb hroom e1 hfr
        go_wp2
        first | exact Hfin.out | (go_ret; exact Hfin.out) | refine bodyPost_ret (v := .tuple #[.int .i64 (s : Nat), .nilIface]) (by simp [results, Tryz.results69, go_sem]) rfl Hfin.out
end
end Go.Proofs.YtjkkbceddbkejaaGreatDoor
