/-
  slices.Clone, IndexFunc, DeleteFunc, ContainsFunc at pers's types.
-/
import Derived.Test.YtkpogmigfjmacaaPeClo
import Derived.WalkSpells
import Derived.Lib.SliceRun
import Derived.Deep.Upon
import Derived.Lib.LazyBuf
import Derived.Shelf.Abstract
set_option linter.unusedSimpArgs false
set_option linter.unusedVariables false
namespace Go.Proofs.Ytkpogmigfjmacaa
open Go.RowKit

theorem rows_one (l : List (Int × Int)) : ∀ u ∈ rowsR l, u.oneCell' = true := by
  intro u hu
  obtain ⟨q, _, h⟩ := List.mem_flatMap.1 hu
  simp only [List.mem_cons, List.not_mem_nil, or_false] at h
  rcases h with rfl | rfl <;> rfl
theorem rowsR_get (l : List (Int × Int)) (i : Nat) (u : Value) (h : (rowsR l)[i]? = some u) : ∃ q, l[i / 2]? = some q ∧ u = (if i % 2 = 0 then .int .i64 q.1 else .int .u64 q.2) := by
  have hi : i < l.length * 2 := by have := (List.getElem?_eq_some_iff.1 h).1; rwa [rowsR_len] at this
  obtain ⟨q, hq⟩ : ∃ q, l[i / 2]? = some q := ⟨_, List.getElem?_eq_getElem (by omega)⟩
  obtain ⟨h1, h2⟩ := rowsR_at l (i / 2) q hq
  refine ⟨q, hq, ?_⟩
  rcases Nat.mod_two_eq_zero_or_one i with e | e
  · rw [if_pos e]; rw [show i / 2 * 2 = i by omega] at h1; rw [h1] at h; exact (Option.some.inj h).symm
  · rw [if_neg (by omega)]; rw [show i / 2 * 2 + 1 = i by omega] at h2; rw [h2] at h; exact (Option.some.inj h).symm
/-- Registrations in memory, cell by cell. -/
theorem RgA.news {N : Nat} {w : World} {a : Addr} {l : List (Int × Int)} (h : RgA N w (some a) l) : ∀ j u, (rowsR l)[j]? = some u → w.cell? (a.add j) = some u := by
  intro j u hu
  obtain ⟨q, hq, rfl⟩ := rowsR_get l j u hu
  rcases h with rfl | ⟨b, o, hA, _, hc⟩
  · simp at hq
  · cases hA
    obtain ⟨c0, c1⟩ := hc _ _ hq
    have e : (⟨b, o, none⟩ : Addr).add j = ⟨b, o + j, none⟩ := by unfold Addr.add; split <;> simp_all
    rw [e]
    rcases Nat.mod_two_eq_zero_or_one j with e | e
    · rw [if_pos e, show j = j / 2 * 2 by omega]; exact c0
    · rw [if_neg (by omega), show j = j / 2 * 2 + 1 by omega, ← Nat.add_assoc]; exact c1

def CloneP (w : World) (l : List (Int × Int)) (e : Ending) (w' : World) : Prop := ∃ v, e = .returned v ∧ OwnR w.heap.size w' v l ∧ Below w.heap.size w w'
theorem clone_any (A : Option Addr) (len cap : Nat) (l : List (Int × Int)) (w : World) (hl : l.length = len) (hm : len ≤ 6) (hR : RgA w.heap.size w A l) :
    Calls Try.prog 30 #[.slice A len cap] w (CloneP w l) := by
  obtain ⟨i0, hi0, hz0, hz1, hz2⟩ := info_parts infoReg
  have HI := Lib.hid (And.intro hi0 (And.intro hz0 (And.intro hz1 hz2)))
  clear hi0 hz0 hz1 hz2
  cases A with
  | none =>
    have h0 : l = [] := by
      rcases hR with h | ⟨b, o, hA, _⟩
      · exact h
      · cases hA
    subst h0
    have hn : ∀ w : World, (binOp .eql 23 (.slice none len cap) (.slice none 0 0)).run Try.prog w = .ok (.bool true) w := fun w => Lib.run_eql_slice_nil w _ _ none len cap 0 0 Try.underlying23
    clear hR
    go_enter Try.func30, Try.ntmps30
    go_wp2
    go_ret
    exact ⟨_, rfl, OwnR.nil _ _, Below.refl _ _⟩
  | some ad =>
    have hn : ∀ w : World, (binOp .eql 23 (.slice (some ad) len cap) (.slice none 0 0)).run Try.prog w = .ok (.bool false) w := fun w => Lib.run_eql_slice_nil w _ _ (some ad) len cap 0 0 Try.underlying23
    have hown : (w.alloc (.cells #[] 38)).ownsRow w.heap.size 38 2 (.slice (some ⟨w.heap.size, 0, none⟩) 0 0) 0 [] := World.ownsRow_made w #[] 0 (Nat.le_refl _) (by unfold maxLen; omega) rfl
    have hnews := ((hR.below (bel1 w (.cells #[] 38))).mono (M := w.heap.size + 1) (by omega)).news
    have hrl := rowsR_len l
    have HO := Lib.hid hown; have HN := Lib.hid hnews; have HRL := Lib.hid hrl; have Hl := Lib.hid hl
    clear hR hown hnews hrl hl
    go_enter Try.func30, Try.ntmps30
    go_wp2_with (at_builtin; refine wpList_append_own _ rfl _ _ 23 rfl w.heap.size 38 i0 _ 2 16 Try.underlying23 HI.out.1 HI.out.2.1 HI.out.2.2.1 HI.out.2.2.2 rfl (by omega) _ _ _ rfl HO.out ad len cap (rowsR l) rfl (by rw [HRL.out, Hl.out]) HN.out (rows_one l) (by unfold maxLen; omega) (by omega) (by simp) ?_)
    intro v w1 h1 hg _
    have hb1 : Below w.heap.size w w1 := below_grown (bel1 w _) HO.out hg (by simp)
    have ho1 : OwnR w.heap.size w1 v l := by unfold OwnR; rw [Hl.out]; simpa using h1
    have Hfin := Lib.hid (And.intro ho1 hb1)
    clear h1 hg hb1 ho1
    go_wp2
    go_ret
    exact ⟨_, rfl, Hfin.out.1, Hfin.out.2⟩

set_option maxHeartbeats 1000000 in
theorem index_any (A : Option Addr) (len cap : Nat) (l : List (Int × Int)) (w : World) (hl : l.length = len) (hm : len ≤ 6) (hR : RgA w.heap.size w A l)
    (fg : Nat) (cb : Array Value) (eg : ∀ args w, (callFunc fg args).run Try.prog w = .ok (.enter fg args) w) (pd : Int × Int → Bool)
    (hC : ∀ W q1 q2, Below w.heap.size w W → Calls Try.prog fg (#[.agg #[.int .i64 q1, .int .u64 q2]] ++ cb) W (Ret (.bool (pd (q1, q2))) W)) :
    Calls Try.prog 60 #[.slice A len cap, .func (.func fg) #[] cb] w (Ret (.int .i64 (idxB pd l)) w) := by
  have HR := Lib.hid hR; have Hl := Lib.hid hl; have HC := Lib.hid hC
  clear hR hl hC
  go_enter Try.func60, Try.ntmps60
  go_wp2
  go_loopg [8, 5] len (fun m i _ wr => ∃ k : Nat, m = len - k ∧ k ≤ len ∧ i = .int .i64 k ∧ Below w.heap.size w wr ∧ Hid (∀ j, j < k → ∀ q : Int × Int, l[j]? = some q → pd q = false))
  case atStart => exact ⟨0, rfl, by omega, rfl, Below.refl _ _, Lib.hid fun j hj => absurd hj (by omega)⟩
  case round =>
    obtain ⟨k, rfl, hk, rfl, hb, hno⟩ := hrel
    by_cases hlt : k < len
    · have hltz : (k : Int) < (len : Int) := by omega
      obtain ⟨q, hq⟩ : ∃ q, l[k]? = some q := ⟨_, List.getElem?_eq_getElem (by rw [Hl.out]; exact hlt)⟩
      rcases HR.out.below hb with h0 | ⟨b, o, rfl, hbN, hc⟩
      · rw [h0] at hq; simp at hq
      obtain ⟨c0, c1⟩ := hc k q hq
      have hcall := HC.out wr q.1 q.2 hb
      have HB := Lib.hid hb; have HQ := Lib.hid hq
      clear hc hb hq
      obtain ⟨q1, q2⟩ := q
      simp only at c0 c1 hcall
      cases hp : pd (q1, q2) with
      | true =>
        rw [hp] at hcall
        have HCall := Lib.hid hcall
        have HP := Lib.hid hp
        clear hcall hp
        go_wp2_with (first
          | (go_at_fn fg; refine HCall.out.mono ?_; rintro e w3 ⟨rfl, hb3⟩; have HB3 := Lib.hid (stepB HB.out hb3); clear hb3))
        go_ret
        exact ⟨by rw [idxB_hit HQ.out HP.out hno.out]; rfl, HB3.out⟩
      | false =>
        rw [hp] at hcall
        have HCall := Lib.hid hcall
        have HP := Lib.hid hp
        clear hcall hp
        go_wp2_with (first
          | (go_at_fn fg; refine HCall.out.mono ?_; rintro e w3 ⟨rfl, hb3⟩; have HB3 := Lib.hid (stepB HB.out hb3); clear hb3))
        go_roundg (len - (k + 1))
        case measure => omega
        case rel => exact ⟨k + 1, rfl, by omega, by go_num, HB3.out, Lib.hid fun j hj q hq => by
          rcases Nat.lt_or_ge j k with h1 | h1
          · exact hno.out j h1 q hq
          · obtain rfl : j = k := by omega
            rw [HQ.out] at hq
            cases hq; exact HP.out⟩
    · obtain rfl : k = len := by omega
      have hltz : ¬ ((k : Int) < (k : Int)) := by omega
      go_wp2
      go_ret
      exact ⟨by rw [idxB_miss fun j q hj => hno.out j (by have := (List.getElem?_eq_some_iff.1 hj).1; rw [Hl.out] at this; exact this) q hj]; rfl, hb⟩

theorem contains_any (A : Option Addr) (len cap : Nat) (l : List (Int × Int)) (w : World) (hl : l.length = len) (hm : len ≤ 6) (hR : RgA w.heap.size w A l)
    (fg : Nat) (cb : Array Value) (eg : ∀ args w, (callFunc fg args).run Try.prog w = .ok (.enter fg args) w) (pd : Int × Int → Bool)
    (hC : ∀ W q1 q2, Below w.heap.size w W → Calls Try.prog fg (#[.agg #[.int .i64 q1, .int .u64 q2]] ++ cb) W (Ret (.bool (pd (q1, q2))) W)) :
    Calls Try.prog 59 #[.slice A len cap, .func (.func fg) #[] cb] w (Ret (.bool (l.any pd)) w) := by
  have hi := index_any A len cap l w hl hm hR fg cb eg pd hC
  have he := idxB_any pd l
  generalize idxB pd l = I at hi he
  have Hi := Lib.hid hi; have He := Lib.hid he
  clear hi he hC hR hl
  go_enter Try.func59, Try.ntmps59
  go_wp2_with (go_at_call 60; refine Hi.out.mono ?_; rintro e w3 ⟨rfl, hb3⟩; have HB3 := Lib.hid hb3; clear hb3)
  go_ret
  exact ⟨retB (by rw [← He.out]), HB3.out⟩

/-! ints -/
def eqN (n : Int) (q : Int) : Bool := q == n
theorem indexI_any (A : Option Addr) (len cap : Nat) (l : List Int) (w : World) (hl : l.length = len) (hm : len ≤ 6) (hR : InA w.heap.size w A l) (n : Int) (B : Nat) (hc : w.cell? ⟨B, 0, none⟩ = some (.int .i64 n)) :
    Calls Try.prog 48 #[.slice A len cap, .func (.func 32) #[] #[.pointer (some ⟨B, 0, none⟩)]] w (fun e w' => e = .returned (.int .i64 (idxB (eqN n) l)) ∧ w = w') := by
  have HR := Lib.hid hR; have Hl := Lib.hid hl; have Hc := Lib.hid hc
  clear hR hl hc
  go_enter Try.func48, Try.ntmps48
  go_wp2
  go_loopg [8, 5] len (fun m i _ wr => ∃ k : Nat, m = len - k ∧ k ≤ len ∧ i = .int .i64 k ∧ w = wr ∧ Hid (∀ j, j < k → ∀ q : Int, l[j]? = some q → eqN n q = false))
  case atStart => exact ⟨0, rfl, by omega, rfl, rfl, Lib.hid fun j hj => absurd hj (by omega)⟩
  case round =>
    obtain ⟨k, rfl, hk, rfl, rfl, hno⟩ := hrel
    by_cases hlt : k < len
    · have hltz : (k : Int) < (len : Int) := by omega
      obtain ⟨q, hq⟩ : ∃ q, l[k]? = some q := ⟨_, List.getElem?_eq_getElem (by rw [Hl.out]; exact hlt)⟩
      rcases HR.out with h0 | ⟨b, o, rfl, hbN, hcc⟩
      · rw [h0] at hq; simp at hq
      have c0 := hcc k q hq
      have HQ := Lib.hid hq
      have hcall := cloAct_any q n B w Hc.out
      clear hcc hq
      cases hp : q == n with
      | true =>
        rw [hp] at hcall
        have HCall := Lib.hid hcall
        have HP : Hid (eqN n q = true) := Lib.hid hp
        clear hcall hp
        go_wp2_with (first
          | (go_at_call 32; refine HCall.out.mono ?_; rintro e w3 ⟨rfl, rfl⟩))
        go_ret
        exact ⟨by rw [idxB_hit HQ.out HP.out hno.out]; rfl, rfl⟩
      | false =>
        rw [hp] at hcall
        have HCall := Lib.hid hcall
        have HP : Hid (eqN n q = false) := Lib.hid hp
        clear hcall hp
        go_wp2_with (first
          | (go_at_call 32; refine HCall.out.mono ?_; rintro e w3 ⟨rfl, rfl⟩))
        go_roundg (len - (k + 1))
        case measure => omega
        case rel => exact ⟨k + 1, rfl, by omega, by go_num, rfl, Lib.hid fun j hj q hq => by
          rcases Nat.lt_or_ge j k with h1 | h1
          · exact hno.out j h1 q hq
          · obtain rfl : j = k := by omega
            rw [HQ.out] at hq
            cases hq; exact HP.out⟩
    · obtain rfl : k = len := by omega
      have hltz : ¬ ((k : Int) < (k : Int)) := by omega
      go_wp2
      go_ret
      exact ⟨by rw [idxB_miss fun j q hj => hno.out j (by have := (List.getElem?_eq_some_iff.1 hj).1; rw [Hl.out] at this; exact this) q hj]; rfl, rfl⟩
end Go.Proofs.Ytkpogmigfjmacaa
