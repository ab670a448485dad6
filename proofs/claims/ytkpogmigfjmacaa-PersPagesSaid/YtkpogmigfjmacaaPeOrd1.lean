/-
  pers: reserve, release, clearAll.
-/
import Derived.Test.YtkpogmigfjmacaaPeMath2
import Derived.Test.YtkpogmigfjmacaaPeRemove
import Derived.Deep.Cut
set_option linter.unusedSimpArgs false
set_option linter.unusedVariables false
namespace Go.Proofs.Ytkpogmigfjmacaa
open Go.RowKit

section
variable (T : Tb) (A : Option Addr) (len cap : Nat) (w : World)
set_option maxHeartbeats 2000000 in
theorem reserve_any (hS : SlR w A len cap T.l) (hm : len ≤ 6) (n k : Int) :
    Calls Try.prog 44 #[.agg #[.int .u32 T.g, .slice A len cap, .int .i64 T.h, .int .i64 T.t, .bool T.p], .int .i64 n, .int .i64 k] w (ActP w A len cap T.l (resvL (T) n k)) := by
  obtain ⟨g, l, h, t, p⟩ := T
  simp only at hS
  obtain ⟨R, HR⟩ : ∃ R, Hid (resvL (⟨g, l, h, t, p⟩) n k = R) := ⟨_, Lib.hid rfl⟩
  rw [HR.out]
  have Kh : Hid (∀ W, Below w.heap.size w W → Calls Try.prog 18 #[.agg #[.int .u32 g, .slice A len cap, .int .i64 h, .int .i64 t, .bool p], .int .i64 n] W (Ret (.bool (holdsB l h t n)) W)) :=
    Lib.hid fun W hb => holds_any g h t p A len cap l W hS.1 (by omega) (hS.below hb).2.2.2 n
  have HS := Lib.hid hS
  clear hS
  obtain ⟨hb, Hhb⟩ : ∃ hb, Hid (holdsB l h t n = hb) := ⟨_, Lib.hid rfl⟩
  rw [Hhb.out] at Kh
  have K1 : Hid (∀ W, Calls Try.prog 36 #[.agg #[.int .u32 g, .slice A len cap, .int .i64 h, .int .i64 t, .bool p]] W (Ret (.bool (resB t)) W)) := Lib.hid fun W => reserved_any g h t p W _
  obtain ⟨rb, Hrb⟩ : ∃ rb, Hid (resB t = rb) := ⟨_, Lib.hid rfl⟩
  rw [Hrb.out] at K1
  have K2 : Hid (∀ W, Calls Try.prog 25 #[.int .i64 k] W (fun e w' => e = .returned (.bool (isTyB k)) ∧ W = w')) := Lib.hid fun W => isType_any k W
  obtain ⟨tb, Htb⟩ : ∃ tb, Hid (isTyB k = tb) := ⟨_, Lib.hid rfl⟩
  rw [Htb.out] at K2
  cases tb with
  | false =>
    have e : R = (⟨g, l, h, t, p⟩, 2, []) := by rw [← HR.out]; rw [resvL, if_pos Htb.out]
    subst e
    go_enter Try.func44, Try.ntmps44
    go_wp2_with (first
      | (go_at_call 25; refine (K2.out _).mono ?_; rintro e w' ⟨rfl, rfl⟩)
      | (go_at_call 36; refine (K1.out _).mono ?_; rintro e w2 ⟨rfl, hb2⟩; obtain ⟨hc2, hf2⟩ := bcell hb2; have B2 := stepB (bel2 w _ _) hb2; have z2 : w.heap.size + 1 < w2.heap.size := (by have := hb2.size; simp at this; omega); have y2 : w.heap.size < w2.heap.size := (by omega); clear hb2)
      | (go_at_call 54; refine (held_any g h t p A len cap _ n k).mono ?_; rintro e w3 ⟨rfl, hb3⟩; obtain ⟨hc3, hf3⟩ := bcell hb3; have B3 := stepB B2 hb3; have z3 : w.heap.size + 1 < w3.heap.size := (by have := hb3.size; omega); have y3 : w.heap.size < w3.heap.size := (by omega); clear hb3)
      | (go_at_call 18; refine (Kh.out _ B2).mono ?_; rintro e w4 ⟨rfl, hb4⟩; obtain ⟨hc4, hf4⟩ := bcell hb4; have B4 := stepB B2 hb4; have z4 : w.heap.size + 1 < w4.heap.size := (by have := hb4.size; omega); have y4 : w.heap.size < w4.heap.size := (by omega); clear hb4))
    exact bodyPost_ret (v := .tuple #[.agg #[.int .u32 (g), .slice A len cap, .int .i64 (h), .int .i64 (t), .bool p], .int .i64 2, .slice none 0 0]) (by simp [results, Try.results44, go_sem]) rfl ⟨A, len, cap, _, rfl, (.inl ⟨rfl, rfl, rfl, rfl⟩), OwnI.nil _ _, bel2 w _ _⟩
  | true =>
    cases rb with
    | false =>
      have e : R = (⟨g, l, n, k, p⟩, 0, []) := by rw [← HR.out]; rw [resvL, if_neg (by rw [Htb.out]; simp), if_pos Hrb.out]
      subst e
      go_enter Try.func44, Try.ntmps44
      go_wp2_with (first
        | (go_at_call 25; refine (K2.out _).mono ?_; rintro e w' ⟨rfl, rfl⟩)
        | (go_at_call 36; refine (K1.out _).mono ?_; rintro e w2 ⟨rfl, hb2⟩; obtain ⟨hc2, hf2⟩ := bcell hb2; have B2 := stepB (bel2 w _ _) hb2; have z2 : w.heap.size + 1 < w2.heap.size := (by have := hb2.size; simp at this; omega); have y2 : w.heap.size < w2.heap.size := (by omega); clear hb2)
        | (go_at_call 54; refine (held_any g h t p A len cap _ n k).mono ?_; rintro e w3 ⟨rfl, hb3⟩; obtain ⟨hc3, hf3⟩ := bcell hb3; have B3 := stepB B2 hb3; have z3 : w.heap.size + 1 < w3.heap.size := (by have := hb3.size; omega); have y3 : w.heap.size < w3.heap.size := (by omega); clear hb3)
        | (go_at_call 18; refine (Kh.out _ B2).mono ?_; rintro e w4 ⟨rfl, hb4⟩; obtain ⟨hc4, hf4⟩ := bcell hb4; have B4 := stepB B2 hb4; have z4 : w.heap.size + 1 < w4.heap.size := (by have := hb4.size; omega); have y4 : w.heap.size < w4.heap.size := (by omega); clear hb4))
      exact bodyPost_ret (v := .tuple #[.agg #[.int .u32 (g), .slice A len cap, .int .i64 (n), .int .i64 (k), .bool p], .int .i64 0, .slice none 0 0]) (by simp [results, Try.results44, go_sem, hc2, y2, z2, hc3, y3, z3]) rfl ⟨A, len, cap, _, rfl, (.inl ⟨rfl, rfl, rfl, rfl⟩), OwnI.nil _ _, set5B B3 (by omega) _ _ _ _ _⟩
    | true =>
      cases hb with
      | false =>
        have e : R = (⟨g, l, h, t, p⟩, 24, []) := by rw [← HR.out]; rw [resvL, if_neg (by rw [Htb.out]; simp), if_neg (by show ¬ resB t = false; rw [Hrb.out]; simp), if_pos (show holdsB l h t n = false from Hhb.out)]
        subst e
        go_enter Try.func44, Try.ntmps44
        go_wp2_with (first
          | (go_at_call 25; refine (K2.out _).mono ?_; rintro e w' ⟨rfl, rfl⟩)
          | (go_at_call 36; refine (K1.out _).mono ?_; rintro e w2 ⟨rfl, hb2⟩; obtain ⟨hc2, hf2⟩ := bcell hb2; have B2 := stepB (bel2 w _ _) hb2; have z2 : w.heap.size + 1 < w2.heap.size := (by have := hb2.size; simp at this; omega); have y2 : w.heap.size < w2.heap.size := (by omega); clear hb2)
          | (go_at_call 54; refine (held_any g h t p A len cap _ n k).mono ?_; rintro e w3 ⟨rfl, hb3⟩; obtain ⟨hc3, hf3⟩ := bcell hb3; have B3 := stepB B2 hb3; have z3 : w.heap.size + 1 < w3.heap.size := (by have := hb3.size; omega); have y3 : w.heap.size < w3.heap.size := (by omega); clear hb3)
          | (go_at_call 18; refine (Kh.out _ B2).mono ?_; rintro e w4 ⟨rfl, hb4⟩; obtain ⟨hc4, hf4⟩ := bcell hb4; have B4 := stepB B2 hb4; have z4 : w.heap.size + 1 < w4.heap.size := (by have := hb4.size; omega); have y4 : w.heap.size < w4.heap.size := (by omega); clear hb4))
        exact bodyPost_ret (v := .tuple #[.agg #[.int .u32 (g), .slice A len cap, .int .i64 (h), .int .i64 (t), .bool p], .int .i64 24, .slice none 0 0]) (by simp [results, Try.results44, go_sem, hc2, y2, z2, hc4, y4, z4]) rfl ⟨A, len, cap, _, rfl, (.inl ⟨rfl, rfl, rfl, rfl⟩), OwnI.nil _ _, set5B B4 (by omega) _ _ _ _ _⟩
      | true =>
        by_cases hkt : k = t
        · have hd : (k == t) = true := by simpa using hkt
          have hd2 : (k != t) = false := by simpa using hkt
          have e : R = (⟨g, l, h, t, p⟩, 0, []) := by rw [← HR.out]; rw [resvL, if_neg (by rw [Htb.out]; simp), if_neg (by show ¬ resB t = false; rw [Hrb.out]; simp), if_neg (by show ¬ holdsB l h t n = false; rw [Hhb.out]; simp), if_pos (show k = t from hkt)]
          subst e
          clear hkt
          go_enter Try.func44, Try.ntmps44
          go_wp2_with (first
            | (go_at_call 25; refine (K2.out _).mono ?_; rintro e w' ⟨rfl, rfl⟩)
            | (go_at_call 36; refine (K1.out _).mono ?_; rintro e w2 ⟨rfl, hb2⟩; obtain ⟨hc2, hf2⟩ := bcell hb2; have B2 := stepB (bel2 w _ _) hb2; have z2 : w.heap.size + 1 < w2.heap.size := (by have := hb2.size; simp at this; omega); have y2 : w.heap.size < w2.heap.size := (by omega); clear hb2)
            | (go_at_call 54; refine (held_any g h t p A len cap _ n k).mono ?_; rintro e w3 ⟨rfl, hb3⟩; obtain ⟨hc3, hf3⟩ := bcell hb3; have B3 := stepB B2 hb3; have z3 : w.heap.size + 1 < w3.heap.size := (by have := hb3.size; omega); have y3 : w.heap.size < w3.heap.size := (by omega); clear hb3)
            | (go_at_call 18; refine (Kh.out _ B2).mono ?_; rintro e w4 ⟨rfl, hb4⟩; obtain ⟨hc4, hf4⟩ := bcell hb4; have B4 := stepB B2 hb4; have z4 : w.heap.size + 1 < w4.heap.size := (by have := hb4.size; omega); have y4 : w.heap.size < w4.heap.size := (by omega); clear hb4))
          exact bodyPost_ret (v := .tuple #[.agg #[.int .u32 (g), .slice A len cap, .int .i64 (h), .int .i64 (t), .bool p], .int .i64 0, .slice none 0 0]) (by simp [results, Try.results44, go_sem, hc2, y2, z2, hc4, y4, z4]) rfl ⟨A, len, cap, _, rfl, (.inl ⟨rfl, rfl, rfl, rfl⟩), OwnI.nil _ _, set5B B4 (by omega) _ _ _ _ _⟩
        · have hd : (k == t) = false := by simpa using hkt
          have hd2 : (k != t) = true := by simpa using hkt
          have e : R = (⟨g, l, h, t, p⟩, 24, []) := by rw [← HR.out]; rw [resvL, if_neg (by rw [Htb.out]; simp), if_neg (by show ¬ resB t = false; rw [Hrb.out]; simp), if_neg (by show ¬ holdsB l h t n = false; rw [Hhb.out]; simp), if_neg (show ¬ k = t from hkt)]
          subst e
          clear hkt
          go_enter Try.func44, Try.ntmps44
          go_wp2_with (first
            | (go_at_call 25; refine (K2.out _).mono ?_; rintro e w' ⟨rfl, rfl⟩)
            | (go_at_call 36; refine (K1.out _).mono ?_; rintro e w2 ⟨rfl, hb2⟩; obtain ⟨hc2, hf2⟩ := bcell hb2; have B2 := stepB (bel2 w _ _) hb2; have z2 : w.heap.size + 1 < w2.heap.size := (by have := hb2.size; simp at this; omega); have y2 : w.heap.size < w2.heap.size := (by omega); clear hb2)
            | (go_at_call 54; refine (held_any g h t p A len cap _ n k).mono ?_; rintro e w3 ⟨rfl, hb3⟩; obtain ⟨hc3, hf3⟩ := bcell hb3; have B3 := stepB B2 hb3; have z3 : w.heap.size + 1 < w3.heap.size := (by have := hb3.size; omega); have y3 : w.heap.size < w3.heap.size := (by omega); clear hb3)
            | (go_at_call 18; refine (Kh.out _ B2).mono ?_; rintro e w4 ⟨rfl, hb4⟩; obtain ⟨hc4, hf4⟩ := bcell hb4; have B4 := stepB B2 hb4; have z4 : w.heap.size + 1 < w4.heap.size := (by have := hb4.size; omega); have y4 : w.heap.size < w4.heap.size := (by omega); clear hb4))
          exact bodyPost_ret (v := .tuple #[.agg #[.int .u32 (g), .slice A len cap, .int .i64 (h), .int .i64 (t), .bool p], .int .i64 24, .slice none 0 0]) (by simp [results, Try.results44, go_sem, hc2, y2, z2, hc4, y4, z4]) rfl ⟨A, len, cap, _, rfl, (.inl ⟨rfl, rfl, rfl, rfl⟩), OwnI.nil _ _, set5B B4 (by omega) _ _ _ _ _⟩

set_option maxHeartbeats 2000000 in
theorem release_any (hS : SlR w A len cap T.l) (hm : len ≤ 6) (n k : Int) :
    Calls Try.prog 45 #[.agg #[.int .u32 T.g, .slice A len cap, .int .i64 T.h, .int .i64 T.t, .bool T.p], .int .i64 n, .int .i64 k] w (ActP w A len cap T.l (relsL (T) n k)) := by
  obtain ⟨g, l, h, t, p⟩ := T
  simp only at hS
  obtain ⟨R, HR⟩ : ∃ R, Hid (relsL (⟨g, l, h, t, p⟩) n k = R) := ⟨_, Lib.hid rfl⟩
  rw [HR.out]
  have Kh : Hid (∀ W, Below w.heap.size w W → Calls Try.prog 18 #[.agg #[.int .u32 g, .slice A len cap, .int .i64 h, .int .i64 t, .bool p], .int .i64 n] W (Ret (.bool (holdsB l h t n)) W)) :=
    Lib.hid fun W hb => holds_any g h t p A len cap l W hS.1 (by omega) (hS.below hb).2.2.2 n
  have HS := Lib.hid hS
  clear hS
  obtain ⟨hb, Hhb⟩ : ∃ hb, Hid (holdsB l h t n = hb) := ⟨_, Lib.hid rfl⟩
  rw [Hhb.out] at Kh
  cases hb with
  | false =>
    have e : R = (⟨g, l, h, t, p⟩, 0, []) := by rw [← HR.out]; rw [relsL, if_pos (show holdsB l h t n = false from Hhb.out)]
    subst e
    go_enter Try.func45, Try.ntmps45
    go_wp2_with (first
      | (go_at_call 18; refine (Kh.out _ (bel2 w _ _)).mono ?_; rintro e w2 ⟨rfl, hb2⟩; obtain ⟨hc2, hf2⟩ := bcell hb2; have B2 := stepB (bel2 w _ _) hb2; have z2 : w.heap.size + 1 < w2.heap.size := (by have := hb2.size; simp at this; omega); have y2 : w.heap.size < w2.heap.size := (by omega); clear hb2)
      | (go_at_call 55; refine (dropped_any g h t p A len cap _).mono ?_; rintro e w3 ⟨rfl, hb3⟩; obtain ⟨hc3, hf3⟩ := bcell hb3; have B3 := stepB B2 hb3; have z3 : w.heap.size + 1 < w3.heap.size := (by have := hb3.size; omega); have y3 : w.heap.size < w3.heap.size := (by omega); clear hb3))
    exact bodyPost_ret (v := .tuple #[.agg #[.int .u32 (g), .slice A len cap, .int .i64 (h), .int .i64 (t), .bool p], .int .i64 0, .slice none 0 0]) (by simp [results, Try.results45, go_sem, hc2, y2, z2]) rfl ⟨A, len, cap, _, rfl, (.inl ⟨rfl, rfl, rfl, rfl⟩), OwnI.nil _ _, set5B B2 (by omega) _ _ _ _ _⟩
  | true =>
    by_cases hkt : k = t
    · have hd : (k == t) = true := by simpa using hkt
      have hd2 : (k != t) = false := by simpa using hkt
      have e : R = (⟨g, l, -1, 0, p⟩, 0, []) := by rw [← HR.out]; rw [relsL, if_neg (by show ¬ holdsB l h t n = false; rw [Hhb.out]; simp), if_pos (show k = t from hkt)]
      subst e
      clear hkt
      go_enter Try.func45, Try.ntmps45
      go_wp2_with (first
        | (go_at_call 18; refine (Kh.out _ (bel2 w _ _)).mono ?_; rintro e w2 ⟨rfl, hb2⟩; obtain ⟨hc2, hf2⟩ := bcell hb2; have B2 := stepB (bel2 w _ _) hb2; have z2 : w.heap.size + 1 < w2.heap.size := (by have := hb2.size; simp at this; omega); have y2 : w.heap.size < w2.heap.size := (by omega); clear hb2)
        | (go_at_call 55; refine (dropped_any g h t p A len cap _).mono ?_; rintro e w3 ⟨rfl, hb3⟩; obtain ⟨hc3, hf3⟩ := bcell hb3; have B3 := stepB B2 hb3; have z3 : w.heap.size + 1 < w3.heap.size := (by have := hb3.size; omega); have y3 : w.heap.size < w3.heap.size := (by omega); clear hb3))
      exact bodyPost_ret (v := .tuple #[.agg #[.int .u32 (g), .slice A len cap, .int .i64 (-1), .int .i64 (0), .bool p], .int .i64 0, .slice none 0 0]) (by simp [results, Try.results45, go_sem, hc2, y2, z2, hc3, y3, z3]) rfl ⟨A, len, cap, _, rfl, (.inl ⟨rfl, rfl, rfl, rfl⟩), OwnI.nil _ _, set5B B3 (by omega) _ _ _ _ _⟩
    · have hd : (k == t) = false := by simpa using hkt
      have hd2 : (k != t) = true := by simpa using hkt
      have e : R = (⟨g, l, h, t, p⟩, 2, []) := by rw [← HR.out]; rw [relsL, if_neg (by show ¬ holdsB l h t n = false; rw [Hhb.out]; simp), if_neg (show ¬ k = t from hkt)]
      subst e
      clear hkt
      go_enter Try.func45, Try.ntmps45
      go_wp2_with (first
        | (go_at_call 18; refine (Kh.out _ (bel2 w _ _)).mono ?_; rintro e w2 ⟨rfl, hb2⟩; obtain ⟨hc2, hf2⟩ := bcell hb2; have B2 := stepB (bel2 w _ _) hb2; have z2 : w.heap.size + 1 < w2.heap.size := (by have := hb2.size; simp at this; omega); have y2 : w.heap.size < w2.heap.size := (by omega); clear hb2)
        | (go_at_call 55; refine (dropped_any g h t p A len cap _).mono ?_; rintro e w3 ⟨rfl, hb3⟩; obtain ⟨hc3, hf3⟩ := bcell hb3; have B3 := stepB B2 hb3; have z3 : w.heap.size + 1 < w3.heap.size := (by have := hb3.size; omega); have y3 : w.heap.size < w3.heap.size := (by omega); clear hb3))
      exact bodyPost_ret (v := .tuple #[.agg #[.int .u32 (g), .slice A len cap, .int .i64 (h), .int .i64 (t), .bool p], .int .i64 2, .slice none 0 0]) (by simp [results, Try.results45, go_sem, hc2, y2, z2]) rfl ⟨A, len, cap, _, rfl, (.inl ⟨rfl, rfl, rfl, rfl⟩), OwnI.nil _ _, set5B B2 (by omega) _ _ _ _ _⟩

set_option maxHeartbeats 2000000 in
theorem clear_any (hS : SlR w A len cap T.l) (hm : len ≤ 6)  :
    Calls Try.prog 46 #[.agg #[.int .u32 T.g, .slice A len cap, .int .i64 T.h, .int .i64 T.t, .bool T.p]] w (ActP w A len cap T.l (clrL T)) := by
  obtain ⟨g, l, h, t, p⟩ := T
  simp only at hS
  obtain ⟨R, HR⟩ : ∃ R, Hid (clrL ⟨g, l, h, t, p⟩ = R) := ⟨_, Lib.hid rfl⟩
  rw [HR.out]
  have egc : ∀ args w, (callFunc 56 args).run Try.prog w = .ok (.enter 56 args) w := enters_of Try.func56 (by kernel_rfl) rfl
  have Krm : Hid (∀ W, Below w.heap.size w W → Calls Try.prog 51 #[.agg #[.int .u32 g, .slice A len cap, .int .i64 h, .int .i64 t, .bool p], .func (.func 56) #[] #[]] W
      (RemP W g (leftOf (fun _ => true) l) (remH (leftOf (fun _ => true) l) h t) (remT (leftOf (fun _ => true) l) h t) p (goneOf (fun _ => true) l))) :=
    Lib.hid fun W hb => remove_any g h t p A len cap l W hS.1 hm (hS.below hb).2.2.2 56 #[] egc (fun _ => true) (fun W' q1 q2 _ => cloClear_any q1 q2 W')
  have HS := Lib.hid hS
  clear hS egc
  obtain ⟨l', Hl'⟩ : ∃ x, Hid (leftOf (fun _ => true) l = x) := ⟨_, Lib.hid rfl⟩
  rw [Hl'.out] at Krm
  obtain ⟨h', Hh'⟩ : ∃ x, Hid (remH l' h t = x) := ⟨_, Lib.hid rfl⟩
  obtain ⟨t', Ht'⟩ : ∃ x, Hid (remT l' h t = x) := ⟨_, Lib.hid rfl⟩
  obtain ⟨gn, Hgn⟩ : ∃ x, Hid (goneOf (fun _ => true) l = x) := ⟨_, Lib.hid rfl⟩
  rw [Hh'.out, Ht'.out, Hgn.out] at Krm
  have e : R = (⟨nextG g, l', h', t', p⟩, 0, gn) := by
    rw [← HR.out, clrL, remTb]
    simp only [Hh'.out, Ht'.out, Hl'.out, Hgn.out]
  subst e
  go_enter Try.func46, Try.ntmps46
  go_upto_region 2 with (go_at_call 51; refine (Krm.out _ (bel2 w _ _)).mono ?_; rintro e w2 ⟨v, u, rfl, ho, hi, hb2⟩; obtain ⟨A2, c2, rfl, hs2⟩ := ho.sl; obtain ⟨hc2, hf2⟩ := bcell hb2; have B2 := stepB (bel2 w _ _) hb2; have Ho := Lib.hid ho; have Hi := Lib.hid hi; have Hb2 := Lib.hid hb2; clear hb2 hs2 ho hi)
  have ha := heap_alloc2 w (.cells #[.int .u32 g, .slice A len cap, .int .i64 h, .int .i64 t, .bool p] 25) (.cells #[.int .u32 0, .slice none 0 0, .int .i64 0, .int .i64 0, .bool false] 25)
  have hx2 := (Hb2.out.block w.heap.size (by simp; omega)).trans ha.1
  have hy2 := (Hb2.out.block (w.heap.size + 1) (by simp)).trans ha.2
  have hx3 := set5_heap hx2 (.int .u32 g) (.slice A2 l'.length c2) (.int .i64 h') (.int .i64 t') (.bool p)
  have hy3 := (set5_other (w := w2) (b := w.heap.size) (j := w.heap.size + 1) (by omega) (.int .u32 g) (.slice A2 l'.length c2) (.int .i64 h') (.int .i64 t') (.bool p)).trans hy2
  have B3 := set5B B2 (Nat.le_refl w.heap.size) (.int .u32 g) (.slice A2 l'.length c2) (.int .i64 h') (.int .i64 t') (.bool p)
  have o3 := (Ho.out.lower (B' := w.heap.size + 2) (by simp)).set5 (b := w.heap.size) (by omega) (.int .u32 g) (.slice A2 l'.length c2) (.int .i64 h') (.int .i64 t') (.bool p)
  have i3 := (Hi.out.lower (B' := w.heap.size + 2) (by simp)).set5 (b := w.heap.size) (by omega) (.int .u32 g) (.slice A2 l'.length c2) (.int .i64 h') (.int .i64 t') (.bool p)
  generalize ((((w2.setCell ⟨w.heap.size, 0, none⟩ (.int .u32 g)).setCell ⟨w.heap.size, 1, none⟩ (.slice A2 l'.length c2)).setCell ⟨w.heap.size, 2, none⟩ (.int .i64 h')).setCell ⟨w.heap.size, 3, none⟩ (.int .i64 t')).setCell ⟨w.heap.size, 4, none⟩ (.bool p) = w3 at hx3 hy3 B3 o3 i3 ⊢
  obtain ⟨xl, x0, x1, x2, x3, x4, xf⟩ := box5 hx3
  obtain ⟨yl, y0, y1, y2, y3, y4, yf⟩ := box5 hy3
  have HO3 := Lib.hid o3; have HI3 := Lib.hid i3; have HB3 := Lib.hid B3
  clear ha hx2 hy2 hx3 hy3 B3 o3 i3 hc2 hf2 B2
  obtain ⟨G, HG⟩ : ∃ G, Hid (nextG g = G) := ⟨_, Lib.hid rfl⟩
  have hw : IntKind.u32.wrap (g + 1) = G := HG.out
  go_wp2
  obtain rfl := HG.out
  have ho4 := (HO3.out.set (p := ⟨w.heap.size, 0, none⟩) (by show w.heap.size < _; omega) (.int .u32 (nextG g))).set5 (b := w.heap.size + 1) (by omega) (.int .u32 (nextG g)) (.slice A2 l'.length c2) (.int .i64 h') (.int .i64 t') (.bool p)
  have hi4 := (HI3.out.set (p := ⟨w.heap.size, 0, none⟩) (by show w.heap.size < _; omega) (.int .u32 (nextG g))).set5 (b := w.heap.size + 1) (by omega) (.int .u32 (nextG g)) (.slice A2 l'.length c2) (.int .i64 h') (.int .i64 t') (.bool p)
  exact bodyPost_ret (v := .tuple #[.agg #[.int .u32 (nextG g), .slice A2 l'.length c2, .int .i64 h', .int .i64 t', .bool p], .int .i64 0, u]) (by simp [results, Try.results46, go_sem, y0, y1, y2, y3, y4, yl, xl]) rfl
    ⟨A2, _, c2, u, rfl, (.inr (ho4.lower (by omega))), hi4.lower (by omega), set5B (HB3.out.setCell (p := ⟨w.heap.size, 0, none⟩) (Nat.le_refl _) _) (by omega) _ _ _ _ _⟩
end
end Go.Proofs.Ytkpogmigfjmacaa
