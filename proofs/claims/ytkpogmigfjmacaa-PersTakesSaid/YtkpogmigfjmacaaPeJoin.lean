/-
  Joining and leaving again, plain.
-/
import Derived.Test.YtkpogmigfjmacaaPeSnd
set_option linter.unusedSimpArgs false
set_option linter.unusedVariables false
namespace Go.Proofs.Ytkpogmigfjmacaa
open Go.RowKit

theorem act_join {T : Tb} (hs : soundB T.l T.h T.t = true) {n r : Int} (hk : keyL T.l n = 0) (hr : r ≠ 0) (hl : T.l.length ≠ 6) : actL T n 0 0 0 r T.p = (⟨nextG T.g, withL T.l n r, T.h, T.t, T.p⟩, 0, []) := by
  have h6 := (sound_iff.1 hs).1
  unfold actL regL
  rw [if_pos (Or.inl rfl), if_neg (by rintro ⟨_, e⟩; exact e hk.symm), if_neg (fun e => hr e.2), if_neg (fun e => by have := e.2; omega), if_neg hr]
theorem withL_len3 : ∀ {l : List (Int × Int)} {m n x : Int} (_ : riseB l m = true) (_ : keyL l n = 0), (withL l n x).length = l.length + 1
  | [], _, _, _, _, _ => rfl
  | r :: l, m, n, x, h, hk => by
    obtain ⟨ha, hb⟩ := rise_cons.1 h
    rw [keyL] at hk
    by_cases e2 : r.1 = n
    · rw [if_pos e2] at hk; exact absurd hk ha.2.2
    · rw [if_neg e2] at hk
      rw [withL]
      by_cases e : r.1 < n
      · rw [if_pos e]; simp only [List.length_cons, withL_len3 hb hk]
      · rw [if_neg e, if_neg e2]; simp only [List.length_cons]
theorem left_with {l : List (Int × Int)} (h2 : riseB l (-1) = true) {n r : Int} (hn0 : 0 ≤ n) (hn8 : n < 8) (hk : keyL l n = 0) (hr : r ≠ 0) : leftOf (isN n) (withL l n r) = l := by
  have hw := rise_with (x := r) h2 (show (-1 : Int) < n by omega) hn8 hr
  refine rise_ext (rise_left hw) h2 fun i => ?_
  rw [keyL_left hw, keyL_with h2]
  by_cases e : i = n
  · subst e; simp [smOf, isN, hk]
  · have e1 : smOf (isN n) (withL l n r) i = false := by simp [smOf, isN, e]
    rw [e1, if_neg e]; simp
theorem keepN_isN (n : Int) (L : List (Int × Int)) : keepN n (goneOf (isN n) L) = [] := by
  refine List.filter_eq_nil_iff.2 fun x hx => ?_
  obtain ⟨q, hq, rfl⟩ := List.mem_map.1 hx
  have := (List.mem_filter.1 hq).2
  simp only [isN, beq_iff_eq] at this
  simp [eqN, this]
theorem rem_same {l : List (Int × Int)} {h t : Int} (hs : soundB l h t = true) : remH l h t = h ∧ remT l h t = t := by
  have e : (resB t && !regB l h) = false := by
    rcases (sound_iff.1 hs).2.2 with ⟨rfl, _⟩ | ⟨_, _, hk⟩
    · rfl
    · simp [regB, hk]
  unfold remH remT
  rw [e]; exact ⟨rfl, rfl⟩
theorem act_leave {g h t : Int} {p : Bool} {l : List (Int × Int)} (hs : soundB l h t = true) {n r : Int} (hn0 : 0 ≤ n) (hn8 : n < 8) (hk : keyL l n = 0) (hr : r ≠ 0) :
    actL ⟨g, withL l n r, h, t, p⟩ n 0 0 r 0 p = (⟨nextG g, l, h, t, p⟩, 0, goneOf (isN n) (withL l n r)) := by
  have h2 := (sound_iff.1 hs).2.1
  have e1 : keyL (withL l n r) n = r := by rw [keyL_with h2, if_pos rfl]
  have e2 := left_with h2 hn0 hn8 hk hr
  obtain ⟨e3, e4⟩ := rem_same hs
  unfold actL regL
  rw [if_pos (Or.inl rfl), if_neg (by rintro ⟨_, e⟩; exact e e1.symm), if_neg (fun e => hr (e1.symm.trans e.1)), if_neg (fun e => hr (e1.symm.trans e.1)), if_pos rfl]
  simp only [remTb, e2, e3, e4]
theorem join_sound {l : List (Int × Int)} {h t : Int} (hs : soundB l h t = true) {n r : Int} (hn0 : 0 ≤ n) (hn8 : n < 8) (hk : keyL l n = 0) (hr : r ≠ 0) (hl : l.length ≠ 6) : soundB (withL l n r) h t = true := by
  have h1 := (act_sound (T := ⟨0, l, h, t, false⟩) hs n 0 0 0 r hn0 hn8 false).1
  rw [act_join (T := ⟨0, l, h, t, false⟩) hs hk hr hl] at h1
  exact h1
theorem next2 (g : Int) : nextG (nextG g) = IntKind.u32.wrap (g + 2) := by
  unfold nextG
  simp only [IntKind.wrap_u32]
  omega
end Go.Proofs.Ytkpogmigfjmacaa
