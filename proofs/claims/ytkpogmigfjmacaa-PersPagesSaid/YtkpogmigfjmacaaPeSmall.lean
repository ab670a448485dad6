/-
  pers: dropped, None, takesBy, Holds, Bars, Sound.
-/
import Derived.Test.YtkpogmigfjmacaaPeAt
set_option linter.unusedSimpArgs false
set_option linter.unusedVariables false
namespace Go.Proofs.Ytkpogmigfjmacaa
open Go.RowKit

section
variable (g h t : Int) (p : Bool) (A : Option Addr) (len cap : Nat) (l : List (Int × Int)) (w : World)
theorem dropped_any : Calls Try.prog 55 #[.agg #[.int .u32 g, .slice A len cap, .int .i64 h, .int .i64 t, .bool p]] w (Ret (.agg #[.int .u32 g, .slice A len cap, .int .i64 (-1), .int .i64 0, .bool p]) w) := by
  have hh := held_any g h t p A len cap ((w.alloc (.cells #[.int .u32 g, .slice A len cap, .int .i64 h, .int .i64 t, .bool p] 25)).alloc (.cells #[.int .u32 0, .slice none 0 0, .int .i64 0, .int .i64 0, .bool false] 25)) (-1) 0
  have hh := Lib.hid hh
  go_enter Try.func55, Try.ntmps55
  go_wp2_with (go_at_call 54; refine hh.out.mono ?_; rintro e w' ⟨rfl, hb⟩; obtain ⟨hc, hf⟩ := bcell hb)
  have hz := hb.size
  exact bodyPost_ret (v := .agg #[.int .u32 g, .slice A len cap, .int .i64 (-1), .int .i64 0, .bool p]) (by simp [results, Try.results55, go_sem, hc, hz]) rfl ⟨rfl, set5B (stepB (bel2 w _ _) hb) (by simp) _ _ _ _ _⟩
theorem none_any : Calls Try.prog 22 #[] w (Ret (.agg #[.int .u32 0, .slice none 0 0, .int .i64 (-1), .int .i64 0, .bool false]) w) := by
  go_enter Try.func22, Try.ntmps22
  go_wp2
  exact bodyPost_ret (v := .agg #[.int .u32 0, .slice none 0 0, .int .i64 (-1), .int .i64 0, .bool false]) (by simp [results, Try.results22, go_sem]) rfl ⟨rfl, (Below.refl _ _).alloc (Nat.le_refl _) _⟩

theorem takesBy_any (hl : l.length = len) (hm : len ≤ 9223372036854775807) (hR : RgA w.heap.size w A l) (x : Int) : Calls Try.prog 57 #[.agg #[.int .u32 g, .slice A len cap, .int .i64 h, .int .i64 t, .bool p], .int .u64 x] w (Ret (.bool (takesB l h t x)) w) := by
  have Hk : Hid (∀ W, Below w.heap.size w W → Calls Try.prog 42 #[.agg #[.int .u32 g, .slice A len cap, .int .i64 h, .int .i64 t, .bool p], .int .i64 h] W (Ret (.int .u64 (keyL l h)) W)) :=
    Lib.hid fun W hb => key_any g h t p A len cap l h W hl hm ((hR.below hb).mono hb.size)
  clear hl hR
  obtain ⟨kh, Hkh⟩ : ∃ kh, Hid (keyL l h = kh) := ⟨_, Lib.hid rfl⟩
  rw [Hkh.out] at Hk
  go_enter Try.func57, Try.ntmps57
  go_wp2_with (first
    | (go_at_call 36; refine (reserved_any g h t p _ _).mono ?_; rintro e w2 ⟨rfl, hb2⟩; obtain ⟨hc2, hf2⟩ := bcell hb2; have B2 := stepB (bel1 w _) hb2; clear hb2; have z2 := B2.size)
    | (go_at_call 37; refine (ofAll_any t _).mono ?_; rintro e w' ⟨rfl, rfl⟩)
    | (go_at_call 42; refine (Hk.out _ B2).mono ?_; rintro e w3 ⟨rfl, hb3⟩; have B3 := stepB B2 hb3))
  all_goals
    go_ret
    first
      | refine ⟨retB ?_, B3⟩
      | refine ⟨retB ?_, B2⟩
    simp_all [takesB, Hkh.out]
  · rfl
  · rfl

theorem holds_any (hl : l.length = len) (hm : len ≤ 9223372036854775807) (hR : RgA w.heap.size w A l) (n : Int) : Calls Try.prog 18 #[.agg #[.int .u32 g, .slice A len cap, .int .i64 h, .int .i64 t, .bool p], .int .i64 n] w (Ret (.bool (holdsB l h t n)) w) := by
  have Hk : Hid (∀ W, Below w.heap.size w W → Calls Try.prog 26 #[.agg #[.int .u32 g, .slice A len cap, .int .i64 h, .int .i64 t, .bool p], .int .i64 n] W (Ret (.bool (regB l n)) W)) :=
    Lib.hid fun W hb => registered_any g h t p A len cap l W n hl hm ((hR.below hb).mono hb.size)
  clear hl hR
  obtain ⟨kh, Hkh⟩ : ∃ kh, Hid (regB l n = kh) := ⟨_, Lib.hid rfl⟩
  rw [Hkh.out] at Hk
  go_enter Try.func18, Try.ntmps18
  go_wp2_with (first
    | (go_at_call 36; refine (reserved_any g h t p _ _).mono ?_; rintro e w2 ⟨rfl, hb2⟩; obtain ⟨hc2, hf2⟩ := bcell hb2; have B2 := stepB (bel1 w _) hb2; have z2 : w.heap.size < w2.heap.size := (by have := hb2.size; simp at this; omega); clear hb2)
    | (go_at_call 37; refine (ofAll_any t _).mono ?_; rintro e w' ⟨rfl, rfl⟩)
    | (go_at_call 26; refine (Hk.out _ B2).mono ?_; rintro e w3 ⟨rfl, hb3⟩; obtain ⟨hc3, hf3⟩ := bcell hb3; have B3 := stepB B2 hb3))
  all_goals
    go_ret
    first
      | refine ⟨retB ?_, B3⟩
      | refine ⟨retB ?_, B2⟩
    have hk := Hkh.out
    simp_all [holdsB]

set_option maxHeartbeats 1000000 in
theorem bars_any (hl : l.length = len) (hm : len ≤ 9223372036854775807) (hR : RgA w.heap.size w A l) (n d : Int) : Calls Try.prog 20 #[.agg #[.int .u32 g, .slice A len cap, .int .i64 h, .int .i64 t, .bool p], .int .i64 n, .int .i64 d] w (Ret (.bool (barsB l h t n d)) w) := by
  have Hk : Hid (∀ W, Below w.heap.size w W → Calls Try.prog 26 #[.agg #[.int .u32 g, .slice A len cap, .int .i64 h, .int .i64 t, .bool p], .int .i64 n] W (Ret (.bool (regB l n)) W)) :=
    Lib.hid fun W hb => registered_any g h t p A len cap l W n hl hm ((hR.below hb).mono hb.size)
  have Hh : Hid (∀ W, Below w.heap.size w W → Calls Try.prog 18 #[.agg #[.int .u32 g, .slice A len cap, .int .i64 h, .int .i64 t, .bool p], .int .i64 n] W (Ret (.bool (holdsB l h t n)) W)) :=
    Lib.hid fun W hb => holds_any g h t p A len cap l W hl hm ((hR.below hb).mono hb.size) n
  clear hl hR
  obtain ⟨kr, Hkr⟩ : ∃ kr, Hid (regB l n = kr) := ⟨_, Lib.hid rfl⟩
  rw [Hkr.out] at Hk
  obtain ⟨kh, Hkh⟩ : ∃ kh, Hid (holdsB l h t n = kh) := ⟨_, Lib.hid rfl⟩
  rw [Hkh.out] at Hh
  go_enter Try.func20, Try.ntmps20
  go_wp2_with (first
    | (go_at_call 36; refine (reserved_any g h t p _ _).mono ?_; rintro e w2 ⟨rfl, hb2⟩; obtain ⟨hc2, hf2⟩ := bcell hb2; have B2 := stepB (bel1 w _) hb2; have z2 : w.heap.size < w2.heap.size := (by have := hb2.size; simp at this; omega); clear hb2)
    | (go_at_call 38; refine (ofReg_any t _).mono ?_; rintro e w' ⟨rfl, rfl⟩)
    | (go_at_call 18; refine (Hh.out _ B2).mono ?_; rintro e w3 ⟨rfl, hb3⟩; obtain ⟨hc3, hf3⟩ := bcell hb3; have B3 := stepB B2 hb3; have z3 : w.heap.size < w3.heap.size := (by have := hb3.size; omega); clear hb3)
    | (go_at_call 26; refine (Hk.out _ B3).mono ?_; rintro e w4 ⟨rfl, hb4⟩; obtain ⟨hc4, hf4⟩ := bcell hb4; have B4 := stepB B3 hb4))
  all_goals
    go_ret
    first
      | refine ⟨retB ?_, B4⟩
      | refine ⟨retB ?_, B3⟩
      | refine ⟨retB ?_, B2⟩
    have hk := Hkh.out
    have hr := Hkr.out
    simp only [barsB, hk, hr]
    first | (simp_all [writesB]; done) | (simp_all [writesB]; rfl)
end
end Go.Proofs.Ytkpogmigfjmacaa
