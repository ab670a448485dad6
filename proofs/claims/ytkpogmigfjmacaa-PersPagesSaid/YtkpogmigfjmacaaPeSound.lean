/-
  pers.Sound, of whatever table.
-/
import Derived.Test.YtkpogmigfjmacaaPeSmall
set_option linter.unusedSimpArgs false
set_option linter.unusedVariables false
namespace Go.Proofs.Ytkpogmigfjmacaa
open Go.RowKit

section
variable (g h t : Int) (p : Bool) (A : Option Addr) (len cap : Nat) (l : List (Int × Int)) (w : World)
set_option maxHeartbeats 2000000 in
theorem sound_any (hl : l.length = len) (hm : len ≤ 9223372036854775807) (hR : RgA w.heap.size w A l) : Calls Try.prog 11 #[.agg #[.int .u32 g, .slice A len cap, .int .i64 h, .int .i64 t, .bool p]] w (Ret (.bool (soundB l h t)) w) := by
  have Hk : Hid (∀ W, Below w.heap.size w W → Calls Try.prog 26 #[.agg #[.int .u32 g, .slice A len cap, .int .i64 h, .int .i64 t, .bool p], .int .i64 h] W (Ret (.bool (regB l h)) W)) :=
    Lib.hid fun W hb => registered_any g h t p A len cap l W h hl hm ((hR.below hb).mono hb.size)
  have HR := Lib.hid hR; have Hl := Lib.hid hl
  clear hl hR
  obtain ⟨kr, Hkr⟩ : ∃ kr, Hid (regB l h = kr) := ⟨_, Lib.hid rfl⟩
  rw [Hkr.out] at Hk
  by_cases h6 : 6 < len
  · have hz : lenB l = false := by unfold lenB; rw [Hl.out]; simpa using h6
    have HZ := Lib.hid hz
    have h6z : (6 : Int) < (len : Int) := by omega
    clear hz
    go_enter Try.func11, Try.ntmps11
    go_wp2
    go_ret
    exact ⟨retB (by simp [soundB, HZ.out]), bel1 w _⟩
  have h6z : ¬ (6 : Int) < (len : Int) := by omega
  have hz : lenB l = true := by unfold lenB; rw [Hl.out]; simpa using h6
  have HZ := Lib.hid hz
  clear hz
  go_enter Try.func11, Try.ntmps11
  go_wp2
  go_loopg [13, 3] len (fun m i v wr => ∃ (k : Nat) (n : Int), m = len - k ∧ k ≤ len ∧ i = .int .i64 k ∧ v = .int .i64 n ∧ Below (w.heap.size + 1) (w.alloc (.cells #[.int .u32 g, .slice A len cap, .int .i64 h, .int .i64 t, .bool p] 25)) wr ∧ Hid (riseB l (-1) = riseB (l.drop k) n))
  case atStart => exact ⟨0, -1, rfl, by omega, rfl, rfl, by simpa using Below.refl _ _, Lib.hid rfl⟩
  case round =>
    obtain ⟨k, n, rfl, hk, rfl, rfl, hb, hno⟩ := hrel
    have hbw : Below w.heap.size w wr := (bel1 w _).trans (hb.mono (by omega))
    by_cases hlt : k < len
    · have hltz : (k : Int) < (len : Int) := by omega
      obtain ⟨q, hq⟩ : ∃ q, l[k]? = some q := ⟨_, List.getElem?_eq_getElem (by rw [Hl.out]; exact hlt)⟩
      rcases HR.out.below hbw with h0 | ⟨b, o, rfl, hbN, hc⟩
      · rw [h0] at hq; simp at hq
      obtain ⟨c0, c1⟩ := hc k q hq
      have HB := Lib.hid hb; have HQ := Lib.hid hq; have HW := Lib.hid hbw
      clear hc hb hq hbw
      obtain ⟨q1, q2⟩ := q
      simp only at c0 c1
      by_cases a1 : q1 ≤ n
      · go_wp2
        go_ret
        exact ⟨retB (by rw [soundB, hno.out, riseB_drop HQ.out]; simp; omega), HW.out.alloc HW.out.size _⟩
      have a1' : n < q1 := by omega
      by_cases a2 : 8 ≤ q1
      · go_wp2
        go_ret
        exact ⟨retB (by rw [soundB, hno.out, riseB_drop HQ.out]; simp; omega), HW.out.alloc HW.out.size _⟩
      have a2' : q1 < 8 := by omega
      by_cases a3 : q2 = 0
      · go_wp2
        go_ret
        exact ⟨retB (by rw [soundB, hno.out, riseB_drop HQ.out]; simp [a3]), HW.out.alloc HW.out.size _⟩
      · have a3' : (q2 == 0) = false := by simpa using a3
        have H3 := Lib.hid a3
        clear a3
        go_wp2
        go_roundg (len - (k + 1))
        case measure => omega
        case rel => exact ⟨k + 1, q1, rfl, by omega, by go_num, rfl, HB.out.alloc (by have := HB.out.size; simpa using this) _, Lib.hid (by rw [hno.out, riseB_drop HQ.out]; simp [a1', a2', H3.out])⟩
    · obtain rfl : k = len := by omega
      have hltz : ¬ ((k : Int) < (k : Int)) := by omega
      have hr : riseB l (-1) = true := by rw [hno.out, List.drop_eq_nil_of_le (by rw [Hl.out]; exact Nat.le_refl _)]; rfl
      have Hr := Lib.hid hr
      obtain ⟨hc, hf⟩ := bcell (W := w.alloc (.cells #[.int .u32 g, .slice A k cap, .int .i64 h, .int .i64 t, .bool p] 25)) (w1 := wr) (by simpa using hb)
      clear hr hb
      have Hs : Hid (soundB l h t = (if t = 0 then decide (h = -1) else isTyB t && kr)) := Lib.hid (by rw [soundB, HZ.out, Hr.out, Hkr.out]; rfl)
      go_wp2_with (first
        | (go_at_call 25; refine (isType_any t _).mono ?_; rintro e w' ⟨rfl, rfl⟩)
        | (go_at_call 26; refine (Hk.out _ hbw).mono ?_; rintro e w3 ⟨rfl, hb3⟩; have B3 := stepB hbw hb3; clear hb3))
      all_goals
        go_ret
        first
          | refine ⟨retB ?_, B3⟩
          | refine ⟨retB ?_, hbw⟩
        have hs := Hs.out
        rw [hs]
        clear hc hf
        first | (simp_all; done) | (simp_all; rfl)
end
end Go.Proofs.Ytkpogmigfjmacaa
