/-
  Same, Ints: of equal ones they are true.
-/
import Derived.Test.YtkpogmigfjmacaaPeRHolds
set_option linter.unusedSimpArgs false
set_option linter.unusedVariables false
namespace Go.Proofs.Ytkpogmigfjmacaa
open Go.RowKit

set_option maxHeartbeats 2000000 in
theorem ints_any (A B : Option Addr) (len c1 c2 : Nat) (l : List Int) (w : World) (hl : l.length = len) (hm : len ≤ 6) (h1 : InA w.heap.size w A l) (h2 : InA w.heap.size w B l) :
    Calls Try.prog 17 #[.slice A len c1, .slice B len c2] w (Ret (.bool true) w) := by
  have H1 := Lib.hid h1; have H2 := Lib.hid h2; have Hl := Lib.hid hl
  clear h1 h2 hl
  go_enter Try.func17, Try.ntmps17
  go_wp2
  go_loopg [5] 6 (fun m i wr => ∃ k : Nat, len - k ≤ m ∧ k ≤ len ∧ i = .int .i64 k ∧ Below w.heap.size w wr)
  case atStart => exact ⟨0, by omega, by omega, rfl, Below.refl _ _⟩
  case round =>
    obtain ⟨k, hmk, hk, rfl, hb⟩ := hrel
    by_cases hlt : k < len
    · have hltz : (k : Int) < (len : Int) := by omega
      obtain ⟨q, hq⟩ : ∃ q, l[k]? = some q := ⟨_, List.getElem?_eq_getElem (by rw [Hl.out]; exact hlt)⟩
      rcases H1.out.below hb with h0 | ⟨b, o, rfl, hbN, hc⟩
      · rw [h0] at hq; simp at hq
      rcases H2.out.below hb with h0 | ⟨b', o', rfl, hbN', hc'⟩
      · rw [h0] at hq; simp at hq
      have c0 := hc k q hq
      have c1 := hc' k q hq
      have HB := Lib.hid hb
      clear hc hc' hq hb
      have hqq : (q != q) = false := by simp
      go_wp2
      go_quiet (fail)
      go_wp2
      go_roundg (len - (k + 1))
      case measure => omega
      case rel => exact ⟨k + 1, Nat.le_refl _, by omega, by go_num, below_drewN HB.out _⟩
    · obtain rfl : k = len := by omega
      have hltz : ¬ ((k : Int) < (k : Int)) := by omega
      go_wp2
      go_ret
      exact ⟨rfl, hb⟩

set_option maxHeartbeats 4000000 in
set_option maxRecDepth 100000 in
theorem same_any (T : Tb) (A B : Option Addr) (n1 n2 c1 c2 : Nat) (w : World) (hm : T.l.length ≤ 6) (h1 : SlR w A n1 c1 T.l) (h2 : SlR w B n2 c2 T.l) :
    Calls Try.prog 16 #[.agg #[.int .u32 T.g, .slice A n1 c1, .int .i64 T.h, .int .i64 T.t, .bool T.p], .agg #[.int .u32 T.g, .slice B n2 c2, .int .i64 T.h, .int .i64 T.t, .bool T.p]] w (Ret (.bool true) w) := by
  obtain ⟨g, l, h, t, p⟩ := T
  simp only at hm h1 h2 ⊢
  obtain ⟨len, Hl⟩ : ∃ len, Hid (l.length = len) := ⟨_, Lib.hid rfl⟩
  have e1 : len = n1 := by rw [← Hl.out]; exact h1.1
  have e2 : len = n2 := by rw [← Hl.out]; exact h2.1
  subst e1 e2
  rw [Hl.out] at hm
  have H1 := Lib.hid h1; have H2 := Lib.hid h2
  clear h1 h2
  have hpp : (p != p) = false := by simp
  have hgg : (g != g) = false := by simp
  have hhh : (h != h) = false := by simp
  have htt : (t != t) = false := by simp
  have hll : ((len : Int) != (len : Int)) = false := by simp

  go_enter Try.func16, Try.ntmps16
  go_wp2
  have hz := heap_alloc2 w (.cells #[.int .u32 g, .slice A len c1, .int .i64 h, .int .i64 t, .bool p] 25) (.cells #[.int .u32 g, .slice B len c2, .int .i64 h, .int .i64 t, .bool p] 25)
  have HZ := Lib.hid hz
  clear hz
  go_loopg [5] 6 (fun m i wr => ∃ k : Nat, len - k ≤ m ∧ k ≤ len ∧ i = .int .i64 k ∧ Below (w.heap.size + 2) ((w.alloc (.cells #[.int .u32 g, .slice A len c1, .int .i64 h, .int .i64 t, .bool p] 25)).alloc (.cells #[.int .u32 g, .slice B len c2, .int .i64 h, .int .i64 t, .bool p] 25)) wr)
  case atStart => exact ⟨0, by omega, by omega, rfl, by simpa using Below.refl _ _⟩
  case round =>
    obtain ⟨k, hmk, hk, rfl, hb⟩ := hrel
    have hbw : Below w.heap.size w wr := (bel2 w _ _).trans (hb.mono (by omega))
    have hx := (hb.block w.heap.size (by omega)).trans HZ.out.1
    have hy := (hb.block (w.heap.size + 1) (by omega)).trans HZ.out.2
    obtain ⟨xl, x0, x1, x2, x3, x4, xf⟩ := box5 hx
    obtain ⟨yl, y0, y1, y2, y3, y4, yf⟩ := box5 hy
    have HB := Lib.hid hb
    clear hx hy hb
    by_cases hlt : k < len
    · have hltz : (k : Int) < (len : Int) := by omega
      obtain ⟨q, hq⟩ : ∃ q, l[k]? = some q := ⟨_, List.getElem?_eq_getElem (by rw [Hl.out]; exact hlt)⟩
      rcases (H1.out.below hbw).2.2.2 with h0 | ⟨b, o, rfl, hbN, hc⟩
      · rw [h0] at hq; simp at hq
      rcases (H2.out.below hbw).2.2.2 with h0 | ⟨b', o', rfl, hbN', hc'⟩
      · rw [h0] at hq; simp at hq
      obtain ⟨c0, c1⟩ := hc k q hq
      obtain ⟨d0, d1⟩ := hc' k q hq
      have HBw := Lib.hid hbw
      clear hc hc' hq hbw
      obtain ⟨q1, q2⟩ := q
      simp only at c0 c1 d0 d1
      go_wp2
      go_quiet (fail)
      go_wp2
      go_roundg (len - (k + 1))
      case measure => omega
      case rel => exact ⟨k + 1, Nat.le_refl _, by omega, by go_num, below_drewN HB.out _⟩
    · obtain rfl : k = len := by omega
      have hltz : ¬ ((k : Int) < (k : Int)) := by omega
      go_wp2
      go_ret
      exact ⟨rfl, hbw⟩
end Go.Proofs.Ytkpogmigfjmacaa
