/-
  'WoeTells': its walk.
-/
import Derived.Test.YtbkbhmgmlcmanaaDoorWoeNothing
namespace Go.Proofs.YtbkbhmgmlcmanaaDoor
open Go.RowKit Go.Extern.Stop Go.Stop Go.Extern

set_option maxRecDepth 100000 in
set_option maxHeartbeats 4000000 in
theorem woeTells_any (n : Int) (bp : Option Addr) (ss : List ByteArray) (cap : Nat) (w : World) (hL : Laid w) (hT : Texts w.heap.size w bp ss) (hl : ss.length ≤ 1048576) :
    Calls Tryd.prog 3 #[.int .i64 n, .slice bp ss.length cap] w (TruePost w) := by
  obtain ⟨L, hLL⟩ : ∃ L, ss.length = L := ⟨_, rfl⟩
  have hpos := hL.pos
  have hnot : ∀ (x : Bool) (w : World), (Op.unary .not (.bool x)).run Tryd.prog w = .ok (.bool (!x)) w := fun _ _ => rfl
  rw [hLL] at hl ⊢
  go_enter Tryd.func3, Tryd.ntmps3
  go_wp2_with (first
    | (go_at_call 8; refine (stands_any w hL).mono ?_; rintro e w1 ⟨rfl, hb1⟩)
    | (go_at_call 9; rw [← hLL]; refine (few_any bp ss cap w1 ((hT.below hb1).mono hb1.size) (by omega)).mono ?_; rintro e w2 ⟨b, rfl, hb2⟩; rw [hLL]))
  · go_ret
    exact ⟨rfl, hb1.trans (hb2.mono hb1.size)⟩
  obtain rfl : b = true := by simpa using ‹(!b) = false›
  simp only [Bool.not_true]
  have hb02 := hb1.trans (hb2.mono hb1.size)
  have hT2 := hT.below hb02
  have hLd2 := hL.below hpos hb02
  clear hT hb1 hb2 hL
  go_wp2_with (first
    | (go_at_call 10; rw [← hLL]; refine (made_any n bp ss cap w2 (hT2.mono hb02.size) (by omega)).mono ?_; rintro e w3 ⟨v, rfl, hC3, hb3⟩; rw [hLL]
       have hb03 := hb02.trans (hb3.mono hb02.size)
       have hLd3 := hLd2.below hLd2.pos hb3
       have hT3 := hT2.below (hb3.mono hb02.size)
       clear hb3 hLd2 hT2)
    | (go_at_call 11; refine (way_any n ss v w3 hLd3 hC3 (by omega)).mono ?_; rintro e w4 ⟨bp2, cap2, rfl, hb4, hW4⟩; rw [hLL]
       have hb04 := hb03.trans (hb4.mono hb03.size)
       have hLd4 := hLd3.below hLd3.pos hb4
       have hC4 := (hC3.below hb4).mono hb4.size
       have hT4 := hT3.below (hb4.mono hb03.size)
       clear hb4 hLd3 hC3 hT3)
    | (go_at_call 12; refine (number_any n ss v w4 hLd4 hC4 (by omega)).mono ?_; rintro e w5 ⟨rfl, hb5⟩
       have hb05 := hb04.trans (hb5.mono hb04.size)
       have hC5 := (hC4.below hb5).mono hb5.size
       have hT5 := hT4.below (hb5.mono hb04.size)
       have hW5 := hW4.below hb5
       clear hb5 hLd4 hC4 hT4 hW4))
  go_loopg [7, 8, 32] L (fun g a c i wr => ∃ (k : Nat), g = L - k ∧ k ≤ L ∧ i = .int .i64 k ∧ wr = w5)
  case atStart => exact ⟨0, rfl, by omega, rfl, rfl⟩
  case round =>
    obtain ⟨k, rfl, hk, rfl, rfl⟩ := hrel
    by_cases hlt : k < L
    · have hlt' : (k : Int) < (L : Int) := by omega
      have hkl : k < ss.length := by omega
      have hne : ss ≠ [] := by intro h0; rw [h0] at hkl; simp at hkl
      obtain ⟨b, o, rfl, hb, hc⟩ := hT5.resolve_left hne
      obtain ⟨b2, o2, rfl, hb2, hc2⟩ := hW5.resolve_left hne
      have c0 := hc k ss[k] (List.getElem?_eq_getElem hkl)
      have c2 := hc2 k ss[k] (List.getElem?_eq_getElem hkl)
      generalize ss[k] = s at c0 c2
      clear hT5 hW5 hc hc2 hC5 hne
      go_wp2
      go_roundg (L - (k + 1))
      case measure => omega
      case rel => exact ⟨k + 1, rfl, by omega, by go_num, rfl⟩
    · obtain rfl : k = L := by omega
      have hge : ¬ ((k : Int) < (k : Int)) := by omega
      clear hT5 hW5
      have hfull := full_any n ss v wr hC5 (by omega)
      have hcases : (n = 20) ∨ (n ≠ 20 ∧ n = 21) ∨ (n ≠ 20 ∧ n ≠ 21) := by omega
      rcases hcases with hn | ⟨hn, hn2⟩ | ⟨hn, hn2⟩
      · have ef : fullB n = true := by simp [fullB, hn]
        rw [ef] at hfull
        go_wp2_with (go_at_call 13; refine hfull.mono ?_; rintro e w6 ⟨rfl, hb6⟩)
        go_ret
        exact ⟨rfl, hb05.trans (hb6.mono hb05.size)⟩
      · have ef : fullB n = true := by simp [fullB, hn2]
        rw [ef] at hfull
        go_wp2_with (go_at_call 13; refine hfull.mono ?_; rintro e w6 ⟨rfl, hb6⟩)
        go_ret
        exact ⟨rfl, hb05.trans (hb6.mono hb05.size)⟩
      · have e1 : (n == 20) = false := by simpa using hn
        have e2 : (n == 21) = false := by simpa using hn2
        have ef : fullB n = (n == 22) := by simp [fullB, e1, e2]
        rw [ef] at hfull
        go_wp2_with (go_at_call 13; refine hfull.mono ?_; rintro e w6 ⟨rfl, hb6⟩)
        go_ret
        exact ⟨by simp <;> omega, hb05.trans (hb6.mono hb05.size)⟩
end Go.Proofs.YtbkbhmgmlcmanaaDoor
