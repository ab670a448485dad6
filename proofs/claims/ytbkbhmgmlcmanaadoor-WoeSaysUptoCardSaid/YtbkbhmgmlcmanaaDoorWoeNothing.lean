/-
  'WoeNothing': its walk.
-/
import Derived.Test.YtbkbhmgmlcmanaaDoorWoeLaw
namespace Go.Proofs.YtbkbhmgmlcmanaaDoor
open Go.RowKit Go.Extern.Stop Go.Stop Go.Extern

def TruePost (w : World) (e : Ending) (w' : World) : Prop := e = .returned (.bool true) ∧ Below w.heap.size w w'

set_option maxRecDepth 100000 in
set_option maxHeartbeats 4000000 in
theorem woeNothing_any (bp : Option Addr) (ss : List ByteArray) (cap : Nat) (w : World) (hL : Laid w) (hT : Texts w.heap.size w bp ss) (hl : ss.length ≤ 140737488355328) :
    Calls Tryd.prog 6 #[.slice bp ss.length cap] w (TruePost w) := by
  obtain ⟨L, hLL⟩ : ∃ L, ss.length = L := ⟨_, rfl⟩
  have hpos := hL.pos
  have hnot : ∀ (x : Bool) (w : World), (Op.unary .not (.bool x)).run Tryd.prog w = .ok (.bool (!x)) w := fun _ _ => rfl
  rw [hLL] at hl ⊢
  go_enter Tryd.func6, Tryd.ntmps6
  go_wp2_with (first
    | (go_at_call 8; refine (stands_any w hL).mono ?_; rintro e w1 ⟨rfl, hb1⟩)
    | (go_at_call 9; rw [← hLL]; refine (few_any bp ss cap w1 ((hT.below hb1).mono hb1.size) (by omega)).mono ?_; rintro e w2 ⟨b, rfl, hb2⟩; rw [hLL]))
  · go_ret
    exact ⟨rfl, hb1.trans (hb2.mono hb1.size)⟩
  obtain rfl : b = true := by simpa using ‹(!b) = false›
  simp only [Bool.not_true]
  have hb02 := hb1.trans (hb2.mono hb1.size)
  have hT2 := hT.below hb02
  clear hT hb1 hb2 hL
  go_loopg [3, 13] L (fun g v i wr => ∃ (k : Nat), g = L - k ∧ k ≤ L ∧ i = .int .i64 k ∧ v = .nilIface ∧ wr = w2)
  case atStart => exact ⟨0, rfl, by omega, rfl, rfl, rfl⟩
  case round =>
    obtain ⟨k, rfl, hk, rfl, rfl, rfl⟩ := hrel
    by_cases hlt : k < L
    · have hlt' : (k : Int) < (L : Int) := by omega
      obtain ⟨b, o, rfl, hb, hc⟩ := hT2.resolve_left (by intro h0; rw [h0] at hLL; simp at hLL; omega)
      have hkl : k < ss.length := by omega
      have c0 := hc k ss[k] (List.getElem?_eq_getElem hkl)
      generalize ss[k] = s at c0
      clear hT2 hc
      go_wp2_with (go_at_call 19; refine (in_nil s wr).mono ?_; rintro e w3 ⟨rfl, rfl⟩)
      go_roundg (L - (k + 1))
      case measure => omega
      case rel => exact ⟨k + 1, rfl, by omega, by go_num, rfl, rfl⟩
    · obtain rfl : k = L := by omega
      have hge : ¬ ((k : Int) < (k : Int)) := by omega
      clear hT2
      go_wp2_with (first
        | (go_at_call 12; refine (number_nil wr).mono ?_; rintro e w3 ⟨rfl, hb3⟩; have hb03 := hb02.trans (hb3.mono hb02.size))
        | (go_at_call 11; refine (way_nil w3).mono ?_; rintro e w4 ⟨rfl, hb4⟩; have hb04 := hb03.trans (hb4.mono hb03.size))
        | (go_at_call 13; refine (full_nil w4).mono ?_; rintro e w5 ⟨rfl, hb5⟩; have hb05 := hb04.trans (hb5.mono hb04.size)))
      go_ret
      exact ⟨rfl, hb05⟩
end Go.Proofs.YtbkbhmgmlcmanaaDoor
