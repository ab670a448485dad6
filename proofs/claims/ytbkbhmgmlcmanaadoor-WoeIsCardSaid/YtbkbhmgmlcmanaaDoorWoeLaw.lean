/-
  The law's own: stands, few, made.
-/
import Derived.Test.YtbkbhmgmlcmanaaDoorWoeWay2
namespace Go.Proofs.YtbkbhmgmlcmanaaDoor
open Go.RowKit Go.Extern.Stop Go.Stop Go.Extern

theorem in_more (s : ByteArray) (n : Int) (ss : List ByteArray) (v : Value) (w : World) (h : Chain w.heap.size w n ss v) :
    Calls Tryd.prog 19 #[.string s, v] w fun e w' => e = .returned (.iface 33 (.pointer (some ⟨w.heap.size, 0, none⟩))) ∧ Chain w'.heap.size w' n (s :: ss) (.iface 33 (.pointer (some ⟨w.heap.size, 0, none⟩))) ∧ Below w.heap.size w w' := by
  obtain ⟨t, x, rfl⟩ := h.iface
  refine (in_held s t x w).mono ?_
  rintro e w' ⟨rfl, rfl⟩
  have hb : Below w.heap.size w (w.alloc (.cells #[.string s, .iface t x] 39)) := (Below.refl _ w).alloc (Nat.le_refl _) _
  exact ⟨rfl, ⟨w.heap.size, _, rfl, by simp, by simp, by simp, (h.below hb).mono hb.size⟩, hb⟩

set_option maxRecDepth 100000 in
set_option maxHeartbeats 4000000 in
theorem stands_any (w : World) (hL : Laid w) : Calls Tryd.prog 8 #[] w fun e w' => e = .returned (.bool true) ∧ Below w.heap.size w w' := by
  have hpos := hL.pos
  go_enter Tryd.func8, Tryd.ntmps8
  go_wp2_with (first
    | (go_at_call 19; have H := in_more ⟨#[98]⟩ 10 [] (.iface 22 (.int .i64 10)) w rfl; (with_reducible refine H.mono ?_); clear H; rintro e w1 ⟨rfl, hC1, hb1⟩
       have hL1 := hL.below hpos hb1
       clear hL)
    | (go_at_call 19; have H := in_more ⟨#[97]⟩ 10 [⟨#[98]⟩] _ w1 hC1; (with_reducible refine H.mono ?_); clear H; rintro e w2 ⟨rfl, hC2, hb2⟩
       have hb02 := hb1.trans (hb2.mono hb1.size)
       have hL2 := hL1.below hL1.pos hb2
       have hq : ∀ W : World, (binOp .neq 27 (.iface 33 (.pointer (some ⟨w1.heap.size, 0, none⟩))) .nilIface).run Tryd.prog W = .ok (.bool true) W := fun W => run_neq_held_nil W 27 _ _ Tryd.methodsError
       clear hC1 hL1)
    | (go_at_call 12; refine (number_any 10 _ _ w2 hL2 hC2 (by simp)).mono ?_; rintro e w3 ⟨rfl, hb3⟩
       have hb03 := hb02.trans (hb3.mono hb02.size)
       have hL3 := hL2.below hL2.pos hb3
       have hC3 := (hC2.below hb3).mono hb3.size
       clear hL2 hC2)
    | (go_at_call 11; refine (way_any 10 _ _ w3 hL3 hC3 (by simp)).mono ?_; rintro e w4 ⟨bp, cap, rfl, hb4, hT4⟩
       have hb04 := hb03.trans (hb4.mono hb03.size)
       clear hL3 hC3 hT4)
    | (go_at_call 19; have H := in_nil ⟨#[97]⟩ w4; (with_reducible refine H.mono ?_); clear H; rintro e w5 ⟨rfl, rfl⟩)
    | (go_at_call 12; refine (number_nil w5).mono ?_; rintro e w6 ⟨rfl, hb6⟩
       have hb06 := hb04.trans (hb6.mono hb04.size)))
  go_ret
  exact ⟨rfl, hb06⟩

def BoolPost (w : World) (e : Ending) (w' : World) : Prop := ∃ b : Bool, e = .returned (.bool b) ∧ Below w.heap.size w w'

/-- few answers, whatever it is. -/
theorem few_any (bp : Option Addr) (ss : List ByteArray) (cap : Nat) (w : World) (hT : Texts w.heap.size w bp ss) (hl : ss.length ≤ 140737488355328) :
    Calls Tryd.prog 9 #[.slice bp ss.length cap] w (BoolPost w) := by
  obtain ⟨L, hL⟩ : ∃ L, ss.length = L := ⟨_, rfl⟩
  rw [hL] at hl ⊢
  go_enter Tryd.func9, Tryd.ntmps9
  go_wp2
  go_loopg [3, 10] L (fun g v i wr => ∃ (k : Nat) (z : Int), g = L - k ∧ k ≤ L ∧ i = .int .i64 k ∧ v = .int .i64 z ∧ wr = w)
  case atStart => exact ⟨0, _, rfl, by omega, rfl, rfl, rfl⟩
  case round =>
    obtain ⟨k, z, rfl, hk, rfl, rfl, rfl⟩ := hrel
    by_cases hlt : k < L
    · have hlt' : (k : Int) < (L : Int) := by omega
      obtain ⟨b, o, rfl, hb, hc⟩ := hT.resolve_left (by intro h0; rw [h0] at hL; simp at hL; omega)
      have hkl : k < ss.length := by omega
      have c0 := hc k ss[k] (List.getElem?_eq_getElem hkl)
      generalize ss[k] = s at c0
      have HT := Lib.hid hc
      clear hT hc
      go_wp2
      go_roundg (L - (k + 1))
      case measure => omega
      case rel => exact ⟨k + 1, _, rfl, by omega, by go_num, rfl, rfl⟩
    · obtain rfl : k = L := by omega
      have hge : ¬ ((k : Int) < (k : Int)) := by omega
      clear hT
      go_wp2
      go_ret
      exact ⟨_, rfl, Below.refl _ _⟩

/-- made makes the chain. -/
theorem made_any (n : Int) (bp : Option Addr) (ss : List ByteArray) (cap : Nat) (w : World) (hT : Texts w.heap.size w bp ss) (hl : ss.length ≤ 140737488355328) :
    Calls Tryd.prog 10 #[.int .i64 n, .slice bp ss.length cap] w fun e w' => ∃ v, e = .returned v ∧ Chain w'.heap.size w' n ss v ∧ Below w.heap.size w w' := by
  obtain ⟨L, hL⟩ : ∃ L, ss.length = L := ⟨_, rfl⟩
  rw [hL] at hl ⊢
  have hw1 : IntKind.i64.wrap ((L : Int) - 1) = (L : Int) - 1 := IntWalk.i64_in _ (by omega)
  go_enter Tryd.func10, Tryd.ntmps10
  go_wp2
  go_loopg [5, 6] L (fun g v i wr => ∃ (k : Nat) (x : Value), k = g ∧ k ≤ L ∧ i = .int .i64 ((k : Int) - 1) ∧ x = v ∧ Chain wr.heap.size wr n (ss.drop k) x ∧ Below w.heap.size w wr)
  case atStart => exact ⟨L, _, rfl, by omega, rfl, rfl, by rw [← hL, List.drop_length]; rfl, Below.refl _ _⟩
  case round =>
    obtain ⟨k, x, rfl, hk, rfl, rfl, hC, hb⟩ := hrel
    rcases k with _ | k
    · have hge : ¬ ((0 : Int) ≤ ((0 : Nat) : Int) - 1) := by omega
      go_wp2
      go_ret
      exact ⟨_, rfl, hC, hb⟩
    · have e1 : ((k + 1 : Nat) : Int) - 1 = (k : Int) := by omega
      rw [e1]
      have hge : (0 : Int) ≤ (k : Int) := by omega
      have hlt : (k : Int) < (L : Int) := by omega
      have hw2 : IntKind.i64.wrap ((k : Int) - 1) = (k : Int) - 1 := IntWalk.i64_in _ (by omega)
      obtain ⟨b, o, rfl, hbl, hc⟩ := hT.resolve_left (by intro h0; rw [h0] at hL; simp at hL; omega)
      have hkl : k < ss.length := by omega
      have c0 := (hb.cell (p := ⟨b, o + k, none⟩) hbl).trans (hc k ss[k] (List.getElem?_eq_getElem hkl))
      have hd : ss.drop k = ss[k] :: ss.drop (k + 1) := List.drop_eq_getElem_cons hkl
      have HD := Lib.hid hd
      generalize ss[k] = s at c0 HD
      clear hT hc hd e1
      go_wp2_with (go_at_call 19; refine (in_more s n _ _ wr hC).mono ?_; rintro e w1 ⟨rfl, hC1, hb1⟩)
      go_roundg k
      case measure => omega
      case rel => exact ⟨k, _, rfl, by omega, rfl, rfl, by rw [HD.out]; exact hC1, hb.trans (hb1.mono hb.size)⟩
end Go.Proofs.YtbkbhmgmlcmanaaDoor
