/-
  'WoeSays': its walk.
-/
import Derived.Test.YtbkbhmgmlcmanaaDoorWoeError
import Derived.Test.YtbkbhmgmlcmanaaDoorWoeNothing
namespace Go.Proofs.YtbkbhmgmlcmanaaDoor
open Go.RowKit Go.Extern.Stop Go.Stop Go.Extern

theorem ba_list (s : ByteArray) (l : List UInt8) (h : s.data.toList = l) : s = ⟨l.toArray⟩ := by
  apply ByteArray.ext
  rw [← h]

/-- A chain has no block whose first cell is a pointer. -/
theorem Chain.sets {N m : Nat} {p : Option Addr} {x : Value} {w w' : World} {n : Int} (hS : Sets ⟨m, 0, none⟩ x w w') (hc : w.cell? ⟨m, 0, none⟩ = some (.pointer p)) (hN : N ≤ w.heap.size) : ∀ {ss : List ByteArray} {v : Value}, Chain N w n ss v → Chain N w' n ss v
  | [], _, h => h
  | _ :: _, _, ⟨b, y, hv, hlt, h0, h1, hr⟩ => by
    have hne : b ≠ m := fun e => by rw [e, hc] at h0; cases h0
    have hb : w'.heap[b]? = w.heap[b]? := hS.grown.block b (by omega) (fun e => hne (by simpa using e))
    exact ⟨b, y, hv, hlt, (World.cell?_of_block (w := w) (a := ⟨b, 0, none⟩) hb).trans h0, (World.cell?_of_block (w := w) (a := ⟨b, 1, none⟩) hb).trans h1, Chain.sets hS hc hN hr⟩

set_option maxRecDepth 100000 in
set_option maxHeartbeats 4000000 in
theorem woeSays_any (n : Int) (bp : Option Addr) (ss : List ByteArray) (cap : Nat) (w : World) (hL : Laid w) (hTab : Tab w) (hT : Texts w.heap.size w bp ss) (hl : ssize ss + ss.length ≤ 1048576) (h0 : -9223372036854775808 ≤ n) (h1 : n ≤ 9223372036854775807) :
    Calls Tryd.prog 5 #[.int .i64 n, .slice bp ss.length cap] w (TruePost w) := by
  obtain ⟨L, hLL⟩ : ∃ L, ss.length = L := ⟨_, rfl⟩
  have hpos := hL.pos
  have hnot : ∀ (x : Bool) (w : World), (Op.unary .not (.bool x)).run Tryd.prog w = .ok (.bool (!x)) w := fun _ _ => rfl
  have hitoa : (Lib.itoa n).length ≤ 21 := Lib.itoa_length_le n h0 h1
  rw [hLL]
  go_enter Tryd.func5, Tryd.ntmps5
  go_wp2_with (first
    | (go_at_call 8; refine (stands_any w hL).mono ?_; rintro e w1 ⟨rfl, hb1⟩)
    | (go_at_call 9; rw [← hLL]; refine (few_any bp ss cap w1 ((hT.below hb1).mono hb1.size) (by omega)).mono ?_))
  rintro e w2 ⟨b, rfl, hb2⟩
  have hb02 := hb1.trans (hb2.mono hb1.size)
  have hT2 := hT.below hb02
  have hLd2 := hL.below hpos hb02
  have hTab2 := hTab.below hTab.pos hb02
  clear hT hb1 hb2 hL
  rw [hLL]
  rcases b with _ | _
  · go_wp2
    go_ret
    exact ⟨rfl, hb02⟩
  rcases Nat.eq_zero_or_pos L with hz | hp
  · have hz' : (L : Int) = 0 := by omega
    subst hz
    go_wp2
    go_ret
    exact ⟨rfl, hb02⟩
  have hp' : ¬ ((L : Int) = 0) := by omega
  have hpd : decide ((L : Int) = 0) = false := by simp; omega
  go_wp2_with (go_at_call 16; refine (itoa_any n h0 h1 w2 hTab2).mono ?_; rintro e w3 ⟨rfl, hb3⟩)
  have hw1 : IntKind.i64.wrap ((L : Int) - 1) = (L : Int) - 1 := IntWalk.i64_in _ (by omega)
  have hb03 := hb02.trans (hb3.mono hb02.size)
  have hT3 := hT2.below (hb3.mono hb02.size)
  have hLd3 := hLd2.below hLd2.pos hb3
  have hTab3 := hTab2.below hTab2.pos hb3
  have hlen : (places ss ++ said n).length ≤ 3145800 := by
    rw [List.length_append, places_length, said, List.length_append]
    simp only [List.length_cons, List.length_nil]
    omega
  clear hb3 hT2 hLd2 hTab2 hb02
  go_loopg [5, 6] L (fun g v i wr => ∃ (k : Nat) (q : ByteArray), k = g ∧ k ≤ L ∧ i = .int .i64 ((k : Int) - 1) ∧ v = .string q ∧ q.data.toList = places (ss.drop k) ++ said n ∧ wr = w3)
  case atStart =>
    refine ⟨L, _, rfl, by omega, by first | rfl | rw [hw1], rfl, ?_, rfl⟩
    rw [← hLL, List.drop_length]
    simp [places, said]
  case round =>
    obtain ⟨k, q, rfl, hk, rfl, rfl, hq, rfl⟩ := hrel
    rcases k with _ | k
    · have hge : ¬ ((0 : Int) ≤ ((0 : Nat) : Int) - 1) := by omega
      obtain rfl := ba_list q _ hq
      clear hq
      rw [List.drop_zero]
      obtain ⟨s0, r0, hss⟩ : ∃ s0 r0, ss = s0 :: r0 := by
        cases ss with
        | nil => simp at hLL; omega
        | cons s r => exact ⟨s, r, rfl⟩
      have hb4 := (Below.refl wr.heap.size wr).alloc (Nat.le_refl _) (.cells #[.pointer none] 33)
      obtain ⟨w4, hw4⟩ : ∃ w4, w4 = wr.alloc (.cells #[.pointer none] 33) := ⟨_, rfl⟩
      have hp4 : w4.cell? ⟨wr.heap.size, 0, none⟩ = some (.pointer none) := by rw [hw4]; simp
      have hf4 : w4.frozen? ⟨wr.heap.size, 0, none⟩ = false := by rw [hw4]; simp
      have hz4 : w4.heap.size = wr.heap.size + 1 := by rw [hw4]; simp
      rw [← hw4] at hb4
      have HW4 := Lib.hid hw4
      clear hw4
      have hwr := hb03.size
      have hT4 := (hT3.below (hb4.mono hwr)).mono (Nat.le_trans hwr hb4.size)
      have hLd4 := hLd3.below hLd3.pos hb4
      have hTab4 := hTab3.below hTab3.pos hb4
      have ht3 := hTab3.pos
      clear hT3 hLd3 hTab3
      go_wp2_with (first
        | (rw [← HW4.out]; go_at_call 10; rw [← hLL]; refine (made_any n bp ss cap w4 hT4 (by omega)).mono ?_; rintro e w5 ⟨v, rfl, hC5, hb5⟩; rw [hLL]
           rw [hss] at hC5
           have hC5' := hC5
           obtain ⟨b1, y, rfl, hlt1, hs1, hy1, hCr⟩ := hC5'
           clear hCr hs1 hy1
           have hp5 := (hb5.cell (p := ⟨wr.heap.size, 0, none⟩) (by simp only; omega)).trans hp4
           have hf5 := (hb5.frozen (p := ⟨wr.heap.size, 0, none⟩) (by simp only; omega)).trans hf4
           have hz5 := hb5.size
           have hb45 := hb4.trans (hb5.mono hb4.size)
           have hLd5 := hLd4.below hLd4.pos hb5
           have hTab5 := hTab4.below hTab4.pos hb5
           clear hT4 hLd4 hTab4 hp4 hf4)
        | (go_at_call 14; refine (as_outer b1 (.pointer none) ⟨wr.heap.size, 0, none⟩ w5 hLd5 hp5 hf5).mono ?_))
      rintro e w6 ⟨rfl, hS6⟩
      have hb56 := hS6.below (B := wr.heap.size) (by omega) (by simp)
      have hr6 := hS6.cell
      have hz6 := hS6.grown.size
      have hC6 : Chain w6.heap.size w6 n (s0 :: r0) (.iface 33 (.pointer (some ⟨b1, 0, none⟩))) := (Chain.sets hS6 hp5 (Nat.le_refl _) hC5).mono hz6
      have hb46 := hb45.trans hb56
      have hLd6 := hLd5.below (by have := hLd5.pos; omega) hb56
      have hTab6 := hTab5.below ht3 hb56
      clear hC5 hLd5 hTab5 hp5 hf5 hS6 hb56
      have hb7 := (Below.refl w6.heap.size w6).alloc (Nat.le_refl _) (.cells #[.string ⟨#[120]⟩, .nilIface] 39)
      obtain ⟨w7, hw7⟩ : ∃ w7, w7 = w6.alloc (.cells #[.string ⟨#[120]⟩, .nilIface] 39) := ⟨_, rfl⟩
      have ho7 : w7.cell? ⟨w6.heap.size, 1, none⟩ = some .nilIface := by rw [hw7]; simp
      have hz7 : w7.heap.size = w6.heap.size + 1 := by rw [hw7]; simp
      rw [← hw7] at hb7
      have hr7 := (hb7.cell (p := ⟨wr.heap.size, 0, none⟩) (by simp only; omega)).trans hr6
      have hC7 := (hC6.below hb7).mono hb7.size
      have hLd7 := hLd6.below hLd6.pos hb7
      have hTab7 := hTab6.below hTab6.pos hb7
      have hb47 := hb46.trans (hb7.mono hb46.size)
      have hr7' := hr7
      rw [hw7] at hr7'
      have HW7 := Lib.hid hw7
      clear hw7 hC6 hLd6 hTab6
      have hlss : ssize (s0 :: r0) + (s0 :: r0).length ≤ 1048576 := by rw [← hss]; exact hl
      go_wp2_with (first
        | (rw [← HW7.out]; go_at_call 17; have H := error_chain n h0 h1 s0 r0 b1 w7 hLd7 hTab7 hC7 hlss; (with_reducible refine H.mono ?_); clear H; rintro e w8 ⟨rfl, hb8⟩
           have ho8 := (hb8.cell (p := ⟨w6.heap.size, 1, none⟩) (by simp only; omega)).trans ho7
           have hb48 := hb47.trans (hb8.mono hb47.size)
           clear hC7 hLd7 hTab7)
        | (go_at_call 17; have H := error_nil w8; (with_reducible refine H.mono ?_); clear H; rintro e w9 ⟨rfl, rfl⟩)
        | (go_at_call 17; have H := error_own w6.heap.size w9 ho8; (with_reducible refine H.mono ?_); clear H; rintro e w10 ⟨rfl, rfl⟩)
        | (go_at_call 18; have H := unwrap_nil w10; (with_reducible refine H.mono ?_); clear H; rintro e w11 ⟨rfl, rfl⟩)
        | (go_at_call 18; have H := unwrap_at w6.heap.size .nilIface w11 ho8; (with_reducible refine H.mono ?_); clear H; rintro e w12 ⟨rfl, rfl⟩))
      go_ret
      exact ⟨rfl, hb03.trans (hb48.mono hb03.size)⟩
    · have e1 : ((k + 1 : Nat) : Int) - 1 = (k : Int) := by omega
      rw [e1]
      have hge : (0 : Int) ≤ (k : Int) := by omega
      have hlt : (k : Int) < (L : Int) := by omega
      have hw2 : IntKind.i64.wrap ((k : Int) - 1) = (k : Int) - 1 := IntWalk.i64_in _ (by omega)
      have hkl : k < ss.length := by omega
      obtain ⟨b, o, rfl, hbl, hc⟩ := hT3.resolve_left (by intro h0; rw [h0] at hLL; simp at hLL; omega)
      have c0 := hc k ss[k] (List.getElem?_eq_getElem hkl)
      have hd : ss.drop k = ss[k] :: ss.drop (k + 1) := List.drop_eq_getElem_cons hkl
      have hpd2 : places (ss.drop k) = ss[k].data.toList ++ [58, 32] ++ places (ss.drop (k + 1)) := by rw [hd]; rfl
      have hqs : q.size + ss[k].size + 2 ≤ 3145800 := by
        have hs : ss[k].data.toList.length = ss[k].size := Array.length_toList
        have hqz : q.data.toList.length = q.size := Array.length_toList
        have hsub : (places (ss.drop k)).length ≤ (places ss).length := by
          have : places ss = places (ss.take k) ++ places (ss.drop k) := by rw [← places_append, List.take_append_drop]
          rw [this, List.length_append]; omega
        have hq2 := congrArg List.length hq
        have hp2 := congrArg List.length hpd2
        simp only [List.length_append, List.length_cons, List.length_nil] at hq2 hp2 hlen
        omega
      generalize ss[k] = s at c0 hpd2 hqs
      have HP := Lib.hid hpd2
      have HQ := Lib.hid hq
      clear hT3 hc hd e1 hpd2 hq
      go_wp2
      go_roundg k
      case measure => omega
      case rel =>
        refine ⟨k, _, rfl, by omega, rfl, rfl, ?_, rfl⟩
        rw [HP.out]
        simp [HQ.out]
end Go.Proofs.YtbkbhmgmlcmanaaDoor
