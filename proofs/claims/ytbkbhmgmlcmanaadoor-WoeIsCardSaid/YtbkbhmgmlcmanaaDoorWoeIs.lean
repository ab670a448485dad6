/-
  'WoeIs': its walk.
-/
import Derived.Test.YtbkbhmgmlcmanaaDoorWoeNothing
import Derived.Deep.QuietTactic
import Derived.BigQuiet
namespace Go.Proofs.YtbkbhmgmlcmanaaDoor
open Go.RowKit Go.Extern.Stop Go.Stop Go.Extern

set_option maxRecDepth 100000 in
set_option maxHeartbeats 4000000 in
theorem woeIs_some (n m : Int) (bp : Option Addr) (s : ByteArray) (r : List ByteArray) (cap : Nat) (w : World) (hL : Laid w) (hT : Texts w.heap.size w bp (s :: r)) (hl : (s :: r).length ≤ 140737488355328) :
    Calls Tryd.prog 4 #[.int .i64 n, .int .i64 m, .slice bp (s :: r).length cap] w (TruePost w) := by
  obtain ⟨L, hLL⟩ : ∃ L, (s :: r).length = L := ⟨_, rfl⟩
  have hpos := hL.pos
  have hnot : ∀ (x : Bool) (w : World), (Op.unary .not (.bool x)).run Tryd.prog w = .ok (.bool (!x)) w := fun _ _ => rfl
  have hL1 : 0 < L := by rw [← hLL]; simp
  have hL2 : (0 : Int) < (L : Int) := by omega
  have hL3 : ¬ ((L : Int) = 0) := by omega
  rw [hLL] at hl ⊢
  go_enter Tryd.func4, Tryd.ntmps4
  go_wp2_with (first
    | (go_at_call 8; refine (stands_any w hL).mono ?_; rintro e w1 ⟨rfl, hb1⟩)
    | (go_at_call 9; rw [← hLL]; refine (few_any bp (s :: r) cap w1 ((hT.below hb1).mono hb1.size) (by omega)).mono ?_; rintro e w2 ⟨b, rfl, hb2⟩; rw [hLL]))
  · go_ret
    exact ⟨rfl, hb1.trans (hb2.mono hb1.size)⟩
  obtain rfl : b = true := by simpa using ‹(!b) = false›
  simp only [Bool.not_true]
  have hb02 := hb1.trans (hb2.mono hb1.size)
  have hT2 := hT.below hb02
  have hLd2 := hL.below hpos hb02
  clear hT hb1 hb2 hL
  go_wp2_with (go_at_call 10; rw [← hLL]; refine (made_any n bp (s :: r) cap w2 (hT2.mono hb02.size) (by omega)).mono ?_; rintro e w3 ⟨v, rfl, hC3, hb3⟩; rw [hLL])
  obtain ⟨b1, x1, rfl, hlt1, hs1, hx1, hCx⟩ := hC3
  have hC3 : Chain w3.heap.size w3 n (s :: r) (.iface 33 (.pointer (some ⟨b1, 0, none⟩))) := ⟨b1, x1, rfl, hlt1, hs1, hx1, hCx⟩
  clear hCx hx1
  have hb03 := hb02.trans (hb3.mono hb02.size)
  have hT3 := hT2.below (hb3.mono hb02.size)
  have hLd3 := hLd2.below hLd2.pos hb3
  clear hT2 hb3 hLd2
  have hb4 := ((Below.refl w3.heap.size w3).alloc (Nat.le_refl _) (.cells #[.int .i64 0] 22)).alloc (by simp) (.cells #[.pointer none] 33)
  obtain ⟨w4, hw4⟩ : ∃ w4, w4 = (w3.alloc (.cells #[.int .i64 0] 22)).alloc (.cells #[.pointer none] 33) := ⟨_, rfl⟩
  have hn4 : w4.cell? ⟨w3.heap.size, 0, none⟩ = some (.int .i64 0) := by rw [hw4, World.cell?_alloc_lt _ _ ⟨w3.heap.size, 0, none⟩ (by simp)]; simp
  have hf4 : w4.frozen? ⟨w3.heap.size, 0, none⟩ = false := by rw [hw4]; simp [World.frozen?_alloc_old]
  have hp4 : w4.cell? ⟨w3.heap.size + 1, 0, none⟩ = some (.pointer none) := by rw [hw4]; simp
  have hg4 : w4.frozen? ⟨w3.heap.size + 1, 0, none⟩ = false := by rw [hw4]; simp
  have hz4 : w4.heap.size = w3.heap.size + 2 := by rw [hw4]; simp
  rw [← hw4] at hb4
  rw [← hw4]
  clear hw4
  have hC4 := hC3.below hb4
  have hLd4 := hLd3.below hLd3.pos hb4
  go_wp2_with (first
    | (go_at_call 14; refine (as_number n (s :: r) _ (.int .i64 0) ⟨w3.heap.size, 0, none⟩ w4 hLd4 (hC4.mono (by omega)) hn4 hf4).mono ?_; rintro e w5 ⟨rfl, hS5⟩
       have hr5 := hS5.cell
       have hb5 := hb4.trans (hS5.below (B := w3.heap.size) (by omega) (by simp))
       have hC5 := hC3.below hb5
       have hfar5 : w5.heap[w3.heap.size + 1]? = w4.heap[w3.heap.size + 1]? := hS5.grown.block _ (by omega) (by simp)
       have hp5 := (World.cell?_of_block (w := w4) (a := ⟨w3.heap.size + 1, 0, none⟩) hfar5).trans hp4
       have hg5 := (World.frozen?_of_block (w := w4) (a := ⟨w3.heap.size + 1, 0, none⟩) hfar5).trans hg4
       have hLd5 := hLd3.below hLd3.pos hb5
       have hz5 := hS5.grown.size
       clear hn4 hf4 hfar5 hp4 hg4)
    | (go_at_call 15; have H := is_number n m (s :: r) _ w5 (hC5.mono hb5.size); (with_reducible refine H.mono ?_); clear H; rintro e w6 ⟨rfl, rfl⟩)
    | (go_at_call 15; have H := is_number n n (s :: r) _ w6 (hC5.mono hb5.size); simp only [beq_self_eq_true] at H; (with_reducible refine H.mono ?_); clear H; rintro e w7 ⟨rfl, rfl⟩)
    | (go_at_call 14; have H := as_outer b1 (.pointer none) ⟨w3.heap.size + 1, 0, none⟩ w7 hLd5 hp5 hg5; (with_reducible refine H.mono ?_); clear H; rintro e w8 ⟨rfl, hS8⟩
       have hr8 := hS8.cell
       have hb8 := hb5.trans (hS8.below (B := w3.heap.size) hb5.size (by simp))
       clear hp5 hg5))
  obtain ⟨b0, o0, rfl, hlt0, hc0⟩ := hT3.resolve_left (by simp)
  have c0 : w8.cell? ⟨b0, o0, none⟩ = some (.string s) := (hb8.cell (p := ⟨b0, o0, none⟩) (Nat.lt_of_lt_of_le hlt0 hb03.size)).trans (by have := hc0 0 s rfl; simpa using this)
  have c1 : w8.cell? ⟨b1, 0, none⟩ = some (.string s) := (hb8.cell (p := ⟨b1, 0, none⟩) hlt1).trans hs1
  have hd : decide ((L : Int) = 0) = false := by simp; omega
  have hd2 : ((L : Int) == 0) = false := by simp; omega
  have hb08 := hb03.trans (hb8.mono hb03.size)
  clear hc0 hT3 hs1 hC3 hC4 hC5 hLd5 hLd4 hLd3 hb5 hb4
  go_quiet (fail)
  go_wp2
  go_ret
  exact ⟨rfl, hb08.trans ⟨rfl, rfl, rfl, Nat.le_refl _, fun _ _ => rfl⟩⟩

set_option maxRecDepth 100000 in
set_option maxHeartbeats 4000000 in
theorem woeIs_none (n m : Int) (bp : Option Addr) (cap : Nat) (w : World) (hL : Laid w) :
    Calls Tryd.prog 4 #[.int .i64 n, .int .i64 m, .slice bp 0 cap] w (TruePost w) := by
  have hpos := hL.pos
  have hnot : ∀ (x : Bool) (w : World), (Op.unary .not (.bool x)).run Tryd.prog w = .ok (.bool (!x)) w := fun _ _ => rfl
  go_enter Tryd.func4, Tryd.ntmps4
  go_wp2_with (first
    | (go_at_call 8; refine (stands_any w hL).mono ?_; rintro e w1 ⟨rfl, hb1⟩)
    | (go_at_call 9; refine (few_any bp [] cap w1 (.inl rfl) (by simp)).mono ?_; rintro e w2 ⟨b, rfl, hb2⟩))
  · go_ret
    exact ⟨rfl, hb1.trans (hb2.mono hb1.size)⟩
  obtain rfl : b = true := by simpa using ‹(!b) = false›
  simp only [Bool.not_true]
  have hb02 := hb1.trans (hb2.mono hb1.size)
  have hLd2 := hL.below hpos hb02
  clear hb1 hb2 hL
  go_wp2_with (go_at_call 10; refine (made_any n bp [] cap w2 (.inl rfl) (by simp)).mono ?_; rintro e w3 ⟨v, rfl, hC3, hb3⟩; obtain rfl := hC3)
  have hb03 := hb02.trans (hb3.mono hb02.size)
  have hLd3 := hLd2.below hLd2.pos hb3
  clear hb3 hLd2
  have hb4 := ((Below.refl w3.heap.size w3).alloc (Nat.le_refl _) (.cells #[.int .i64 0] 22)).alloc (by simp) (.cells #[.pointer none] 33)
  obtain ⟨w4, hw4⟩ : ∃ w4, w4 = (w3.alloc (.cells #[.int .i64 0] 22)).alloc (.cells #[.pointer none] 33) := ⟨_, rfl⟩
  have hn4 : w4.cell? ⟨w3.heap.size, 0, none⟩ = some (.int .i64 0) := by rw [hw4, World.cell?_alloc_lt _ _ ⟨w3.heap.size, 0, none⟩ (by simp)]; simp
  have hf4 : w4.frozen? ⟨w3.heap.size, 0, none⟩ = false := by rw [hw4]; simp [World.frozen?_alloc_old]
  have hp4 : w4.cell? ⟨w3.heap.size + 1, 0, none⟩ = some (.pointer none) := by rw [hw4]; simp
  have hg4 : w4.frozen? ⟨w3.heap.size + 1, 0, none⟩ = false := by rw [hw4]; simp
  have hz4 : w4.heap.size = w3.heap.size + 2 := by rw [hw4]; simp
  rw [← hw4] at hb4
  rw [← hw4]
  clear hw4
  have hLd4 := hLd3.below hLd3.pos hb4
  have hC : ∀ W : World, Chain W.heap.size W n [] (.iface 22 (.int .i64 n)) := fun _ => rfl
  go_wp2_with (first
    | (go_at_call 14; refine (as_number n [] _ (.int .i64 0) ⟨w3.heap.size, 0, none⟩ w4 hLd4 (hC w4) hn4 hf4).mono ?_; rintro e w5 ⟨rfl, hS5⟩
       have hr5 := hS5.cell
       have hb5 := hb4.trans (hS5.below (B := w3.heap.size) (by omega) (by simp))
       have hfar5 : w5.heap[w3.heap.size + 1]? = w4.heap[w3.heap.size + 1]? := hS5.grown.block _ (by omega) (by simp)
       have hp5 := (World.cell?_of_block (w := w4) (a := ⟨w3.heap.size + 1, 0, none⟩) hfar5).trans hp4
       have hg5 := (World.frozen?_of_block (w := w4) (a := ⟨w3.heap.size + 1, 0, none⟩) hfar5).trans hg4
       have hLd5 := hLd3.below hLd3.pos hb5
       have hz5 := hS5.grown.size
       clear hn4 hf4 hfar5 hp4 hg4)
    | (go_at_call 15; have H := is_number n m [] _ w5 (hC w5); (with_reducible refine H.mono ?_); clear H; rintro e w6 ⟨rfl, rfl⟩)
    | (go_at_call 15; have H := is_number n n [] _ w6 (hC w6); simp only [beq_self_eq_true] at H; (with_reducible refine H.mono ?_); clear H; rintro e w7 ⟨rfl, rfl⟩)
    | (go_at_call 14; have H := as_none n (.pointer none) ⟨w3.heap.size + 1, 0, none⟩ w7 hLd5 hp5 hg5; (with_reducible refine H.mono ?_); clear H; rintro e w8 ⟨rfl, hb8⟩
       have hb08 := hb03.trans ((hb5.trans (hb8.mono hb5.size)).mono hb03.size)
       clear hp5 hg5))
  go_quiet (fail)
  go_wp2
  go_ret
  exact ⟨rfl, hb08.trans ⟨rfl, rfl, rfl, Nat.le_refl _, fun _ _ => rfl⟩⟩

theorem woeIs_any (n m : Int) (bp : Option Addr) (ss : List ByteArray) (cap : Nat) (w : World) (hL : Laid w) (hT : Texts w.heap.size w bp ss) (hl : ss.length ≤ 140737488355328) :
    Calls Tryd.prog 4 #[.int .i64 n, .int .i64 m, .slice bp ss.length cap] w (TruePost w) := by
  rcases ss with _ | ⟨s, r⟩
  · exact woeIs_none n m bp cap w hL
  · exact woeIs_some n m bp s r cap w hL hT hl
end Go.Proofs.YtbkbhmgmlcmanaaDoor
