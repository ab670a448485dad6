/-
  'CrcSums': its walk.
-/
import Derived.Test.YtmbhfmipmadjpaaCrcRest
import Derived.StillTailTactics
namespace Go.Proofs.Ytmbhfmipmadjpaa
open Go.RowKit Sh Cr
attribute [local go_sem] Sh.xor32

theorem sumT_quiet (g : Nat) (T : Nat → UInt32) (bp : Option Addr) (len cap N : Nat) (bs : List UInt8) (w : World) (hT : TableAt w g T) (hB : Bytes N w bp len cap bs) :
    Calls Try.prog 11 #[.pointer (some ⟨g, 0, none⟩), .slice bp len cap] w fun e w' => e = .returned (.int .u32 (uz (sumT T bs))) ∧ w' = w :=
  (sumT_any g T bp len cap N bs w hT hB).mono fun _ _ ⟨h1, h2⟩ => ⟨h1, h2.symm⟩
theorem rsumT_quiet (g : Nat) (T : Nat → UInt32) (bp : Option Addr) (len cap N : Nat) (bs : List UInt8) (w : World) (hT : TableAt w g T) (hB : Bytes N w bp len cap bs) :
    Calls Try.prog 13 #[.slice (some ⟨g, 0, none⟩) 256 256, .slice bp len cap] w fun e w' => e = .returned (.int .u32 (uz (sumT T bs))) ∧ w' = w :=
  (rsumT_any g T bp len cap N bs w hT hB).mono fun _ _ ⟨h1, h2⟩ => ⟨h1, h2.symm⟩

/-- A table, bent at one place. -/
def bend (T : Nat → UInt32) (m : Nat) (x : UInt32) (j : Nat) : UInt32 := if j = m then T m ^^^ x else T j
theorem bend_row (T : Nat → UInt32) (m : Nat) (x : UInt32) (j : Nat) : (if j = m then Value.int .u32 (uz (T m ^^^ x)) else cu32 (T j)) = cu32 (bend T m x j) := by
  unfold bend cu32
  split <;> rfl
/-- One of four. -/
def pick4 (a b c d : UInt32) (k : Nat) : UInt32 := if k = 0 then a else if k = 1 then b else if k = 2 then c else d
theorem pick4_at (a b c d : UInt32) (k : Nat) (h : k < 4) : (#[cu32 a, cu32 b, cu32 c, cu32 d] : Array Value)[k]? = some (.int .u32 (uz (pick4 a b c d k))) := by
  obtain rfl | rfl | rfl | rfl : k = 0 ∨ k = 1 ∨ k = 2 ∨ k = 3 := by omega
  all_goals rfl

set_option maxRecDepth 100000 in
set_option maxHeartbeats 1600000 in
theorem crcSums_any (bp : Option Addr) (len cap : Nat) (bs : List UInt8) (a b c d : UInt32) (xs : Array Value) (Hxs : Hid (xs = #[cu32 a, cu32 b, cu32 c, cu32 d])) (w : World) (hB : Bytes w.heap.size w bp len cap bs) :
    Calls Try.prog 4 #[.slice bp len cap, .agg xs] w (TruePost w) := by
  go_enter Try.func4, Try.ntmps4
  have hr0 : (w.alloc (.cells xs 30)).heap[w.heap.size]? = some (.cells xs 30 (0, 0)) := heap_alloc_new w _
  have hW0 : Below w.heap.size w (w.alloc (.cells xs 30)) := (Below.refl _ _).alloc (Nat.le_refl _) _
  obtain ⟨w0, hw0⟩ : ∃ w0, Hid (w.alloc (.cells xs 30) = w0) := ⟨_, rfl⟩
  obtain ⟨g3, hg3⟩ : ∃ g3, Hid (w.heap.size = g3) := ⟨_, rfl⟩
  rw [hw0.out] at hr0 hW0
  have hr0' : w0.heap[g3]? = some (.cells xs 30 (0, 0)) := by rw [← hg3.out]; exact hr0
  have hg0 := (Array.getElem?_eq_some_iff.1 hr0').1
  clear hr0
  go_wp2_with (first
    | (rw [hw0.out, hg3.out]; go_at_call 8; refine (stands_any _).mono ?_; rintro e w1 ⟨rfl, hb1⟩
       have hW1 : Below w.heap.size w w1 := hW0.trans (hb1.mono hW0.size)
       have hr1 := (hb1.block g3 hg0).trans hr0'
       have hg1 := (Array.getElem?_eq_some_iff.1 hr1).1
       clear hW0 hr0' hg0 hw0)
    | (go_at_call 9; refine (table_any _).mono ?_; rintro e w2 ⟨g, rfl, hgg, hT2, hb2⟩
       have hW2 : Below w.heap.size w w2 := hW1.trans (hb2.mono hW1.size)
       have hgw : w.heap.size ≤ g := Nat.le_trans hW1.size hgg
       have hr2 := (hb2.block g3 hg1).trans hr1
       have hB2 := (hB.below hW2).mono hW2.size
       have hne3 : g3 ≠ g := by omega
       have hp2 : TabOk w2.heap.size w2 (some ⟨g, 0, none⟩) := .inr ⟨g, rfl, hT2.lt, hT2⟩
       clear hr1 hg1 hW1 hb1)
    | (go_at_call 11; have H := sum_any (some ⟨g, 0, none⟩) bp len cap bs w2 hp2 hB2; (with_reducible refine H.mono ?_); clear H; rintro e w3 ⟨rfl, hb3⟩
       have hW3 : Below w.heap.size w w3 := hW2.trans (hb3.mono hW2.size)
       have hT3 : TableAt w3 g tab := hT2.of_block (hb3.block g hT2.lt)
       have hr3 := (hb3.block g3 (Array.getElem?_eq_some_iff.1 hr2).1).trans hr2
       have hB3 := (hB2.below hb3).mono hb3.size)
    | (go_at_call 12; have H := plain_any bp len cap _ bs w3 hB3; (with_reducible refine H.mono ?_); clear H; rintro e w' ⟨rfl, rfl⟩)
    | (go_at_call 11; have H := sumNil_any bp len cap bs w3 hB3; (with_reducible refine H.mono ?_); clear H; rintro e w4 ⟨rfl, hb4⟩
       have hW4 : Below w.heap.size w w4 := hW3.trans (hb4.mono hW3.size)
       have hT4 : TableAt w4 g tab := hT3.of_block (hb4.block g hT3.lt)
       have hr4 := (hb4.block g3 (Array.getElem?_eq_some_iff.1 hr3).1).trans hr3
       have hB4 := (hB3.below hb4).mono hb4.size)
    | (go_at_call 12; have H := plain_any bp len cap _ bs w4 hB4; (with_reducible refine H.mono ?_); clear H; rintro e w' ⟨rfl, rfl⟩)
    | (refine wpList_load_row rfl 30 _ rfl g3 rfl 30 xs (0, 0) _ hr4 Try.underlying30 rfl (by rw [Hxs.out]; kernel_rfl) ?_))
  clear hT2 hT3 hr2 hr3 hB2 hB3 hb2 hb3 hb4 hp2 hW2 hW3
  go_loopg [29, 6, 7] 4 (fun q i _ _ wr => ∃ (k : Nat) (T : Nat → UInt32), k ≤ 4 ∧ q = 4 - k ∧ i = .int .i64 k ∧ Below w.heap.size w wr ∧ TableAt wr g T)
  case atStart => exact ⟨0, tab, by omega, rfl, rfl, hW4, hT4⟩
  case round =>
    obtain ⟨k, T, hk, rfl, rfl, hW, hT⟩ := hrel
    have hBr := (hB.below hW).mono hW.size
    clear hT4 hW4 hr4 hB4
    by_cases hlt : k < 4
    · have hlt' : (k : Int) < 4 := by omega
      have hx : ∀ w : World, (Instr.index 30 (.agg xs) (.int .i64 (k : Int))).run Try.prog w = .ok (.int .u32 (uz (pick4 a b c d k))) w := fun w =>
        run_index_row (P := Try.prog) 30 22 4 Try.underlying30 Try.underlying22 (by kernel_rfl) xs k hlt _ (by rw [Hxs.out]; exact pick4_at a b c d k hlt) w
      generalize pick4 a b c d k = x at hx
      have u0 := uz_nonneg x
      have u1 := uz_lt x
      obtain ⟨m, hm, hm2⟩ : ∃ m : Nat, (uz x + (k : Int)) % 256 = (m : Int) ∧ m < 256 := ⟨((uz x + (k : Int)) % 256).toNat, by omega, by omega⟩
      have c0 : wr.cell? ⟨g, m, none⟩ = some (.int .u32 (uz (T m))) := hT.cell hm2
      have f0 : wr.frozen? ⟨g, m, none⟩ = false := hT.frozen m
      have hm2' : (m : Int) < 256 := by omega
      have hm3 : (uz x + (k : Int)).tmod 256 = (m : Int) := by rw [Int.tmod_eq_emod_of_nonneg (by omega)]; exact hm
      have hw1 : IntKind.i64.wrap (uz x) = uz x := IntWalk.i64_in _ (by omega)
      have hw2 : IntKind.i64.wrap (uz x + (k : Int)) = uz x + (k : Int) := IntWalk.i64_in _ (by omega)
      clear hm u0 u1
      go_wp2_with fail
      go_still_tail 13, (by kernel_rfl)
      change wpList _ _ _ _ _ wr.drew
      go_wp2
      go_roundg (4 - (k + 1))
      case measure => omega
      case rel => exact ⟨k + 1, bend T m x, by omega, rfl, by go_num, (hW.setCell (p := ⟨g, m, none⟩) hgw _).drew, ((hT.set m _).congr fun j _ => bend_row T m x j).drew⟩
    · obtain rfl : k = 4 := by omega
      have HBq := Lib.hid (fun n => hBr.below (w' := wr.drewN n) ⟨rfl, rfl, rfl, Nat.le_refl _, fun _ _ => rfl⟩)
      have HTq := Lib.hid (fun n => (hT.of_block (w' := wr.drewN n) rfl : TableAt (wr.drewN n) g T))
      go_wp2_with fail
      go_quiet (first
        | (go_at_call 11; exact Calls.quiet_of_same (sumT_quiet g T bp len cap _ bs _ (HTq.out _) (HBq.out _)))
        | (go_at_call 13; exact Calls.quiet_of_same (rsumT_quiet g T bp len cap _ bs _ (HTq.out _) (HBq.out _))))
      go_wp2
      go_ret
      exact ⟨rfl, hW.trans ⟨rfl, rfl, rfl, Nat.le_refl _, fun _ _ => rfl⟩⟩
end Go.Proofs.Ytmbhfmipmadjpaa
