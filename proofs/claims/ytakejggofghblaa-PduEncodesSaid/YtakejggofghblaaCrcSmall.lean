/-
  Halving, by both; the table; a sum's bytes.
-/
import Derived.Test.YtakejggofghblaaRows
import Derived.Test.YtakejggofghblaaCrcMath
import Derived.Test.YtakejggofghblaaShaBytes
import Derived.WalkKit
import Derived.WalkSpells
import Derived.WalkLawsBesides
import Derived.Deep.QuietTactic
import Derived.BigQuiet
import Derived.Outline
import Derived.Deep.LoopGhost
import Derived.Deep.OwnRows
import Derived.Lib.Hide
import Derived.Carry
namespace Go.Proofs.Ytakejggofghblaa
open Go.RowKit Sh Cr

theorem ret_int {k : IntKind} {a b : Int} (h : a = b) : Ending.returned (.int k a) = .returned (.int k b) := by rw [h]

theorem uz_poly : (2197175160 : Int) = uz poly := rfl
theorem xor_poly (x : UInt32) : bits .xor .u32 (uz x) 2197175160 = uz (x ^^^ poly) := by rw [uz_poly, xor32]
theorem and_one (x : UInt32) : bits .and .u32 (uz x) 1 = uz x % 2 := by
  rw [u32_and _ _ (uz_nonneg x) (uz_lt x) (by omega) (by omega), uz_eq]
  have := Nat.and_one_is_mod x.toNat
  simp only [Int.toNat_natCast]
  show ((x.toNat &&& 1 : Nat) : Int) = _
  rw [this]; omega
theorem shr1 (x : UInt32) : uz x / (2 : Int) = uz (x >>> 1) := shr32 x 1 (by omega)


set_option maxHeartbeats 400000 in
theorem halve_any (x : UInt32) (w : World) :
    Calls Try.prog 44 #[.int .u32 (uz x)] w fun e w' => e = .returned (.int .u32 (uz (halve x))) ∧ w = w' := by
  have h1 := and_one x
  have h2 := shr1 x
  have h3 := xor_poly (x >>> 1)
  have u0 := uz_nonneg x
  have u1 := uz_lt x
  by_cases hc : x.toNat % 2 = 1
  · have e : halve x = x >>> 1 ^^^ poly := if_pos hc
    have hm : uz x % 2 = 1 := by rw [uz_eq]; omega
    have E := Lib.hid e; clear e
    go_enter Try.func44, Try.ntmps44
    go_wp2
    go_ret
    exact ⟨ret_int (by rw [E.out]), rfl⟩
  · have e : halve x = x >>> 1 := if_neg hc
    have hm : uz x % 2 = 0 := by rw [uz_eq]; omega
    have E := Lib.hid e; clear e
    go_enter Try.func44, Try.ntmps44
    go_wp2
    go_ret
    exact ⟨ret_int (by rw [E.out]), rfl⟩

set_option maxHeartbeats 800000 in
theorem rhalve_any (x : UInt32) (n : Nat) (hn : n ≤ maxLen) (w : World) :
    Calls Try.prog 46 #[.int .u32 (uz x), .int .i64 (n : Int)] w fun e w' => e = .returned (.int .u32 (uz (halves n x))) ∧ w = w' := by
  unfold maxLen at hn
  go_enter Try.func46, Try.ntmps46
  go_wp2
  go_loop [0, 5] (fun y i => ∃ k : Nat, k ≤ n ∧ i = .int .i64 k ∧ y = .int .u32 (uz (halves k x))) (fun _ i => n - (intOf i).toNat)
  case atStart => exact ⟨0, Nat.zero_le _, rfl, rfl⟩
  case round =>
    obtain ⟨k, hk, rfl, rfl⟩ := hrel
    have e : halves (k + 1) x = halve (halves k x) := rfl
    have E := Lib.hid e; clear e
    by_cases hlt : k < n
    · generalize halves k x = y at E ⊢
      have h2 := shr1 y
      have h3 := xor_poly (y >>> 1)
      have u0 := uz_nonneg y
      have u1 := uz_lt y
      by_cases hc : y.toNat % 2 = 1
      · have e2 : halve y = y >>> 1 ^^^ poly := if_pos hc
        have hm : uz y % 2 = 1 := by rw [uz_eq]; omega
        have E2 := Lib.hid e2; clear e2
        go_wp2
        go_round
        case rel => exact ⟨k + 1, by omega, by go_num, by rw [E.out, E2.out]⟩
        case measure => simp [intOf]; omega
      · have e2 : halve y = y >>> 1 := if_neg hc
        have hm : uz y % 2 = 0 := by rw [uz_eq]; omega
        have E2 := Lib.hid e2; clear e2
        go_wp2
        go_round
        case rel => exact ⟨k + 1, by omega, by go_num, by rw [E.out, E2.out, ← h2]⟩
        case measure => simp [intOf]; omega
    · obtain rfl : k = n := by omega
      go_wp2
      go_ret
      exact ⟨ret_int rfl, rfl⟩

/-- The row of the table, as far as it is made. -/
def tRow (k : Nat) (j : Nat) : Value := if j < k then cu32 (tab j) else .int .u32 0
theorem tRow_step (k j : Nat) : (if j = k then cu32 (tab k) else tRow k j) = tRow (k + 1) j := by
  unfold tRow
  by_cases e : j = k
  · subst e; rw [if_pos rfl, if_pos (by omega)]
  · rw [if_neg e]
    by_cases h : j < k
    · rw [if_pos h, if_pos (by omega)]
    · rw [if_neg h, if_neg (by omega)]
/-- A table lies at g. -/
def TableAt (w : World) (g : Nat) (T : Nat → UInt32) : Prop := w.rowIs g 78 256 (fun j => cu32 (T j))
def TablePost (w : World) (e : Ending) (w' : World) : Prop := ∃ g, e = .returned (.pointer (some ⟨g, 0, none⟩)) ∧ w.heap.size ≤ g ∧ TableAt w' g tab ∧ Below w.heap.size w w'

/-- A new array. -/
theorem wpList_alloc_arr {P : Program} {ops : Array Oper} {rest : List Oper} {o : Oper} {a : Act} {w : World} {Q : Exit → Act → World → Prop} (hgd : o.guard = none) (ty : TypeId) (ho : o.op = .alloc ty) (cells : Array Value)
    (hal : ∀ w : World, (Instr.alloc ty true (.tuple #[])).run P w = .ok (.pointer (some ⟨w.heap.size, 0, none⟩)) (w.alloc (.cells cells ty)))
    (h : wpList P ops Q rest (a.put o.dst (.pointer (some ⟨w.heap.size, 0, none⟩))) (w.alloc (.cells cells ty))) : wpList P ops Q (o :: rest) a w :=
  wpList_plain hgd fun K hK => by
    unfold Oper.wp execOp
    simp only [ho, Sem.run_bind, hal w, Result.andThen_ok, Sem.run_pure]
    exact hK _ _ h

def zeros256 : Array Value := (List.replicate 256 (.int .u32 0)).toArray
set_option maxRecDepth 100000 in
theorem alloc256 (w : World) : (Instr.alloc 78 true (.tuple #[])).run Try.prog w = .ok (.pointer (some ⟨w.heap.size, 0, none⟩)) (w.alloc (.cells zeros256 78)) := by kernel_rfl
theorem alloc4 (w : World) : (Instr.alloc 66 true (.tuple #[])).run Try.prog w = .ok (.pointer (some ⟨w.heap.size, 0, none⟩)) (w.alloc (.cells (List.replicate 4 (.int .u8 0)).toArray 66)) := by kernel_rfl
theorem zeros_row (w : World) : (w.alloc (.cells zeros256 78)).rowIs w.heap.size 78 256 (tRow 0) := by
  have h3 : zeros256.size = 256 := by unfold zeros256; rw [List.size_toArray, List.length_replicate]
  have h := World.rowIs_alloc w zeros256 78 (tRow 0) (fun i hi => by
    rw [h3] at hi
    unfold zeros256
    rw [List.getElem?_toArray, List.getElem?_replicate, if_pos hi]; rfl)
  rwa [h3] at h
theorem conv_idx (k : Nat) (_ : k < 256) : IntKind.u32.wrap (k : Int) = uz (UInt32.ofNat k) := by
  rw [IntKind.wrap_u32, uz_eq, UInt32.toNat_ofNat']; omega

set_option maxRecDepth 100000 in
set_option maxHeartbeats 1600000 in
theorem table_any (w : World) : Calls Try.prog 32 #[] w (TablePost w) := by
  go_enter Try.func32, Try.ntmps32
  go_wp2_with (refine wpList_alloc_arr rfl 78 rfl _ alloc256 ?_)
  have hS := zeros_row w
  have hb : Below w.heap.size w (w.alloc (.cells zeros256 78)) := (Below.refl _ _).alloc (Nat.le_refl _) _
  generalize w.alloc (.cells zeros256 78) = w1 at hS hb ⊢
  have hg : w.heap.size ≤ w.heap.size := Nat.le_refl _
  generalize hgg : w.heap.size = g at hS ⊢
  rw [hgg] at hg hb
  have HG := Lib.hid hgg; clear hgg
  go_loopg [4, 2, 3] 256 (fun q i _ _ wr => ∃ k : Nat, k ≤ 256 ∧ q = 256 - k ∧ i = .int .i64 k ∧ Below g w wr ∧ wr.rowIs g 78 256 (tRow k))
  case atStart => exact ⟨0, by omega, rfl, rfl, hb, hS⟩
  case round =>
    clear hb hS
    obtain ⟨k, hk, rfl, rfl, hb, hS⟩ := hrel
    by_cases hlt : k < 256
    · have hlt' : (k : Int) < 256 := by omega
      have c0 := hS.cell (i := k) hlt
      have f0 := hS.frozen k
      have hw := conv_idx k hlt
      rename World => w2
      go_wp2
      go_loop [3, 9] (fun y i => ∃ m : Nat, m ≤ 8 ∧ i = .int .i64 m ∧ y = .int .u32 (uz (halves m (UInt32.ofNat k)))) (fun _ i => 8 - (intOf i).toNat)
      case atStart => exact ⟨0, Nat.zero_le _, rfl, by first | rfl | rw [← hw] ⟩
      case round =>
        obtain ⟨m, hm, rfl, rfl⟩ := hrel
        by_cases hlt2 : m < 8
        · go_wp2_with (first | (go_at_call 44; refine (halve_any _ _).mono ?_; rintro e w' ⟨rfl, rfl⟩))
          go_round
          case rel => exact ⟨m + 1, by omega, by go_num, rfl⟩
          case measure => simp [intOf]; omega
        · obtain rfl : m = 8 := by omega
          go_wp2
          go_roundg (256 - (k + 1))
          case measure => omega
          case rel => exact ⟨k + 1, by omega, rfl, by go_num, hb.setCell (p := ⟨g, k, none⟩) (Nat.le_refl _) _, (hS.set _ _).congr fun j _ => tRow_step k j⟩
    · obtain rfl : k = 256 := by omega
      go_wp2
      go_ret
      exact ⟨g, rfl, by rw [HG.out]; exact hg, hS.congr fun j hj => if_pos hj, by rw [HG.out]; exact hb⟩
end Go.Proofs.Ytakejggofghblaa
