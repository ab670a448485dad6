/-
  'ShaLengths': its walk.
-/
import Derived.Test.YtcnjffckjcoafaaShaSums
namespace Go.Proofs.Ytcnjffckjcoafaa
open Go.RowKit Sh

theorem tmod_in (a d : Int) (hd : 0 < d) : -d < a.tmod d ∧ a.tmod d < d := ⟨Int.lt_tmod_of_pos a hd, Int.tmod_lt_of_pos a hd⟩
theorem posmod (n d : Int) (hd : 0 < d) : ∃ m : Nat, (n.tmod d + d).tmod d = (m : Int) ∧ (m : Int) < d := by
  have h1 := tmod_in n d hd
  have h2 := tmod_in (n.tmod d + d) d hd
  have h3 := Int.tmod_nonneg d (show 0 ≤ n.tmod d + d by omega)
  exact ⟨((n.tmod d + d).tmod d).toNat, by omega, by omega⟩

/-- A run of k bytes c, then zeros. -/
def runRow (c : UInt8) (k : Nat) (j : Nat) : Value := if j < k then cu8 c else .int .u8 0
theorem runRow_step (c : UInt8) (k j : Nat) : (if j = k then cu8 c else runRow c k j) = runRow c (k + 1) j := by
  unfold runRow
  by_cases e : j = k
  · subst e; rw [if_pos rfl, if_pos (by omega)]
  · rw [if_neg e]
    by_cases h : j < k
    · rw [if_pos h, if_pos (by omega)]
    · rw [if_neg h, if_neg (by omega)]
theorem Bytes.of_run {w : World} {g m : Nat} {t : TypeId} {c : UInt8} (h : w.rowIs g t m (runRow c m)) (hm : m ≤ maxLen) : Bytes w.heap.size w (some ⟨g, 0, none⟩) m m (List.replicate m c) :=
  ⟨List.length_replicate, Nat.le_refl _, hm, .inr ⟨g, 0, rfl, h.lt, fun j hj => by
    rw [Nat.zero_add, h.cell hj, runRow, if_pos hj, at8, List.getD_eq_getElem?_getD, List.getElem?_replicate, if_pos hj]; rfl⟩⟩

set_option maxRecDepth 100000 in
set_option maxHeartbeats 400000 in
theorem shaLengths_any (c : UInt8) (n : Int) (w : World) :
    Calls Try.prog 5 #[.int .u8 (bz c), .int .i64 n] w (TruePost w) := by
  have t1 := tmod_in n 1000 (by omega)
  obtain ⟨m, hm, hm1⟩ := posmod n 1000 (by omega)
  have t2 : IntKind.i64.wrap (n.tmod 1000) = n.tmod 1000 := IntWalk.i64_in _ (by omega)
  have t3 : IntKind.i64.wrap (n.tmod 1000 + 1000) = n.tmod 1000 + 1000 := IntWalk.i64_in _ (by omega)
  have hmk : ∀ w : World, (Instr.makeSlice 22 (.int .i64 (m : Int)) (.int .i64 (m : Int))).run Try.prog w = .ok (.slice (some ⟨w.heap.size, 0, none⟩) m m) (w.alloc (.cells (madeCells #[.int .u8 0] m) 5)) := fun w =>
    run_make_row' (P := Try.prog) 22 5 (.int .u8 0) 1 Try.underlying22 Try.infoU8 rfl .i64 .i64 m (by omega) (by omega) w
  go_enter Try.func5, Try.ntmps5
  go_wp2_with (first
    | (go_at_call 8; refine (stands_any _).mono ?_; rintro e w1 ⟨rfl, hb1⟩))
  have hS : (w1.alloc (.cells (madeCells #[.int .u8 0] m) 5)).rowIs w1.heap.size 5 m (runRow c 0) := by
    have := World.rowIs_alloc w1 (madeCells #[.int .u8 0] m) 5 (runRow c 0) (fun i hi => by
      simp [madeCells] at hi
      simp [madeCells, hi, Nat.mod_one, runRow])
    simpa [madeCells] using this
  have hb : Below w.heap.size w (w1.alloc (.cells (madeCells #[.int .u8 0] m) 5)) := hb1.alloc hb1.size _
  generalize w1.alloc (.cells (madeCells #[.int .u8 0] m) 5) = w2 at hS hb ⊢
  have hg := hb1.size
  generalize w1.heap.size = g at hS hg ⊢
  clear hmk hm t1 t2 t3 hb1
  go_loopg [17] m (fun q i wr => ∃ k : Nat, k ≤ m ∧ q = m - k ∧ i = .int .i64 k ∧ Below w.heap.size w wr ∧ wr.rowIs g 5 m (runRow c k))
  case atStart => exact ⟨0, by omega, rfl, rfl, hb, hS⟩
  case round =>
    clear hb hS
    obtain ⟨k, hk, rfl, rfl, hb, hS⟩ := hrel
    by_cases hlt : k < m
    · have hlt' : (k : Int) < (m : Int) := by omega
      have c0 := hS.cell (i := k) hlt
      have f0 := hS.frozen k
      go_wp2
      go_roundg (m - (k + 1))
      case measure => omega
      case rel => exact ⟨k + 1, by omega, rfl, by go_num, hb.setCell (p := ⟨g, k, none⟩) hg _, (hS.set _ _).congr fun j _ => runRow_step c k j⟩
    · obtain rfl : k = m := by omega
      have hge : ¬ ((k : Int) < (k : Int)) := by omega
      have hB := Bytes.of_run hS (by unfold maxLen; omega)
      clear hlt hk
      go_wp2_with (first
        | (go_at_call 9; refine (whole_any _ k k _ wr hB (by omega)).mono ?_; rintro e w2 ⟨rv2, Hrv2, rfl, hb2⟩; have hB2 : Below w.heap.size w w2 := hb.trans (hb2.mono hb.size))
        | (go_at_call 10; refine (rsum_any _ k k _ w2 ((hB.below hb2).mono hb2.size) (by omega)).mono ?_; rintro e w3 ⟨rv3, Hrv3, rfl, hb3⟩; have hB3 : Below w.heap.size w w3 := hB2.trans (hb3.mono hB2.size); have heq := run_eql_dig _ rv2 rv3 Hrv2 Hrv3))
      go_ret
      exact ⟨rfl, hB3⟩
end Go.Proofs.Ytcnjffckjcoafaa
