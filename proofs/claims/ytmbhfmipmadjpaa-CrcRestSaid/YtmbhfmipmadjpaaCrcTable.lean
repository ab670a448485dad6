/-
  'CrcTable': its walk.
-/
import Derived.Test.YtmbhfmipmadjpaaCrcStands
namespace Go.Proofs.Ytmbhfmipmadjpaa
open Go.RowKit Sh Cr

theorem tmod_in (a d : Int) (hd : 0 < d) : -d < a.tmod d ∧ a.tmod d < d := ⟨Int.lt_tmod_of_pos a hd, Int.tmod_lt_of_pos a hd⟩
theorem posmod (n d : Int) (hd : 0 < d) : ∃ m : Nat, (n.tmod d + d).tmod d = (m : Int) ∧ (m : Int) < d := by
  have h1 := tmod_in n d hd
  have h2 := tmod_in (n.tmod d + d) d hd
  have h3 := Int.tmod_nonneg d (show 0 ≤ n.tmod d + d by omega)
  exact ⟨((n.tmod d + d).tmod d).toNat, by omega, by omega⟩

theorem rhalve_quiet (x : UInt32) (n : Nat) (hn : n ≤ maxLen) (w : World) :
    Calls Try.prog 10 #[.int .u32 (uz x), .int .i64 (n : Int)] w fun e w' => e = .returned (.int .u32 (uz (halves n x))) ∧ w' = w :=
  (rhalve_any x n hn w).mono fun _ _ ⟨h1, h2⟩ => ⟨h1, h2.symm⟩

set_option maxRecDepth 100000 in
set_option maxHeartbeats 1600000 in
theorem crcTable_any (n : Int) (x : UInt32) (w : World) :
    Calls Try.prog 3 #[.int .i64 n, .int .u32 (uz x)] w (TruePost w) := by
  have t1 := tmod_in n 256 (by omega)
  obtain ⟨m, hm, hm1⟩ := posmod n 256 (by omega)
  have t2 : IntKind.i64.wrap (n.tmod 256) = n.tmod 256 := IntWalk.i64_in _ (by omega)
  have t3 : IntKind.i64.wrap (n.tmod 256 + 256) = n.tmod 256 + 256 := IntWalk.i64_in _ (by omega)
  have hm2 : m < 256 := by omega
  go_enter Try.func3, Try.ntmps3
  go_wp2_with (first
    | (go_at_call 8; refine (stands_any _).mono ?_; rintro e w1 ⟨rfl, hb1⟩; have tok := hb1)
    | (clear tok; go_at_call 9; refine (table_any _).mono ?_; rintro e w2 ⟨g1, rfl, hg1, hT1, hb2⟩; have tok2 := hb1)
    | (clear tok2; go_at_call 9; refine (table_any _).mono ?_; rintro e w3 ⟨g2, rfl, hg2, hT2, hb3⟩
       have hg1l := hT1.lt
       have hT3 : TableAt w3 g1 tab := hT1.of_block (hb3.block g1 hg1l)
       have c1 : w3.cell? ⟨g1, m, none⟩ = some (cu32 (tab m)) := hT3.cell hm2
       have f1 : w3.frozen? ⟨g1, m, none⟩ = false := hT3.frozen m
       clear hT3 hT1))
  have hgw : w.heap.size ≤ g1 := Nat.le_trans hb1.size hg1
  have hne : g2 ≠ g1 := by omega
  have hT : TableAt (w3.setCell ⟨g1, m, none⟩ (.int .u32 (uz x))) g2 tab := hT2.setOther hne _
  have hb : Below w.heap.size w (w3.setCell ⟨g1, m, none⟩ (.int .u32 (uz x))) :=
    ((hb1.trans (hb2.mono hb1.size)).trans (hb3.mono (Nat.le_trans hb1.size hb2.size))).setCell hgw _
  generalize w3.setCell ⟨g1, m, none⟩ (.int .u32 (uz x)) = w4 at hT hb ⊢
  clear hT2 c1 f1 hb1 hb2 hb3 hg1 hg2 hg1l t1 t2 t3 hm
  go_loopg [27, 7] 256 (fun q i _ wr => ∃ k : Nat, k ≤ 256 ∧ q = 256 - k ∧ i = .int .i64 k ∧ Below w.heap.size w wr ∧ TableAt wr g2 tab)
  case atStart => exact ⟨0, by omega, rfl, rfl, hb, hT⟩
  case round =>
    clear hb hT
    obtain ⟨k, hk, rfl, rfl, hb, hT⟩ := hrel
    by_cases hlt : k < 256
    · have hlt' : (k : Int) < 256 := by omega
      have c0 : wr.cell? ⟨g2, k, none⟩ = some (.int .u32 (uz (tab k))) := hT.cell hlt
      have hw := conv_idx k hlt
      have hw' : (k : Int) % 4294967296 = uz (UInt32.ofNat k) := (IntKind.wrap_u32 _).symm.trans hw
      have e8 : halves 8 (UInt32.ofNat k) = tab k := rfl
      have R := fun w => rhalve_quiet (UInt32.ofNat k) 8 (by unfold maxLen; omega) w
      rw [e8] at R
      clear e8
      have HR := Lib.hid R; clear R
      go_wp2_with fail
      go_quiet ((go_at_call 10; exact Calls.quiet_of_same (HR.out _)))
      go_wp2
      go_roundg (256 - (k + 1))
      case measure => omega
      case rel => exact ⟨k + 1, by omega, rfl, by go_num, hb.trans ⟨rfl, rfl, rfl, Nat.le_refl _, fun _ _ => rfl⟩, hT⟩
    · obtain rfl : k = 256 := by omega
      go_wp2
      go_ret
      exact ⟨rfl, hb⟩
end Go.Proofs.Ytmbhfmipmadjpaa
