/-
  The document's two sums: without a table, and by any.
-/
import Derived.Test.YtakejggofghblaaCrcSum
namespace Go.Proofs.Ytakejggofghblaa
open Go.RowKit Sh Cr
attribute [local go_sem] Sh.shr8 Sh.xor32
attribute [local go_sem] Sh.conv8'
theorem notSub (x : UInt32) : 4294967295 - uz x = uz (~~~x) := not64' x

set_option maxRecDepth 100000 in
set_option maxHeartbeats 1600000 in
theorem plain_any (bp : Option Addr) (len cap N : Nat) (bs : List UInt8) (w : World) (hB : Bytes N w bp len cap bs) :
    Calls Try.prog 38 #[.slice bp len cap] w fun e w' => e = .returned (.int .u32 (uz (Cr.sum bs))) ∧ w = w' := by
  have hm := hB.hmax
  have hr := hB.hroom
  unfold maxLen at hm
  go_enter Try.func38, Try.ntmps38
  go_wp2
  go_loop [3, 4] (fun x i => ∃ k : Nat, k ≤ len ∧ i = .int .i64 k ∧ x = .int .u32 (uz (feed (bs.take k) ones))) (fun _ i => len - (intOf i).toNat)
  case atStart => exact ⟨0, Nat.zero_le _, rfl, rfl⟩
  case round =>
    obtain ⟨k, hk, rfl, rfl⟩ := hrel
    by_cases hlt : k < len
    · have hl := hB.hlen
      have e : feed (bs.take (k + 1)) ones = byP (feed (bs.take k) ones) (at8 bs k) := by rw [take_snoc8 bs k (by omega), feed_snoc]
      have E := Lib.hid e; clear e
      obtain ⟨b, o, rfl, _, hc⟩ : ∃ b o, bp = some ⟨b, o, none⟩ ∧ b < N ∧ ∀ j, j < len → w.cell? ⟨b, o + j, none⟩ = some (cu8 (at8 bs j)) := by
        rcases hB.lies with h | h
        · omega
        · exact h
      have c0 : w.cell? ⟨b, o + k, none⟩ = some (.int .u8 (bz (at8 bs k))) := hc k hlt
      generalize feed (bs.take k) ones = x at E ⊢
      generalize at8 bs k = c at E c0
      have u0 := uz_nonneg x
      have u1 := uz_lt x
      clear hc hB hl
      go_wp2_with (first | (go_at_call 46; refine (rhalve_any _ 8 (by unfold maxLen; omega) _).mono ?_; rintro e w' ⟨rfl, rfl⟩))
      go_round
      case rel => exact ⟨k + 1, by omega, by go_num, by rw [E.out]; rfl⟩
      case measure => simp [intOf]; omega
    · obtain rfl : k = len := by omega
      have e : Cr.sum bs = ~~~ feed (bs.take k) ones := by rw [← hB.hlen, List.take_length]; rfl
      have E := Lib.hid e; clear e
      generalize feed (bs.take k) ones = x at E ⊢
      have n0 := notSub x
      have u0 := uz_nonneg x
      have u1 := uz_lt x
      go_wp2
      go_ret
      exact ⟨ret_int (by rw [E.out]), rfl⟩

end Go.Proofs.Ytakejggofghblaa
