/-
  pdu.number, the reference's num, padding, wordOf, tableIf, May, the reference's May, the law's short.
-/
import Derived.Test.YtakejggofghblaaPdMath
import Derived.BigGuardPart
import Derived.IntWalk
set_option linter.unusedSimpArgs false
set_option linter.unusedVariables false
namespace Go.Proofs.Ytakejggofghblaa
open Go.RowKit Sh Cr Pd

theorem or_next {bs : List UInt8} {k : Nat} (hk : k < bs.length) (h8 : bs.length ≤ 8) :
    bits .or .u64 (IntKind.u64.wrap ((beL (bs.take k) : Nat) * 2 ^ 8)) (IntKind.u64.wrap (bz (at8 bs k))) = (beL (bs.take (k + 1)) : Nat) := by
  have hb := (at8 bs k).toNat_lt
  have hl := beL_lt (bs.take k)
  rw [List.length_take, Nat.min_eq_left (by omega)] at hl
  have hp : 256 ^ k ≤ 256 ^ 7 := Nat.pow_le_pow_right (by omega) (by omega)
  have hp7 : 256 ^ 7 = 72057594037927936 := by decide
  have e1 : IntKind.u64.wrap (bz (at8 bs k)) = ((at8 bs k).toNat : Int) := by rw [IntKind.wrap_u64, bz_eq]; omega
  have e2 : IntKind.u64.wrap ((beL (bs.take k) : Nat) * 2 ^ 8) = (beL (bs.take k) * 2 ^ 8 : Nat) := by
    have : ((beL (bs.take k) : Nat) * 2 ^ 8 : Int) = (beL (bs.take k) * 2 ^ 8 : Nat) := by simp
    rw [this, IntKind.wrap_u64]; omega
  have e3 : bs.take (k + 1) = bs.take k ++ [at8 bs k] := take_snoc8 bs k hk
  rw [e1, e2, u64_or _ _ (by omega) (by omega) (by omega) (by omega), e3, beL_snoc]
  rw [Int.toNat_natCast, Int.toNat_natCast, ← Nat.shiftLeft_eq, ← Nat.shiftLeft_add_eq_or_of_lt (by omega), Nat.shiftLeft_eq]
theorem sum_next {bs : List UInt8} {k : Nat} (hk : k < bs.length) (h8 : bs.length ≤ 8) :
    IntKind.u64.wrap (IntKind.u64.wrap ((beL (bs.take k) : Nat) * 256) + IntKind.u64.wrap (bz (at8 bs k))) = (beL (bs.take (k + 1)) : Nat) := by
  have hb := (at8 bs k).toNat_lt
  have hl := beL_lt (bs.take k)
  rw [List.length_take, Nat.min_eq_left (by omega)] at hl
  have hp : 256 ^ k ≤ 256 ^ 7 := Nat.pow_le_pow_right (by omega) (by omega)
  have hp7 : 256 ^ 7 = 72057594037927936 := by decide
  have e3 : bs.take (k + 1) = bs.take k ++ [at8 bs k] := take_snoc8 bs k hk
  rw [e3, beL_snoc, IntKind.wrap_u64, IntKind.wrap_u64, IntKind.wrap_u64, bz_eq]
  omega
theorem Bytes.at {N : Nat} {w : World} {bp : Option Addr} {len cap : Nat} {bs : List UInt8} (h : Bytes N w bp len cap bs) (h0 : 0 < len) : ∃ g o, bp = some ⟨g, o, none⟩ ∧ g < N ∧ ∀ j, j < len → w.cell? ⟨g, o + j, none⟩ = some (.int .u8 (bz (at8 bs j))) := by
  rcases h.lies with h1 | h1
  · omega
  · exact h1
section
variable {w : World} {N : Nat}
set_option maxRecDepth 100000 in
set_option maxHeartbeats 800000 in
theorem number_any {bs : List UInt8} {n cap : Nat} {bp : Option Addr} (hB : Bytes N w bp n cap bs) (hn : n ≤ 8) :
    Calls Try.prog 47 #[.slice bp n cap] w fun e w' => e = .returned (.int .u64 (beL bs : Nat)) ∧ w = w' := by
  have hl := hB.hlen
  go_enter Try.func47, Try.ntmps47
  go_wp2
  go_loopg [3, 8] n (fun gg v i wx => ∃ k : Nat, k ≤ n ∧ gg = n - k ∧ v = .int .u64 (beL (bs.take k) : Nat) ∧ i = .int .i64 k ∧ wx = w)
  case atStart => exact ⟨0, by omega, rfl, rfl, rfl, rfl⟩
  case round =>
    obtain ⟨k, hk, rfl, rfl, rfl, rfl⟩ := hrel
    by_cases hlt : k < n
    · have hlt' : (k : Int) < n := by omega
      obtain ⟨g, o, rfl, _, hc⟩ := hB.at (by omega)
      have c0 := hc k hlt
      have hor := or_next (bs := bs) (k := k) (by omega) (by omega)
      have Hor := Lib.hid hor; clear hor hc
      go_wp2
      go_roundg (n - (k + 1))
      case measure => omega
      case rel => exact ⟨k + 1, by omega, rfl, by rw [← Hor.out]; rfl, by go_num, rfl⟩
    · obtain rfl : k = n := by omega
      go_wp2
      go_ret
      exact ⟨by rw [List.take_of_length_le (by omega)]; rfl, rfl⟩
set_option maxRecDepth 100000 in
set_option maxHeartbeats 800000 in
theorem rnum_any {bs : List UInt8} {n cap : Nat} {bp : Option Addr} (hB : Bytes N w bp n cap bs) (hn : n ≤ 8) :
    Calls Try.prog 29 #[.slice bp n cap] w fun e w' => e = .returned (.int .u64 (beL bs : Nat)) ∧ w = w' := by
  have hl := hB.hlen
  go_enter Try.func29, Try.ntmps29
  go_wp2
  go_loopg [3, 4] n (fun gg v i wx => ∃ k : Nat, k ≤ n ∧ gg = n - k ∧ v = .int .u64 (beL (bs.take k) : Nat) ∧ i = .int .i64 k ∧ wx = w)
  case atStart => exact ⟨0, by omega, rfl, rfl, rfl, rfl⟩
  case round =>
    obtain ⟨k, hk, rfl, rfl, rfl, rfl⟩ := hrel
    by_cases hlt : k < n
    · have hlt' : (k : Int) < n := by omega
      obtain ⟨g, o, rfl, _, hc⟩ := hB.at (by omega)
      have c0 := hc k hlt
      have hor := sum_next (bs := bs) (k := k) (by omega) (by omega)
      have Hor := Lib.hid hor; clear hor hc
      go_wp2
      go_roundg (n - (k + 1))
      case measure => omega
      case rel => exact ⟨k + 1, by omega, rfl, by rw [← Hor.out], by go_num, rfl⟩
    · obtain rfl : k = n := by omega
      go_wp2
      go_ret
      exact ⟨by rw [List.take_of_length_le (by omega)]; rfl, rfl⟩
set_option maxHeartbeats 800000 in
theorem padding_any (n : Nat) (hn : n ≤ 1000) : Calls Try.prog 24 #[.int .i64 (n : Int)] w fun e w' => e = .returned (.int .i64 (padN n : Nat)) ∧ w = w' := by
  have e : ((4 - (n : Int) % 4) % 4) = (padN n : Nat) := by unfold padN; omega
  have E := Lib.hid e; clear e
  go_enter Try.func24, Try.ntmps24
  go_wp2
  go_ret
  exact ⟨ret_int E.out, rfl⟩
theorem tableIf_yes : Calls Try.prog 20 #[.bool true] w (TablePost w) := by
  go_enter Try.func20, Try.ntmps20
  go_wp2_with (go_at_call 32; refine (table_any _).mono ?_; rintro e w1 ⟨g, rfl, hg, hT, hb⟩)
  go_ret
  exact ⟨g, rfl, hg, hT, hb⟩
theorem tableIf_no : Calls Try.prog 20 #[.bool false] w fun e w' => e = .returned (.pointer none) ∧ w = w' := by
  go_enter Try.func20, Try.ntmps20
  go_wp2
  go_ret
  exact ⟨rfl, rfl⟩
/-- A table, or none: what tableIf answers. -/
def TabPost (w : World) (e : Ending) (w' : World) : Prop := ∃ p, e = .returned (.pointer p) ∧ TabOk w'.heap.size w' p ∧ Below w.heap.size w w'
theorem tableIf_any (b : Bool) : Calls Try.prog 20 #[.bool b] w (TabPost w) := by
  cases b
  · exact tableIf_no.mono fun e w' ⟨he, hw⟩ => ⟨none, he, .inl rfl, by subst hw; exact Below.refl _ _⟩
  · exact tableIf_yes.mono fun e w' ⟨g, he, hg, hT, hb⟩ => ⟨_, he, .inr ⟨g, rfl, (by obtain ⟨c, h1, _⟩ := hT; exact (Array.getElem?_eq_some_iff.1 h1).1), hT⟩, hb⟩
end
end Go.Proofs.Ytakejggofghblaa
