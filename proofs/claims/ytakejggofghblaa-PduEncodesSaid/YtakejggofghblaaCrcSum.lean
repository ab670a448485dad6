/-
  A sum's bytes; the sum by a table, by none, and by the document's two.
-/
import Derived.Test.YtakejggofghblaaCrcSmall
namespace Go.Proofs.Ytakejggofghblaa
open Go.RowKit Sh Cr
attribute [local go_sem] Sh.low8' Sh.shr8 Sh.shr16 Sh.shr24 Sh.low8

/-- The bytes of a sum, as an array. -/
def a4 (x : UInt32) : Array Value := ((le4 x).map cu8).toArray
theorem a4_eq (x : UInt32) : #[Value.int .u8 (bz x.toUInt8), .int .u8 (bz (x >>> 8).toUInt8), .int .u8 (bz (x >>> 16).toUInt8), .int .u8 (bz (x >>> 24).toUInt8)] = a4 x := rfl

set_option maxHeartbeats 400000 in
theorem bytes_any (x : UInt32) (w : World) :
    Calls Try.prog 33 #[.int .u32 (uz x)] w (AggPost (fun r => r = a4 x) w) := by
  have u0 := uz_nonneg x
  have u1 := uz_lt x
  go_enter Try.func33, Try.ntmps33
  go_wp2
  rw [a4_eq]
  refine bodyPost_ret (v := .agg (a4 x)) ?_ rfl ⟨_, rfl, rfl, (Below.refl _ _).alloc (Nat.le_refl _) _⟩
  exact results_cell_row (ty := 66) rfl _ _ w.heap.size 66 (a4 x) (0, 0) _ rfl (heap_alloc_new _ _) Try.underlying66 rfl (by kernel_rfl)

theorem xor8 (a b : UInt8) : bits .xor .u8 (bz a) (bz b) = bz (a ^^^ b) := by
  rw [u8_xor _ _ (bz_nonneg a) (bz_lt a) (bz_nonneg b) (bz_lt b), bz_eq, bz_eq, bz_eq, UInt8.toNat_xor]; rfl
theorem bz_nat (a : UInt8) : (bz a).toNat = a.toNat := by rw [bz_eq]; simp

attribute [local go_sem] Sh.xor32 Sh.not32'

theorem take_snoc8 (bs : List UInt8) (k : Nat) (h : k < bs.length) : bs.take (k + 1) = bs.take k ++ [at8 bs k] := by
  rw [List.take_succ_eq_append_getElem h]
  simp [at8, List.getD_eq_getElem?_getD, List.getElem?_eq_getElem h]

/-- A number of 32 bits, and nothing that was there turned. -/
def NumPost (w : World) (x : UInt32) (e : Ending) (w' : World) : Prop := e = .returned (.int .u32 (uz x)) ∧ Below w.heap.size w w'

set_option maxRecDepth 100000 in
set_option maxHeartbeats 1600000 in
theorem sumT_any (g : Nat) (T : Nat → UInt32) (bp : Option Addr) (len cap N : Nat) (bs : List UInt8) (w : World) (hT : TableAt w g T) (hB : Bytes N w bp len cap bs) :
    Calls Try.prog 34 #[.pointer (some ⟨g, 0, none⟩), .slice bp len cap] w fun e w' => e = .returned (.int .u32 (uz (sumT T bs))) ∧ w = w' := by
  have hm := hB.hmax
  have hr := hB.hroom
  unfold maxLen at hm
  go_enter Try.func34, Try.ntmps34
  go_wp2
  go_loop [5, 13, 7] (fun x i _ => ∃ k : Nat, k ≤ len ∧ i = .int .i64 k ∧ x = .int .u32 (uz (feedT T (bs.take k) ones))) (fun _ i _ => len - (intOf i).toNat)
  case atStart => exact ⟨0, Nat.zero_le _, rfl, rfl⟩
  case round =>
    obtain ⟨k, hk, rfl, rfl⟩ := hrel
    by_cases hlt : k < len
    · have hl := hB.hlen
      have e : feedT T (bs.take (k + 1)) ones = byT T (feedT T (bs.take k) ones) (at8 bs k) := by rw [take_snoc8 bs k (by omega), feedT_snoc]
      have E := Lib.hid e; clear e
      obtain ⟨b, o, rfl, _, hc⟩ : ∃ b o, bp = some ⟨b, o, none⟩ ∧ b < N ∧ ∀ j, j < len → w.cell? ⟨b, o + j, none⟩ = some (cu8 (at8 bs j)) := by
        rcases hB.lies with h | h
        · omega
        · exact h
      have c0 : w.cell? ⟨b, o + k, none⟩ = some (.int .u8 (bz (at8 bs k))) := hc k hlt
      generalize feedT T (bs.take k) ones = x at E ⊢
      generalize at8 bs k = c at E c0
      have hx : bits .xor .u8 (bz x.toUInt8) (bz c) = bz (x.toUInt8 ^^^ c) := xor8 _ _
      have E2 : Hid (byT T x c = T (x.toUInt8 ^^^ c).toNat ^^^ x >>> 8) := Lib.hid rfl
      generalize x.toUInt8 ^^^ c = i at hx E2
      have c1 : w.cell? ⟨g, i.toNat, none⟩ = some (.int .u32 (uz (T i.toNat))) := hT.cell (UInt8.toNat_lt _)
      have b0 := bz_nonneg i
      have b1 := bz_lt i
      have b2 := bz_nat i
      have u0 := uz_nonneg x
      have u1 := uz_lt x
      clear hc hB hT hl
      go_wp2
      go_round
      case rel => exact ⟨k + 1, by omega, by go_num, by rw [E.out, E2.out]⟩
      case measure => simp [intOf]; omega
    · obtain rfl : k = len := by omega
      have e : sumT T bs = ~~~ feedT T (bs.take k) ones := by rw [← hB.hlen, List.take_length]; rfl
      have E := Lib.hid e; clear e
      go_wp2
      go_ret
      exact ⟨ret_int (by rw [E.out]), rfl⟩
set_option maxRecDepth 100000 in
set_option maxHeartbeats 1600000 in
theorem sumNil_any (bp : Option Addr) (len cap : Nat) (bs : List UInt8) (w : World) (hB : Bytes w.heap.size w bp len cap bs) :
    Calls Try.prog 34 #[.pointer none, .slice bp len cap] w (NumPost w (Cr.sum bs)) := by
  have hm := hB.hmax
  have hr := hB.hroom
  unfold maxLen at hm
  go_enter Try.func34, Try.ntmps34
  go_wp2_with (first
    | (go_at_call 32; refine (table_any _).mono ?_; rintro e w1 ⟨g, rfl, hg, hT, hb⟩))
  obtain ⟨T, hTT⟩ : ∃ T, Hid (tab = T) := ⟨_, rfl⟩
  rw [hTT.out] at hT
  have hBw := hB
  replace hB := hBw.below hb
  generalize hN : w.heap.size = N at hB
  rw [hN] at hg
  have HN := Lib.hid hN; clear hN hBw
  go_loop [5, 13, 7] (fun x i _ => ∃ k : Nat, k ≤ len ∧ i = .int .i64 k ∧ x = .int .u32 (uz (feedT T (bs.take k) ones))) (fun _ i _ => len - (intOf i).toNat)
  case atStart => exact ⟨0, Nat.zero_le _, rfl, rfl⟩
  case round =>
    obtain ⟨k, hk, rfl, rfl⟩ := hrel
    by_cases hlt : k < len
    · have hl := hB.hlen
      have e : feedT T (bs.take (k + 1)) ones = byT T (feedT T (bs.take k) ones) (at8 bs k) := by rw [take_snoc8 bs k (by omega), feedT_snoc]
      have E := Lib.hid e; clear e
      obtain ⟨b, o, rfl, _, hc⟩ : ∃ b o, bp = some ⟨b, o, none⟩ ∧ b < N ∧ ∀ j, j < len → w1.cell? ⟨b, o + j, none⟩ = some (cu8 (at8 bs j)) := by
        rcases hB.lies with h | h
        · omega
        · exact h
      have c0 : w1.cell? ⟨b, o + k, none⟩ = some (.int .u8 (bz (at8 bs k))) := hc k hlt
      generalize feedT T (bs.take k) ones = x at E ⊢
      generalize at8 bs k = c at E c0
      have hx : bits .xor .u8 (bz x.toUInt8) (bz c) = bz (x.toUInt8 ^^^ c) := xor8 _ _
      have E2 : Hid (byT T x c = T (x.toUInt8 ^^^ c).toNat ^^^ x >>> 8) := Lib.hid rfl
      generalize x.toUInt8 ^^^ c = i at hx E2
      have c1 : w1.cell? ⟨g, i.toNat, none⟩ = some (.int .u32 (uz (T i.toNat))) := hT.cell (UInt8.toNat_lt _)
      have b0 := bz_nonneg i
      have b1 := bz_lt i
      have b2 := bz_nat i
      have u0 := uz_nonneg x
      have u1 := uz_lt x
      clear hc hB hT hl
      go_wp2
      go_round
      case rel => exact ⟨k + 1, by omega, by go_num, by rw [E.out, E2.out]⟩
      case measure => simp [intOf]; omega
    · obtain rfl : k = len := by omega
      have e : Cr.sum bs = ~~~ feedT T (bs.take k) ones := by rw [← hB.hlen, List.take_length, ← hTT.out, feedT_tab]; rfl
      have E := Lib.hid e; clear e
      go_wp2
      go_ret
      exact ⟨ret_int (by rw [E.out]), hb⟩
end Go.Proofs.Ytakejggofghblaa
