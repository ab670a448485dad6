/-
  cdb.number, length, fieldIf, doing.
-/
import Derived.Test.YtehhhbehclpkbaaChecked
import Derived.Test.YtehhhbehclpkbaaCdMath
import Derived.Test.YtehhhbehclpkbaaShaRows
import Derived.WalkKit
import Derived.Below
import Derived.Deep.LoopGhost
import Derived.Lib.Hide
import Derived.IntWalk
import Derived.Outline
import Derived.BigGuardPart
import Derived.Laws.BitsAllLaws
namespace Go.Proofs.Ytehhhbehclpkbaa
open Go.RowKit Sh Cd

theorem or_next {bs : List UInt8} {k : Nat} (hk : k < bs.length) (h8 : bs.length ≤ 8) :
    bits .or .u64 (IntKind.u64.wrap ((beL (bs.take k) : Nat) * 2 ^ 8)) (IntKind.u64.wrap (bz (at8 bs k))) = (beL (bs.take (k + 1)) : Nat) := by
  have hb := (at8 bs k).toNat_lt
  have hl := beL_lt (bs.take k)
  rw [List.length_take, Nat.min_eq_left (by omega)] at hl
  have hp : 256 ^ k ≤ 256 ^ 7 := Nat.pow_le_pow_right (by omega) (by omega)
  have hp7 : 256 ^ 7 = 72057594037927936 := by decide
  have e1 : IntKind.u64.wrap (bz (at8 bs k)) = ((at8 bs k).toNat : Int) := by rw [IntKind.wrap_u64, bz_eq]; omega
  have e2 : IntKind.u64.wrap ((beL (bs.take k) : Nat) * 2 ^ 8) = (beL (bs.take k) * 2 ^ 8 : Nat) := by
    have : ((beL (bs.take k) : Nat) * 2 ^ 8 : Int) = (beL (bs.take k) * 2 ^ 8 : Nat) := by simp
    rw [this, IntKind.wrap_u64]; omega
  have e3 : bs.take (k + 1) = bs.take k ++ [at8 bs k] := by rw [List.take_succ_eq_append_getElem hk]; simp [at8, hk]
  rw [e1, e2, u64_or _ _ (by omega) (by omega) (by omega) (by omega), e3, beL_snoc]
  rw [Int.toNat_natCast, Int.toNat_natCast, ← Nat.shiftLeft_eq, ← Nat.shiftLeft_add_eq_or_of_lt (by omega), Nat.shiftLeft_eq]

section
variable {w : World}
set_option maxRecDepth 100000 in
set_option maxHeartbeats 800000 in
theorem number_any {bs : List UInt8} {n : Nat} (hl : bs.length = n) (hn : n ≤ 8) {g o cap : Nat} (hc : ∀ j, j < n → w.cell? ⟨g, o + j, none⟩ = some (.int .u8 (bz (at8 bs j)))) :
    Calls Try.prog 18 #[.slice (some ⟨g, o, none⟩) n cap] w fun e w' => e = .returned (.int .u64 (beL bs : Nat)) ∧ w = w' := by
  go_enter Try.func18, Try.ntmps18
  go_wp2
  go_loopg [3, 8] n (fun gg v i wx => ∃ k : Nat, k ≤ n ∧ gg = n - k ∧ v = .int .u64 (beL (bs.take k) : Nat) ∧ i = .int .i64 k ∧ wx = w)
  case atStart => exact ⟨0, by omega, rfl, rfl, rfl, rfl⟩
  case round =>
    obtain ⟨k, hk, rfl, rfl, rfl, rfl⟩ := hrel
    by_cases hlt : k < n
    · have hlt' : (k : Int) < n := by omega
      have c0 := hc k hlt
      have hor := or_next (bs := bs) (k := k) (by omega) (by omega)
      have Hor := Lib.hid hor; clear hor
      go_wp2
      go_roundg (n - (k + 1))
      case measure => omega
      case rel => exact ⟨k + 1, by omega, rfl, by rw [← Hor.out]; rfl, by go_num, rfl⟩
    · obtain rfl : k = n := by omega
      go_wp2
      go_ret
      exact ⟨by rw [List.take_of_length_le (by omega)]; rfl, rfl⟩
theorem length_any {bs : List UInt8} {n : Nat} (hl : bs.length = n) (hn : n ≤ 4) {g o cap : Nat} (hc : ∀ j, j < n → w.cell? ⟨g, o + j, none⟩ = some (.int .u8 (bz (at8 bs j)))) :
    Calls Try.prog 13 #[.slice (some ⟨g, o, none⟩) n cap] w fun e w' => e = .returned (.int .i64 (beL bs : Nat)) ∧ w = w' := by
  have hb : beL bs < 4294967296 := Nat.lt_of_lt_of_le (beL_lt bs) (by rw [hl]; exact Nat.le_trans (Nat.pow_le_pow_right (by omega) hn) (by decide))
  obtain ⟨N, hN⟩ : ∃ N, beL bs = N := ⟨_, rfl⟩
  have K := number_any (w := w) hl (by omega) (cap := cap) hc
  rw [hN] at K hb ⊢
  clear hN hc
  go_enter Try.func13, Try.ntmps13
  go_wp2_with (go_at_call 18; refine K.mono ?_; rintro e w' ⟨rfl, rfl⟩)
  go_ret
  exact ⟨rfl, rfl⟩
theorem fieldIf_any (b : Bool) : Calls Try.prog 14 #[.bool b] w fun e w' => e = .returned (.int .i64 (code b : Nat)) ∧ w = w' := by
  cases b
  all_goals
    go_enter Try.func14, Try.ntmps14
    go_wp2
    go_ret
    exact ⟨rfl, rfl⟩
theorem cast_beq (o n : Nat) : ((o : Int) == (n : Int)) = (o == n) := by
  rw [Bool.eq_iff_iff, beq_iff_eq, beq_iff_eq]; omega
set_option maxRecDepth 100000 in
set_option maxHeartbeats 800000 in
theorem doing_any (o : Nat) : Calls Try.prog 20 #[.int .u8 (o : Int)] w fun e w' => e = .returned (.int .i64 (doing o : Nat)) ∧ w = w' := by
  rcases (by omega : o = 40 ∨ o = 136 ∨ o = 42 ∨ o = 138 ∨ o = 65 ∨ o = 147 ∨ o = 137 ∨ o = 53 ∨ o = 145 ∨ (o ≠ 40 ∧ o ≠ 136 ∧ o ≠ 42 ∧ o ≠ 138 ∧ o ≠ 65 ∧ o ≠ 147 ∧ o ≠ 137 ∧ o ≠ 53 ∧ o ≠ 145)) with rfl | rfl | rfl | rfl | rfl | rfl | rfl | rfl | rfl | ⟨h1, h2, h3, h4, h5, h6, h7, h8, h9⟩
  all_goals try
    go_enter Try.func20, Try.ntmps20
    go_wp2
    go_ret
    exact ⟨rfl, rfl⟩
  have hd : doing o = 0 := by simp [doing, h1, h2, h3, h4, h5, h6, h7, h8, h9]
  rw [hd]
  have e : ∀ n : Nat, o ≠ n → ((o : Int) == (n : Int)) = false := fun n h => by rw [cast_beq]; simpa using h
  have e1 : ((o : Int) == 40) = false := e 40 h1
  have e2 : ((o : Int) == 136) = false := e 136 h2
  have e3 : ((o : Int) == 42) = false := e 42 h3
  have e4 : ((o : Int) == 138) = false := e 138 h4
  have e5 : ((o : Int) == 65) = false := e 65 h5
  have e6 : ((o : Int) == 147) = false := e 147 h6
  have e7 : ((o : Int) == 137) = false := e 137 h7
  have e8 : ((o : Int) == 53) = false := e 53 h8
  have e9 : ((o : Int) == 145) = false := e 145 h9
  clear h1 h2 h3 h4 h5 h6 h7 h8 h9 e hd
  go_enter Try.func20, Try.ntmps20
  go_wp2
  go_ret
  exact ⟨rfl, rfl⟩
end
/-- A block that holds the sixteen bytes. -/
def BoxB (B : List UInt8) (g : Nat) (w : World) : Prop := w.heap[g]? = some (.cells (B.map cu8).toArray 34 (0, 0))
section
variable {w : World} {B : List UInt8} {g : Nat}
theorem BoxB.cell (h : BoxB B g w) (hB : B.length = 16) (i : Nat) (hi : i < 16) : w.cell? ⟨g, i, none⟩ = some (.int .u8 (b8 B i : Nat)) := by
  rw [cell_of_row w g i _ _ _ h]
  simp [cu8, at8, b8, hB, hi]; rfl
theorem BoxB.number (h : BoxB B g w) (hB : B.length = 16) (i n cap : Nat) (hi : i + n ≤ 16) (hn : n ≤ 8) :
    Calls Try.prog 18 #[.slice (some ⟨g, i, none⟩) n cap] w fun e w' => e = .returned (.int .u64 (be B i n : Nat)) ∧ w = w' :=
  number_any (by simp; omega) hn (fun j hj => by
    rw [h.cell hB (i + j) (by omega)]
    simp [at8, b8, hj]; rfl)
theorem BoxB.length (h : BoxB B g w) (hB : B.length = 16) (i n cap : Nat) (hi : i + n ≤ 16) (hn : n ≤ 4) :
    Calls Try.prog 13 #[.slice (some ⟨g, i, none⟩) n cap] w fun e w' => e = .returned (.int .i64 (be B i n : Nat)) ∧ w = w' :=
  length_any (by simp; omega) hn (fun j hj => by
    rw [h.cell hB (i + j) (by omega)]
    simp [at8, b8, hj]; rfl)
end
end Go.Proofs.Ytehhhbehclpkbaa
