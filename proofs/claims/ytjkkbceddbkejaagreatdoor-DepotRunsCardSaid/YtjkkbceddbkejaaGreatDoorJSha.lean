import Derived.WalkKit
import Derived.Laws.BitsAllLaws
import Derived.Laws.DeepBits32
import Derived.Deep.WholeRow
import Derived.Deep.MidRow
import Derived.Deep.OwnRows
import Derived.Laws.CopyOwn
import Derived.Lib.Hide
import Derived.RegionTactic
import Derived.Deep.AppendLies
import Derived.Deep.Draws
import Derived.Test.YtjkkbceddbkejaaGreatDoorRows
import Derived.WalkSpells
import Derived.WalkLawsBesides
import Derived.Deep.QuietTactic
import Derived.BigQuiet
import Derived.Deep.LoopGhost
import Derived.StillTailTactics
import Derived.Deep.Light
import Derived.Deep.RegionLaw
import Derived.Deep.RegionHeld3
set_option linter.unusedSimpArgs false
set_option linter.unusedVariables false
/-
  The digest of 256 bits as plain functions on numbers of 32 bits, and the laws by which the walk's integer terms fold into them. No program is named here.
-/
namespace Go.Proofs.YtjkkbceddbkejaaGreatDoor.Sh

/-- A number of 32 bits as the walk's integer. -/
def uz (x : UInt32) : Int := (x.toNat : Int)
/-- A byte as the walk's integer. -/
def bz (x : UInt8) : Int := (x.toNat : Int)

theorem uz_eq (x : UInt32) : uz x = (x.toNat : Int) := rfl
theorem bz_eq (x : UInt8) : bz x = (x.toNat : Int) := rfl
theorem uz_nonneg (x : UInt32) : 0 ≤ uz x := by rw [uz_eq]; omega
theorem uz_lt (x : UInt32) : uz x < 4294967296 := by rw [uz_eq]; have := x.toNat_lt; omega
theorem bz_nonneg (x : UInt8) : 0 ≤ bz x := by rw [bz_eq]; omega
theorem bz_lt (x : UInt8) : bz x < 256 := by rw [bz_eq]; have := x.toNat_lt; omega
theorem uz_inj {a b : UInt32} (h : uz a = uz b) : a = b := by
  rw [uz_eq, uz_eq] at h; exact UInt32.toNat_inj.1 (by omega)
theorem bz_inj {a b : UInt8} (h : bz a = bz b) : a = b := by
  rw [bz_eq, bz_eq] at h; exact UInt8.toNat_inj.1 (by omega)

def rot (x : UInt32) (n : Nat) : UInt32 := (x >>> UInt32.ofNat n) ||| (x <<< UInt32.ofNat (32 - n))

-- 32 bits
theorem add32 (a b : UInt32) : IntKind.u32.wrap (uz a + uz b) = uz (a + b) := by
  rw [IntKind.wrap_u32, uz_eq, uz_eq, uz_eq, UInt32.toNat_add]; omega
theorem xor32 (a b : UInt32) : bits .xor .u32 (uz a) (uz b) = uz (a ^^^ b) := by
  rw [u32_xor _ _ (uz_nonneg a) (uz_lt a) (uz_nonneg b) (uz_lt b), uz_eq, uz_eq, uz_eq, UInt32.toNat_xor]; rfl
theorem and32 (a b : UInt32) : bits .and .u32 (uz a) (uz b) = uz (a &&& b) := by
  rw [u32_and _ _ (uz_nonneg a) (uz_lt a) (uz_nonneg b) (uz_lt b), uz_eq, uz_eq, uz_eq, UInt32.toNat_and]; rfl
theorem or32 (a b : UInt32) : bits .or .u32 (uz a) (uz b) = uz (a ||| b) := by
  rw [u32_or _ _ (uz_nonneg a) (uz_lt a) (uz_nonneg b) (uz_lt b), uz_eq, uz_eq, uz_eq, UInt32.toNat_or]; rfl
theorem shr_nat (x : UInt32) (n : Nat) (h : n < 32) : (x >>> UInt32.ofNat n).toNat = x.toNat / 2 ^ n := by
  rw [UInt32.toNat_shiftRight, UInt32.toNat_ofNat', Nat.shiftRight_eq_div_pow]
  have : n % 2 ^ 32 % 32 = n := by omega
  rw [this]
theorem shl_nat (x : UInt32) (n : Nat) (h : n < 32) : (x <<< UInt32.ofNat n).toNat = x.toNat * 2 ^ n % 4294967296 := by
  rw [UInt32.toNat_shiftLeft, UInt32.toNat_ofNat', Nat.shiftLeft_eq]
  have : n % 2 ^ 32 % 32 = n := by omega
  rw [this]
theorem shr32 (x : UInt32) (n : Nat) (h : n < 32) : uz x / 2 ^ n = uz (x >>> UInt32.ofNat n) := by
  rw [uz_eq, uz_eq, shr_nat x n h]; simp
theorem shl32 (x : UInt32) (n : Nat) (h : n < 32) : IntKind.u32.wrap (uz x * 2 ^ n) = uz (x <<< UInt32.ofNat n) := by
  rw [IntKind.wrap_u32, uz_eq, uz_eq, shl_nat x n h]; simp
theorem rot32 (x : UInt32) (n : Int) (h0 : 0 < n) (h1 : n < 32) :
    bits .or .u32 (uz x / 2 ^ n.toNat) (IntKind.u32.wrap (uz x * 2 ^ (32 - n).toNat)) = uz (rot x n.toNat) := by
  have e : (32 - n).toNat = 32 - n.toNat := by omega
  rw [e, shr32 x _ (by omega), shl32 x _ (by omega), or32]; rfl
theorem not32 (x : UInt32) : bits .xor .u32 4294967295 (uz x) = uz (~~~x) := by
  have e : (4294967295 : Int) = uz 4294967295 := rfl
  rw [e, xor32]
  congr 1

theorem not32' (x : UInt32) : bits .xor .u32 IntKind.u32.max (uz x) = uz (~~~x) := not32 x
-- 64 bits, of numbers of 32
theorem xor64 (a b : UInt32) : bits .xor .u64 (uz a) (uz b) = uz (a ^^^ b) := by
  have ha := uz_lt a; have hb := uz_lt b
  rw [u64_xor _ _ (uz_nonneg a) (by omega) (uz_nonneg b) (by omega), uz_eq, uz_eq, uz_eq, UInt32.toNat_xor]; rfl
theorem and64 (a b : UInt32) : bits .and .u64 (uz a) (uz b) = uz (a &&& b) := by
  have ha := uz_lt a; have hb := uz_lt b
  rw [u64_and _ _ (uz_nonneg a) (by omega) (uz_nonneg b) (by omega), uz_eq, uz_eq, uz_eq, UInt32.toNat_and]; rfl
theorem not64' (x : UInt32) : 4294967295 - uz x = uz (~~~x) := by
  rw [uz_eq, uz_eq, UInt32.toNat_not]
  have := x.toNat_lt
  simp only [UInt32.size]; omega
theorem not64 (x : UInt32) : IntKind.u64.wrap (4294967295 - uz x) = uz (~~~x) := by
  rw [not64', IntKind.wrap_u64]
  have := uz_lt (~~~x); have := uz_nonneg (~~~x); omega
theorem sum2 (a b : UInt32) : IntKind.u64.wrap (uz a + uz b) = uz a + uz b := by
  have := uz_lt a; have := uz_nonneg a; have := uz_lt b; have := uz_nonneg b
  rw [IntKind.wrap_u64]; omega
theorem sum3 (a b c : UInt32) : IntKind.u64.wrap (uz a + uz b + uz c) = uz a + uz b + uz c := by
  have := uz_lt a; have := uz_nonneg a; have := uz_lt b; have := uz_nonneg b; have := uz_lt c; have := uz_nonneg c
  rw [IntKind.wrap_u64]; omega
theorem sum4 (a b c d : UInt32) : IntKind.u64.wrap (uz a + uz b + uz c + uz d) = uz a + uz b + uz c + uz d := by
  have := uz_lt a; have := uz_nonneg a; have := uz_lt b; have := uz_nonneg b; have := uz_lt c; have := uz_nonneg c
  have := uz_lt d; have := uz_nonneg d
  rw [IntKind.wrap_u64]; omega
theorem sum5 (a b c d e : UInt32) : IntKind.u64.wrap (uz a + uz b + uz c + uz d + uz e) = uz a + uz b + uz c + uz d + uz e := by
  have := uz_lt a; have := uz_nonneg a; have := uz_lt b; have := uz_nonneg b; have := uz_lt c; have := uz_nonneg c
  have := uz_lt d; have := uz_nonneg d; have := uz_lt e; have := uz_nonneg e
  rw [IntKind.wrap_u64]; omega
theorem tmod_pos (n : Int) (h : 0 ≤ n) : n.tmod 4294967296 = n % 4294967296 := Int.tmod_eq_emod_of_nonneg h
theorem mod2 (a b : UInt32) : (uz a + uz b).tmod 4294967296 = uz (a + b) := by
  have := uz_nonneg a; have := uz_nonneg b
  rw [tmod_pos _ (by omega), uz_eq, uz_eq, uz_eq, UInt32.toNat_add]; omega
theorem mod4 (a b c d : UInt32) : (uz a + uz b + uz c + uz d).tmod 4294967296 = uz (a + b + c + d) := by
  have := uz_nonneg a; have := uz_nonneg b; have := uz_nonneg c; have := uz_nonneg d
  rw [tmod_pos _ (by omega), uz_eq, uz_eq, uz_eq, uz_eq, uz_eq, UInt32.toNat_add, UInt32.toNat_add, UInt32.toNat_add]; omega
theorem mod5 (a b c d e : UInt32) : (uz a + uz b + uz c + uz d + uz e).tmod 4294967296 = uz (a + b + c + d + e) := by
  have := uz_nonneg a; have := uz_nonneg b; have := uz_nonneg c; have := uz_nonneg d; have := uz_nonneg e
  rw [tmod_pos _ (by omega), uz_eq, uz_eq, uz_eq, uz_eq, uz_eq, uz_eq, UInt32.toNat_add, UInt32.toNat_add, UInt32.toNat_add, UInt32.toNat_add]; omega
theorem emod2 (a b : UInt32) : (uz a + uz b) % 4294967296 = uz (a + b) := by
  have := uz_nonneg a; have := uz_nonneg b
  rw [← tmod_pos _ (by omega)]; exact mod2 a b
theorem emod4 (a b c d : UInt32) : (uz a + uz b + uz c + uz d) % 4294967296 = uz (a + b + c + d) := by
  have := uz_nonneg a; have := uz_nonneg b; have := uz_nonneg c; have := uz_nonneg d
  rw [← tmod_pos _ (by omega)]; exact mod4 a b c d
theorem emod5 (a b c d e : UInt32) : (uz a + uz b + uz c + uz d + uz e) % 4294967296 = uz (a + b + c + d + e) := by
  have := uz_nonneg a; have := uz_nonneg b; have := uz_nonneg c; have := uz_nonneg d; have := uz_nonneg e
  rw [← tmod_pos _ (by omega)]; exact mod5 a b c d e
/-- A turn by arithmetic on numbers of 64 bits. -/
theorem rot64 (x : UInt32) (n : Int) (h0 : 0 < n) (h1 : n < 32) :
    (IntKind.u64.wrap (uz x / 2 ^ n.toNat + IntKind.u64.wrap (uz x * 2 ^ (32 - n).toNat))).tmod 4294967296 = uz (rot x n.toNat) := by
  obtain ⟨k, rfl⟩ := Int.eq_ofNat_of_zero_le (Int.le_of_lt h0)
  have hk0 : 0 < k := by omega
  have hk1 : k < 32 := by omega
  have e : (32 - (k : Int)).toNat = 32 - k := by omega
  rw [Int.toNat_natCast, e]
  have hx := x.toNat_lt
  have hp : (2 : Nat) ^ (32 - k) ≤ 2 ^ 31 := Nat.pow_le_pow_right (by omega) (by omega)
  have hm : x.toNat * 2 ^ (32 - k) < 2 ^ 32 * 2 ^ 31 := by
    calc x.toNat * 2 ^ (32 - k) ≤ x.toNat * 2 ^ 31 := Nat.mul_le_mul_left _ hp
      _ < 2 ^ 32 * 2 ^ 31 := by omega
  have hd : x.toNat / 2 ^ k ≤ x.toNat := Nat.div_le_self _ _
  have h2 : uz x * 2 ^ (32 - k) = ((x.toNat * 2 ^ (32 - k) : Nat) : Int) := by rw [uz_eq]; simp
  have h3 : uz x / 2 ^ k = ((x.toNat / 2 ^ k : Nat) : Int) := by rw [uz_eq]; simp
  have key : (rot x k).toNat = (x.toNat / 2 ^ k + x.toNat * 2 ^ (32 - k)) % 4294967296 := by
    unfold rot
    rw [UInt32.toNat_or, shr_nat x k hk1, shl_nat x (32 - k) (by omega)]
    -- the low part is less than 2 ^ (32 - k), the high part is a multiple of it
    have hlow : x.toNat / 2 ^ k < 2 ^ (32 - k) := by
      rw [Nat.div_lt_iff_lt_mul (Nat.two_pow_pos k), ← Nat.pow_add]
      have : 32 - k + k = 32 := by omega
      rw [this]; exact hx
    have h4 : (4294967296 : Nat) = 2 ^ (32 - k) * 2 ^ k := by
      rw [← Nat.pow_add]
      have : 32 - k + k = 32 := by omega
      rw [this]
    have hsplit : x.toNat * 2 ^ (32 - k) % 4294967296 = 2 ^ (32 - k) * (x.toNat % 2 ^ k) := by
      rw [h4, Nat.mul_comm x.toNat, Nat.mul_mod_mul_left]
    rw [hsplit, Nat.or_comm, ← Nat.two_pow_add_eq_or_of_lt hlow]
    have hlt : x.toNat % 2 ^ k < 2 ^ k := Nat.mod_lt _ (Nat.two_pow_pos k)
    have hmul : 2 ^ (32 - k) * (x.toNat % 2 ^ k) + x.toNat / 2 ^ k < 4294967296 := by
      have h5 : 2 ^ (32 - k) * (x.toNat % 2 ^ k) ≤ 2 ^ (32 - k) * (2 ^ k - 1) := Nat.mul_le_mul_left _ (by omega)
      have h6 : 2 ^ (32 - k) * (2 ^ k - 1) = 4294967296 - 2 ^ (32 - k) := by rw [Nat.mul_sub, ← h4]; omega
      have h7 : (2 : Nat) ^ (32 - k) ≤ 4294967296 := by
        have : (2 : Nat) ^ (32 - k) ≤ 2 ^ 32 := Nat.pow_le_pow_right (by omega) (by omega)
        omega
      generalize 2 ^ (32 - k) * (x.toNat % 2 ^ k) = A at *
      generalize 2 ^ (32 - k) * (2 ^ k - 1) = B at *
      omega
    rw [← Nat.mod_eq_of_lt hmul, ← hsplit]
    generalize x.toNat * 2 ^ (32 - k) = A at *
    omega
  rw [h2, h3]
  generalize hA : x.toNat * 2 ^ (32 - k) = A at *
  generalize hB : x.toNat / 2 ^ k = B at *
  have w1 : IntKind.u64.wrap (A : Int) = (A : Int) := by rw [IntKind.wrap_u64]; omega
  rw [w1]
  have w2 : IntKind.u64.wrap ((B : Int) + (A : Int)) = ((B + A : Nat) : Int) := by rw [IntKind.wrap_u64]; omega
  rw [w2, tmod_pos _ (by omega), uz_eq, key]; simp

/-- .. and as the walk of 32 bits spells it. -/
theorem rot32' (x : UInt32) (n : Int) (h0 : 0 < n) (h1 : n < 32) :
    bits .or .u32 (uz x / 2 ^ n.toNat) (uz x * 2 ^ (32 - n).toNat % 4294967296) = uz (rot x n.toNat) := by
  rw [← rot32 x n h0 h1, IntKind.wrap_u32]
theorem add32' (a b : UInt32) : (uz a + uz b) % 4294967296 = uz (a + b) := emod2 a b

-- bytes
def be4 (a b c d : UInt8) : UInt32 := a.toUInt32 <<< 24 ||| b.toUInt32 <<< 16 ||| c.toUInt32 <<< 8 ||| d.toUInt32
def at8 (p : List UInt8) (i : Nat) : UInt8 := p.getD i 0
def at32 (p : List UInt32) (i : Nat) : UInt32 := p.getD i 0
theorem at32_snoc (l : List UInt32) (x : UInt32) (j : Nat) : at32 (l ++ [x]) j = if j = l.length then x else at32 l j := by
  unfold at32
  rw [List.getD_eq_getElem?_getD, List.getD_eq_getElem?_getD, List.getElem?_append]
  by_cases h : j < l.length
  · rw [if_pos h, if_neg (by omega)]
  · rw [if_neg h]
    by_cases e : j = l.length
    · subst e; simp
    · rw [if_neg e, List.getElem?_eq_none (by simp; omega), List.getElem?_eq_none (by omega)]
theorem conv8 (b : UInt8) : IntKind.u32.wrap (bz b) = uz b.toUInt32 := by
  have := bz_lt b; have := bz_nonneg b
  rw [IntKind.wrap_u32, uz_eq, UInt8.toNat_toUInt32, ← bz_eq]; omega
theorem conv8' (b : UInt8) : bz b % (4294967296 : Int) = uz b.toUInt32 := by rw [← conv8, IntKind.wrap_u32]
theorem conv64 (b : UInt8) : IntKind.u64.wrap (bz b) = uz b.toUInt32 := by
  have := bz_lt b; have := bz_nonneg b
  rw [IntKind.wrap_u64, uz_eq, UInt8.toNat_toUInt32, ← bz_eq]; omega
theorem shl24 (x : UInt32) : IntKind.u32.wrap (uz x * (16777216 : Int)) = uz (x <<< 24) := shl32 x 24 (by omega)
theorem shl16 (x : UInt32) : IntKind.u32.wrap (uz x * (65536 : Int)) = uz (x <<< 16) := shl32 x 16 (by omega)
theorem shl8 (x : UInt32) : IntKind.u32.wrap (uz x * (256 : Int)) = uz (x <<< 8) := shl32 x 8 (by omega)
theorem shl24' (x : UInt32) : uz x * (16777216 : Int) % (4294967296 : Int) = uz (x <<< 24) := (IntKind.wrap_u32 _).symm.trans (shl24 x)
theorem shl16' (x : UInt32) : uz x * (65536 : Int) % (4294967296 : Int) = uz (x <<< 16) := (IntKind.wrap_u32 _).symm.trans (shl16 x)
theorem shl8' (x : UInt32) : uz x * (256 : Int) % (4294967296 : Int) = uz (x <<< 8) := (IntKind.wrap_u32 _).symm.trans (shl8 x)
theorem shr3 (x : UInt32) : uz x / (8 : Int) = uz (x >>> 3) := shr32 x 3 (by omega)
theorem shr10 (x : UInt32) : uz x / (1024 : Int) = uz (x >>> 10) := shr32 x 10 (by omega)
theorem shr24 (x : UInt32) : uz x / (16777216 : Int) = uz (x >>> 24) := shr32 x 24 (by omega)
theorem shr16 (x : UInt32) : uz x / (65536 : Int) = uz (x >>> 16) := shr32 x 16 (by omega)
theorem shr8 (x : UInt32) : uz x / (256 : Int) = uz (x >>> 8) := shr32 x 8 (by omega)
theorem xor32_3 (a b : UInt32) : bits .xor .u32 (uz a) (uz b / (8 : Int)) = uz (a ^^^ b >>> 3) := by rw [shr3, xor32]
theorem xor32_10 (a b : UInt32) : bits .xor .u32 (uz a) (uz b / (1024 : Int)) = uz (a ^^^ b >>> 10) := by rw [shr10, xor32]
theorem xor64_3 (a b : UInt32) : bits .xor .u64 (uz a) (uz b / (8 : Int)) = uz (a ^^^ b >>> 3) := by rw [shr3, xor64]
theorem xor64_10 (a b : UInt32) : bits .xor .u64 (uz a) (uz b / (1024 : Int)) = uz (a ^^^ b >>> 10) := by rw [shr10, xor64]
theorem low8 (x : UInt32) : IntKind.u8.wrap (uz x) = bz x.toUInt8 := by
  rw [IntKind.wrap_u8', bz_eq, uz_eq, UInt32.toNat_toUInt8]; simp
theorem low8' (x : UInt32) : uz x % (256 : Int) = bz x.toUInt8 := by rw [← low8, IntKind.wrap_u8']

-- a number out of four bytes, by sums on numbers of 64 bits
theorem be4_nat (a b c d : UInt8) : (be4 a b c d).toNat = a.toNat * 16777216 + b.toNat * 65536 + c.toNat * 256 + d.toNat := by
  have ha := a.toNat_lt; have hb := b.toNat_lt; have hc := c.toNat_lt; have hd := d.toNat_lt
  unfold be4
  have e1 : (a.toUInt32 <<< 24).toNat = a.toNat * 16777216 := by
    have := shl_nat a.toUInt32 24 (by omega)
    rw [UInt8.toNat_toUInt32] at this
    have h2 : (a.toUInt32 <<< UInt32.ofNat 24).toNat = (a.toUInt32 <<< 24).toNat := rfl
    rw [← h2, this]; omega
  have e2 : (b.toUInt32 <<< 16).toNat = b.toNat * 65536 := by
    have := shl_nat b.toUInt32 16 (by omega)
    rw [UInt8.toNat_toUInt32] at this
    have h2 : (b.toUInt32 <<< UInt32.ofNat 16).toNat = (b.toUInt32 <<< 16).toNat := rfl
    rw [← h2, this]; omega
  have e3 : (c.toUInt32 <<< 8).toNat = c.toNat * 256 := by
    have := shl_nat c.toUInt32 8 (by omega)
    rw [UInt8.toNat_toUInt32] at this
    have h2 : (c.toUInt32 <<< UInt32.ofNat 8).toNat = (c.toUInt32 <<< 8).toNat := rfl
    rw [← h2, this]; omega
  rw [UInt32.toNat_or, UInt32.toNat_or, UInt32.toNat_or, e1, e2, e3, UInt8.toNat_toUInt32]
  have o1 : a.toNat * 16777216 ||| b.toNat * 65536 = 16777216 * a.toNat + b.toNat * 65536 := by
    rw [Nat.mul_comm, show (16777216 : Nat) = 2 ^ 24 from rfl, Nat.two_pow_add_eq_or_of_lt (by omega)]
  have o2 : (16777216 * a.toNat + b.toNat * 65536) ||| c.toNat * 256 = 65536 * (256 * a.toNat + b.toNat) + c.toNat * 256 := by
    rw [show 16777216 * a.toNat + b.toNat * 65536 = 2 ^ 16 * (256 * a.toNat + b.toNat) by omega, show (65536 : Nat) = 2 ^ 16 from rfl, Nat.two_pow_add_eq_or_of_lt (by omega)]
  have o3 : (65536 * (256 * a.toNat + b.toNat) + c.toNat * 256) ||| d.toNat = 256 * (65536 * a.toNat + 256 * b.toNat + c.toNat) + d.toNat := by
    rw [show 65536 * (256 * a.toNat + b.toNat) + c.toNat * 256 = 2 ^ 8 * (65536 * a.toNat + 256 * b.toNat + c.toNat) by omega, show (256 : Nat) * (65536 * a.toNat + 256 * b.toNat + c.toNat) + d.toNat = 2 ^ 8 * (65536 * a.toNat + 256 * b.toNat + c.toNat) + d.toNat from rfl, Nat.two_pow_add_eq_or_of_lt (by omega)]
  rw [o1, o2, o3]; omega
theorem uz8 (x : UInt8) : uz x.toUInt32 = bz x := by rw [uz_eq, bz_eq, UInt8.toNat_toUInt32]
theorem be4a (a : UInt8) : IntKind.u64.wrap (bz a * (16777216 : Int)) = bz a * (16777216 : Int) := by
  have := bz_lt a; have := bz_nonneg a
  rw [IntKind.wrap_u64]; omega
theorem be4b (a : UInt8) : IntKind.u64.wrap (bz a * (65536 : Int)) = bz a * (65536 : Int) := by
  have := bz_lt a; have := bz_nonneg a
  rw [IntKind.wrap_u64]; omega
theorem be4c (a : UInt8) : IntKind.u64.wrap (bz a * (256 : Int)) = bz a * (256 : Int) := by
  have := bz_lt a; have := bz_nonneg a
  rw [IntKind.wrap_u64]; omega
theorem be4d (a b : UInt8) : IntKind.u64.wrap (bz a * (16777216 : Int) + bz b * (65536 : Int)) = bz a * (16777216 : Int) + bz b * (65536 : Int) := by
  have := bz_lt a; have := bz_nonneg a; have := bz_lt b; have := bz_nonneg b
  rw [IntKind.wrap_u64]; omega
theorem be4e (a b c : UInt8) : IntKind.u64.wrap (bz a * (16777216 : Int) + bz b * (65536 : Int) + bz c * (256 : Int)) = bz a * (16777216 : Int) + bz b * (65536 : Int) + bz c * (256 : Int) := by
  have := bz_lt a; have := bz_nonneg a; have := bz_lt b; have := bz_nonneg b; have := bz_lt c; have := bz_nonneg c
  rw [IntKind.wrap_u64]; omega
theorem be4f (a b c d : UInt8) : IntKind.u64.wrap (bz a * (16777216 : Int) + bz b * (65536 : Int) + bz c * (256 : Int) + bz d) = uz (be4 a b c d) := by
  have := bz_lt a; have := bz_nonneg a; have := bz_lt b; have := bz_nonneg b; have := bz_lt c; have := bz_nonneg c; have := bz_lt d; have := bz_nonneg d
  rw [IntKind.wrap_u64, uz_eq, be4_nat]
  simp only [bz_eq] at *
  omega
theorem convb64 (a : UInt8) : IntKind.u64.wrap (bz a) = bz a := by
  have := bz_lt a; have := bz_nonneg a
  rw [IntKind.wrap_u64]; omega

-- cells
def cu32 (x : UInt32) : Value := .int .u32 (uz x)
def cu64 (x : UInt32) : Value := .int .u64 (uz x)
def cu8 (x : UInt8) : Value := .int .u8 (bz x)

/-- The state. -/
structure S8 where
  a : UInt32
  b : UInt32
  c : UInt32
  d : UInt32
  e : UInt32
  f : UInt32
  g : UInt32
  h : UInt32

def S8.list (s : S8) : List UInt32 := [s.a, s.b, s.c, s.d, s.e, s.f, s.g, s.h]
def s32 (s : S8) : Array Value := (s.list.map cu32).toArray
def s64 (s : S8) : Array Value := (s.list.map cu64).toArray

def initS : S8 := ⟨0x6a09e667, 0xbb67ae85, 0x3c6ef372, 0xa54ff53a, 0x510e527f, 0x9b05688c, 0x1f83d9ab, 0x5be0cd19⟩
def kTab : List UInt32 := [0x428a2f98, 0x71374491, 0xb5c0fbcf, 0xe9b5dba5, 0x3956c25b, 0x59f111f1, 0x923f82a4, 0xab1c5ed5,
  0xd807aa98, 0x12835b01, 0x243185be, 0x550c7dc3, 0x72be5d74, 0x80deb1fe, 0x9bdc06a7, 0xc19bf174,
  0xe49b69c1, 0xefbe4786, 0x0fc19dc6, 0x240ca1cc, 0x2de92c6f, 0x4a7484aa, 0x5cb0a9dc, 0x76f988da,
  0x983e5152, 0xa831c66d, 0xb00327c8, 0xbf597fc7, 0xc6e00bf3, 0xd5a79147, 0x06ca6351, 0x14292967,
  0x27b70a85, 0x2e1b2138, 0x4d2c6dfc, 0x53380d13, 0x650a7354, 0x766a0abb, 0x81c2c92e, 0x92722c85,
  0xa2bfe8a1, 0xa81a664b, 0xc24b8b70, 0xc76c51a3, 0xd192e819, 0xd6990624, 0xf40e3585, 0x106aa070,
  0x19a4c116, 0x1e376c08, 0x2748774c, 0x34b0bcb5, 0x391c0cb3, 0x4ed8aa4a, 0x5b9cca4f, 0x682e6ff3,
  0x748f82ee, 0x78a5636f, 0x84c87814, 0x8cc70208, 0x90befffa, 0xa4506ceb, 0xbef9a3f7, 0xc67178f2]
def k32 : Array Value := (kTab.map cu32).toArray
def k64 : Array Value := (kTab.map cu64).toArray

-- the numbers of a block
def sig0 (x : UInt32) : UInt32 := rot x 7 ^^^ rot x 18 ^^^ x >>> 3
def sig1 (x : UInt32) : UInt32 := rot x 17 ^^^ rot x 19 ^^^ x >>> 10
def wNext (l : List UInt32) (i : Nat) : UInt32 := at32 l (i - 16) + sig0 (at32 l (i - 15)) + at32 l (i - 7) + sig1 (at32 l (i - 2))
def wFirst (p : List UInt8) (i : Nat) : UInt32 := be4 (at8 p (4 * i)) (at8 p (4 * i + 1)) (at8 p (4 * i + 2)) (at8 p (4 * i + 3))
def sched (p : List UInt8) : Nat → List UInt32
  | 0 => []
  | i + 1 => sched p i ++ [if i < 16 then wFirst p i else wNext (sched p i) i]
theorem sched_length (p : List UInt8) (i : Nat) : (sched p i).length = i := by
  induction i with
  | zero => rfl
  | succ i ih => simp [sched, ih]

theorem sched_low (p : List UInt8) (i : Nat) (h : i < 16) (j : Nat) : at32 (sched p (i + 1)) j = if j = i then wFirst p i else at32 (sched p i) j := by
  rw [sched, if_pos h, at32_snoc, sched_length]
theorem sched_high (p : List UInt8) (i : Nat) (h : ¬ i < 16) (j : Nat) : at32 (sched p (i + 1)) j = if j = i then wNext (sched p i) i else at32 (sched p i) j := by
  rw [sched, if_neg h, at32_snoc, sched_length]

-- the rounds
def rndP (s : S8) (k w : UInt32) : UInt32 := s.h + (rot s.e 6 ^^^ rot s.e 11 ^^^ rot s.e 25) + (s.e &&& s.f ^^^ ~~~s.e &&& s.g) + k + w
def rndQ (s : S8) : UInt32 := (rot s.a 2 ^^^ rot s.a 13 ^^^ rot s.a 22) + (s.a &&& s.b ^^^ s.a &&& s.c ^^^ s.b &&& s.c)
def rnd (s : S8) (k w : UInt32) : S8 := ⟨rndP s k w + rndQ s, s.a, s.b, s.c, s.d + rndP s k w, s.e, s.f, s.g⟩
def rnds (s : S8) (p : List UInt8) : Nat → S8
  | 0 => s
  | i + 1 => rnd (rnds s p i) (at32 kTab i) (at32 (sched p 64) i)
def addS (s t : S8) : S8 := ⟨s.a + t.a, s.b + t.b, s.c + t.c, s.d + t.d, s.e + t.e, s.f + t.f, s.g + t.g, s.h + t.h⟩
def comp (s : S8) (p : List UInt8) : S8 := addS (rnds s p 64) s

-- the digest of a state, as bytes; what stands behind the bytes; the digest
def dig4 (x : UInt32) : List UInt8 := [(x >>> 24).toUInt8, (x >>> 16).toUInt8, (x >>> 8).toUInt8, x.toUInt8]
def digS (s : S8) : List UInt8 := dig4 s.a ++ dig4 s.b ++ dig4 s.c ++ dig4 s.d ++ dig4 s.e ++ dig4 s.f ++ dig4 s.g ++ dig4 s.h
def pad0 (n : Nat) : Nat := (119 - n % 64) % 64
def be8 (n : Nat) : List UInt8 := (List.range 8).map fun i => UInt8.ofNat (n / 2 ^ (8 * (7 - i)))
def ending (n : Nat) : List UInt8 := 128 :: (List.replicate (pad0 n) 0 ++ be8 (n * 8))
/-- Block i of bytes. -/
def blk (m : List UInt8) (i : Nat) : List UInt8 := (m.drop (64 * i)).take 64
/-- The state behind the first k blocks. -/
def stateOf (m : List UInt8) : Nat → S8
  | 0 => initS
  | k + 1 => comp (stateOf m k) (blk m k)
def dig (m : List UInt8) : List UInt8 := digS (stateOf (m ++ ending m.length) ((m.length + (ending m.length).length) / 64))

/-- The cells of a hash. -/
def hCells (s : S8) (wt : List UInt8) (n : Nat) : List Value := s.list.map cu32 ++ (wt.map cu8 ++ [.int .u64 n])
theorem hCells_length (s : S8) (wt : List UInt8) (n : Nat) (h : wt.length = 64) : (hCells s wt n).length = 73 := by
  simp [hCells, S8.list, h]

end Go.Proofs.YtjkkbceddbkejaaGreatDoor.Sh

/-
  Laws on rows and arrays of one-cell numbers; no program is named here.
-/
namespace Go.Proofs.YtjkkbceddbkejaaGreatDoor
open Go.RowKit Sh

/-- A cell out of an array by value. -/
theorem run_index_row {P : Program} (T E : TypeId) (n : Nat) (hT : P.underlying T = some (.array n E)) {K : IntKind} (hE : P.underlying E = some (.int K)) (hs : (P.info? E).map (·.size) = some 1)
    (cs : Array Value) (k : Nat) (hk : k < n) (v : Value) (hv : cs[k]? = some v) (w : World) :
    (Instr.index T (.agg cs) (.int .i64 (k : Int))).run P w = .ok v w := by
  have hagg : (isAgg E).run P w = .ok false w := by
    unfold isAgg
    rw [Sem.run_bind, run_underlying hE w]
    rfl
  have hsz : (sizeOf E).run P w = .ok 1 w := by
    cases hq : P.info? E with
    | none => simp [hq] at hs
    | some i =>
      have hi : i.size = 1 := by simpa [hq] using hs
      simp [sizeOf, typeInfo, hq, hi]
  have h1 : (0 : Int) ≤ (k : Int) ∧ (k : Int) < (n : Int) := by omega
  have hp : (part E cs k).run P w = .ok v w := by
    unfold part
    rw [Sem.run_bind, hagg]
    simp [Result.andThen, hv]
  unfold Instr.index asIntOf
  simp only [Sem.run_bind, Sem.run_pure, Result.andThen_ok, run_underlying hT w]
  rw [if_pos h1, Sem.run_bind, hsz]
  simpa [Result.andThen] using hp

/-- A load by what 'loadAt' gives. -/
theorem exec_load {P : Program} {w : World} (o : Oper) (ρ : Operand → Value) (ty : TypeId) (x : Operand) (ho : o.op = .load ty x) (b off : Nat) (hx : ρ x = .pointer (some ⟨b, off, none⟩)) (cs : Array Value)
    (hr : (Instr.loadAt ty (.pointer (some ⟨b, off, none⟩))).run P w = .ok (.agg cs) w) : (execOp ρ o).run P w = .ok (.value (.agg cs)) w := by
  unfold execOp
  simp only [ho, hx, Sem.run_bind, hr, Result.andThen_ok, Sem.run_pure]

/-- Two operations that only read may come up, and nobody else: whichever comes first. -/
theorem wpAny_two {P : Program} {ops : Array Oper} {md : Region.Mode} {Q : Exit → Act → World → Prop} {fuel : Nat} {listed : Array Bool} {a : Act} {w : World} (i j : Nat) (oi oj : Oper) (vi vj : Value)
    (hi : ops[i]? = some oi) (hj : ops[j]? = some oj) (gi : oi.guard = none) (gj : oj.guard = none)
    (hr : Region.ready md ops listed = [i, j]) (hri : Region.ready md ops (listed.setIfInBounds i true) = [j]) (hrj : Region.ready md ops (listed.setIfInBounds j true) = [i]) (hij : i ≠ j)
    (ri : (execOp a.eval oi).run P w = .ok (.value vi) w) (rj : (execOp a.eval oj).run P w = .ok (.value vj) w)
    (ri' : (execOp (a.put oj.dst vj).eval oi).run P w = .ok (.value vi) w) (rj' : (execOp (a.put oi.dst vi).eval oj).run P w = .ok (.value vj) w)
    (hc : (a.put oj.dst vj).put oi.dst vi = (a.put oi.dst vi).put oj.dst vj)
    (h : wpAny P md ops Q fuel ((listed.setIfInBounds i true).setIfInBounds j true) ((a.put oi.dst vi).put oj.dst vj) w) : wpAny P md ops Q (fuel + 2) listed a w := by
  have step : ∀ (k : Nat) (ok : Oper) (v : Value) (b : Act) (K : Act → World → Prop), ops[k]? = some ok → ok.guard = none → (execOp b.eval ok).run P w = .ok (.value v) w → K (b.put ok.dst v) w → wpOp P ops Q k K b w := fun k ok v b K hk hg hrun hK => by
    unfold wpOp
    have hw : Region.wanted ok (yielded ops b.tmps) = true := by simp [Region.wanted, hg]
    simp only [hk, hw, if_true, Oper.wp, hrun, Oper.upon]
    exact .inl hK
  refine wpAny_all hr (by simp) fun k hk => ?_
  simp only [List.mem_cons, List.not_mem_nil, or_false] at hk
  rcases hk with rfl | rfl
  · refine step _ _ _ _ _ hi gi ri (wpAny_all hri (by simp) fun k hk => ?_)
    simp only [List.mem_cons, List.not_mem_nil, or_false] at hk
    subst hk
    exact step _ _ _ _ _ hj gj rj' h
  · refine step _ _ _ _ _ hj gj rj (wpAny_all hrj (by simp) fun k hk => ?_)
    simp only [List.mem_cons, List.not_mem_nil, or_false] at hk
    subst hk
    refine step _ _ _ _ _ hi gi ri' ?_
    rw [hc, ← Array.setIfInBounds_comm _ _ hij]
    exact h

/-- A whole array stored into a row that is known whole, as a step of a region that draws: the world behind it is a variable. -/
theorem step_store_into {P : Program} {ops : Array Oper} {o : Oper} {a : Act} {w : World} {K : Act → World → Prop} {Q : Exit → Act → World → Prop} {E : Prop} (hgd : o.guard = none) (ty : TypeId) (x y : Operand)
    (ho : o.op = .store ty x y) (g off : Nat) (cells : Array Value) (hx : a.eval x = .pointer (some ⟨g, off, none⟩)) (hy : a.eval y = .agg cells) (cur : List Value) (t : TypeId) (hg : w.heap[g]? = some (.cells cur.toArray t (0, 0)))
    (hi : (P.info? ty).map (·.size) = some cells.size) (hfit : off + cells.size ≤ cur.length) (h1 : ∀ v ∈ cells.toList, v.oneCell' = true)
    (h : ∀ w', Hid (w'.heap[g]? = some (.cells (splice cur off cells.toList).toArray t (0, 0))) → Hid (w.grownBy w' (some g)) → K (a.put o.dst undef) w') :
    if Region.wanted o (yielded ops a.tmps) = true then Oper.wp P o a w K Q else E := by
  have hw : Region.wanted o (yielded ops a.tmps) = true := by simp [Region.wanted, hgd]
  rw [if_pos hw]
  have hst := run_storeCells_at P g off t cells.toList 0 cur.toArray w hg (by simpa using hfit) h1
  have hrun : (storeVar ty ⟨g, off, none⟩ (.agg cells)).run P w = .ok () (w.setRow g (splice cur off cells.toList).toArray) := by
    cases hq : P.info? ty with
    | none => simp [hq] at hi
    | some i =>
      have hs : cells.size = i.size := by simp [hq] at hi; omega
      simp only [Nat.add_zero] at hst
      simp [storeVar, sizeOf, typeInfo, hq, Value.cells, hs, hst, splice]
  unfold Oper.wp execOp
  simp only [ho, hx, hy, Instr.storeAt, Instr.sureAddr, Sem.run_bind, Sem.run_pure, Result.andThen_ok, hrun]
  exact h _ (setRow_heap w g _ _ t _ hg) ⟨rfl, rfl, rfl, by simp, fun k _ hne => setRow_other w g k _ (fun e => hne (by rw [e]))⟩

/-- 'b[n:]': where something is left it begins n cells on. -/
theorem run_slice_from {P : Program} (T E : TypeId) (hT : P.underlying T = some (.slice E)) (hs : (P.info? E).map (·.size) = some 1) (b o len cap n : Nat) (hn : n ≤ len) (hc : len ≤ cap) :
    ∃ bq : Option Addr, (n < len → bq = some ⟨b, o + n, none⟩) ∧ ∀ w : World, (Instr.sliceAt T (.slice (some ⟨b, o, none⟩) len cap) (some (.int .i64 (n : Int))) none none).run P w = .ok (.slice bq (len - n) (cap - n)) w := by
  have hE : P.elem T = E := by simp [Program.elem, hT]
  have hT' : P.underlying T = some (.slice (P.elem T)) := by rw [hE]; exact hT
  have hsz : ∀ w : World, (sizeOf E).run P w = .ok 1 w := fun w => by
    cases hq : P.info? E with
    | none => simp [hq] at hs
    | some i =>
      have hi : i.size = 1 := by simpa [hq] using hs
      simp [sizeOf, typeInfo, hq, hi]
  refine ⟨if cap = n then some ⟨b, o, none⟩ else some ⟨b, o + n, none⟩, fun h => by rw [if_neg (by omega)], fun w => ?_⟩
  rw [run_sliceAt_slice (h := hT'), run_slice_l (ht := hT') (h0 := by omega) (h1 := by omega), hE, hsz w]
  simp only [Result.andThen, sliced, Int.toNat_natCast, Option.map_some, Nat.mul_one]
  have hadd : (⟨b, o, none⟩ : Addr).add n = ⟨b, o + n, none⟩ := by unfold Addr.add; split <;> simp_all
  rw [hadd]

/-- 'copy' into a row that is known whole, as a step of a region that draws: the world behind it is a variable. -/
theorem step_copy_into {P : Program} {ops : Array Oper} {o : Oper} {a : Act} {w : World} {K : Act → World → Prop} {Q : Exit → Act → World → Prop} {E : Prop} (hgd : o.guard = none) (d s : Operand) (dT sT : TypeId)
    (ho : o.op = .call { callee := .builtin .copy, args := #[d, s], argTypes := #[dT, sT] }) (elem : TypeId) (hu : P.underlying dT = some (.slice elem)) (hsz : (P.info? elem).map (·.size) = some 1)
    (g off dLen dCap : Nat) (ad : Addr) (sLen sCap : Nat) (hd : a.eval d = .slice (some ⟨g, off, none⟩) dLen dCap) (hs : a.eval s = .slice (some ad) sLen sCap)
    (cur : List Value) (t : TypeId) (hg : w.heap[g]? = some (.cells cur.toArray t (0, 0))) (cs : List Value) (hn : cs.length = Nat.min sLen dLen)
    (hsrc : ∀ j v, cs[j]? = some v → w.cell? (ad.add j) = some v) (hfit : off + cs.length ≤ cur.length) (h1 : ∀ v ∈ cs, v.oneCell' = true)
    (h : ∀ w', Hid (w'.heap[g]? = some (.cells (splice cur off cs).toArray t (0, 0))) → Hid (w.grownBy w' (some g)) → K (a.put o.dst (goInt cs.length)) w') :
    if Region.wanted o (yielded ops a.tmps) = true then Oper.wp P o a w K Q else E := by
  have hw : Region.wanted o (yielded ops a.tmps) = true := by simp [Region.wanted, hgd]
  rw [if_pos hw]
  have hrun := run_copy_row (P := P) w dT sT o.type elem g off dLen dCap ad sLen sCap cur.toArray t cs hu hsz hg hn hsrc (by simpa using hfit) h1
  unfold Oper.wp
  simp [execOp, ho, resolve, invoke, builtin, hd, hs, hrun, Result.andThen]
  refine h _ (show _ = _ by simpa [splice] using setRow_heap w g _ _ t _ hg) (show _ from ⟨rfl, rfl, rfl, by simp, fun k _ hne => setRow_other w g k _ (fun e => hne (by rw [e]))⟩)

theorem wpList_build_to {P : Program} {ops : Array Oper} {rest : List Oper} {o : Oper} {a : Act} {w : World} {Q : Exit → Act → World → Prop} (hg : o.guard = none) (t : TypeId) (parts : Array (Nat × Operand)) (ho : o.op = .build t parts)
    (v : Array Value) (hf : P.built t (parts.map fun (i, x) => (i, a.eval x)).toList = some v) (h : wpList P ops Q rest (a.put o.dst (.agg v)) w) : wpList P ops Q (o :: rest) a w :=
  wpList_build hg t parts ho (by rw [hf]; rfl) (by rw [hf]; exact h)
/-- A whole array into the block that was made last. -/
theorem wpList_store_new {P : Program} {ops : Array Oper} {rest : List Oper} {o : Oper} {a : Act} {w : World} {Q : Exit → Act → World → Prop} (hgd : o.guard = none) (ty : TypeId) (x y : Operand) (ho : o.op = .store ty x y)
    (n : Nat) (hn : w.heap.size = n) (cells : Array Value) (hx : a.eval x = .pointer (some ⟨n, 0, none⟩)) (hy : a.eval y = .agg cells)
    (t : TypeId) (old : Array Value) (hi : (P.info? ty).map (·.size) = some cells.size)
    (hold : old.size = cells.size) (h1 : cells.all (·.oneCell') = true)
    (h : wpList P ops Q rest (a.put o.dst undef) (w.alloc (.cells cells t))) : wpList P ops Q (o :: rest) a (w.alloc (.cells old t)) := by
  subst hn
  refine wpList_store_row hgd ty x y ho w.heap.size cells hx hy t old (heap_alloc_new _ _) hi hold h1 ?_
  rw [World.setRow_alloc_new]
  exact h

/-- A call that hands back an array by value, and turns nothing that was there. -/
def AggPost (R : Array Value → Prop) (w : World) (e : Ending) (w' : World) : Prop := ∃ rv : Array Value, Hid (R rv) ∧ e = .returned (.agg rv) ∧ Below w.heap.size w w'
theorem AggPost.of_eq {R : Array Value → Prop} {w : World} {e : Ending} {w' : World} {rv : Array Value} (h : e = .returned (.agg rv) ∧ Below w.heap.size w w') (hr : R rv) : AggPost R w e w' := ⟨rv, hr, h.1, h.2⟩
end Go.Proofs.YtjkkbceddbkejaaGreatDoor

/-
  Bytes in a slice, wherever it lies; such a slice appended to one that the call owns. No program is named here.
-/
namespace Go.Proofs.YtjkkbceddbkejaaGreatDoor
open Go.RowKit Sh

/-- The slice (bp, len, cap) holds bs; its block, where it has bytes, lies below N. -/
structure Bytes (N : Nat) (w : World) (bp : Option Addr) (len cap : Nat) (bs : List UInt8) : Prop where
  hlen : bs.length = len
  hroom : len ≤ cap
  hmax : cap ≤ maxLen
  lies : len = 0 ∨ ∃ b o, bp = some ⟨b, o, none⟩ ∧ b < N ∧ ∀ j, j < len → w.cell? ⟨b, o + j, none⟩ = some (cu8 (at8 bs j))

theorem Bytes.below {N : Nat} {w w' : World} {bp : Option Addr} {len cap : Nat} {bs : List UInt8} (h : Bytes N w bp len cap bs) (hb : Below N w w') : Bytes N w' bp len cap bs :=
  ⟨h.hlen, h.hroom, h.hmax, h.lies.imp id fun ⟨b, o, h1, h2, h3⟩ => ⟨b, o, h1, h2, fun j hj => (hb.cell (p := ⟨b, o + j, none⟩) h2).trans (h3 j hj)⟩⟩
theorem Bytes.mono {N M : Nat} {w : World} {bp : Option Addr} {len cap : Nat} {bs : List UInt8} (h : Bytes N w bp len cap bs) (hb : N ≤ M) : Bytes M w bp len cap bs :=
  ⟨h.hlen, h.hroom, h.hmax, h.lies.imp id fun ⟨b, o, h1, h2, h3⟩ => ⟨b, o, h1, Nat.lt_of_lt_of_le h2 hb, h3⟩⟩
theorem Bytes.nil (N : Nat) (w : World) : Bytes N w none 0 0 [] := ⟨rfl, Nat.le_refl _, Nat.zero_le _, .inl rfl⟩
/-- One byte in a block of its own. -/
theorem Bytes.one (w : World) (t : TypeId) (b : UInt8) : Bytes (w.heap.size + 1) (w.alloc (.cells #[.int .u8 (bz b)] t)) (some ⟨w.heap.size, 0, none⟩) 1 1 [b] :=
  ⟨rfl, Nat.le_refl _, by unfold maxLen; omega, .inr ⟨w.heap.size, 0, rfl, Nat.lt_succ_self _, fun j hj => by
    obtain rfl : j = 0 := by omega
    rw [cell_of_row _ w.heap.size _ _ _ _ (heap_alloc_new w _)]; rfl⟩⟩
/-- As one who owns a row has it. -/
theorem Bytes.of_own {w : World} {base : Nat} {e : TypeId} {v : Value} {n : Nat} {bs : List UInt8} (h : w.ownsRow base e 1 v n (bs.map cu8)) :
    ∃ bp cap, v = .slice bp n cap ∧ Bytes w.heap.size w bp n cap bs := by
  have hl : bs.length = n := by have := h.1; simpa using this
  rcases h.2 with ⟨rfl, rfl⟩ | ⟨g, cap, cur, rfl, _, hg, hc, hm, _, _⟩
  · exact ⟨none, 0, rfl, by simpa using hl, Nat.le_refl _, Nat.zero_le _, .inl rfl⟩
  · refine ⟨some ⟨g, 0, none⟩, cap, rfl, hl, hc, hm, .inr ⟨g, 0, rfl, (Array.getElem?_eq_some_iff.1 hg).1, fun j hj => ?_⟩⟩
    rw [Nat.zero_add, h.cellAt j (by simpa using hj), List.getElem?_map]
    have hj' : j < bs.length := by omega
    simp [at8, List.getD_eq_getElem?_getD, List.getElem?_eq_getElem hj']

theorem run_append_bytes {P : Program} (w : World) (t ty : TypeId) (base : Nat) (e : TypeId) (i : TypeInfo) (z : Value) (bytes : Nat) (ht : P.underlying t = some (.slice e)) (hi : P.info? e = some i) (hz : i.zero = some z)
    (hsize : i.size = 1) (hby : i.bytes = bytes) (hzs : z.cells.size = 1) (v : Value) (n : Nat) (xs : List Value) (hown : w.ownsRow base e 1 v n xs) (N : Nat) (bp : Option Addr) (m c : Nat) (bs : List UInt8) (hB : Bytes N w bp m c bs)
    (h63 : n + m ≤ maxLen) (hbytes : (n + m) * bytes ≤ 140737488355328) (hbase : base ≤ w.heap.size) :
    ∃ v' w', (Builtin.append_ #[t, t] ty #[v, .slice bp m c]).run P w = .ok v' w' ∧ w'.ownsRow base e 1 v' (n + m) (xs ++ bs.map cu8) ∧ w.grownBy w' v.ownBlock ∧ (v'.ownBlock = v.ownBlock ∨ v'.ownBlock = some w.heap.size) := by
  rcases hB.lies with h0 | ⟨b, o, rfl, hb, hc⟩
  · subst h0
    have hbs : bs = [] := List.length_eq_zero_iff.1 hB.hlen
    subst hbs
    refine ⟨v, w, ?_, by simpa using hown, ⟨rfl, rfl, rfl, Nat.le_refl _, fun _ _ _ => rfl⟩, .inl rfl⟩
    have hld : ∀ ad : Addr, (loadCells ad 0).run P w = .ok #[] w := fun ad => by simp [loadCells, loadCellsFrom]
    rcases hown.2 with ⟨rfl, rfl⟩ | ⟨g, cap, cur, rfl, _, _, hnc, _⟩
    · cases bp
      · simp [Builtin.append_, run_underlying ht, sizeOf, typeInfo, hi, Builtin.lenOf, Builtin.firstCells]
      · simp [Builtin.append_, run_underlying ht, sizeOf, typeInfo, hi, Builtin.lenOf, Builtin.firstCells, hld, Result.andThen]
    · cases bp
      · simp [Builtin.append_, run_underlying ht, sizeOf, typeInfo, hi, Builtin.lenOf, Builtin.firstCells, hnc, storeCells]
      · simp [Builtin.append_, run_underlying ht, sizeOf, typeInfo, hi, Builtin.lenOf, Builtin.firstCells, hnc, hld, storeCells, Result.andThen]
  · obtain ⟨v', w', h1, h2, h3, _, h5⟩ := run_append_own_at (P := P) w base t ty e i z 1 bytes ht hi hz hsize hby hzs (by omega) v n xs hown ⟨b, o, none⟩ m c (bs.map cu8) (by simp [hB.hlen]) (fun j u hu => by
      have hj : j < bs.length := by
        rcases Nat.lt_or_ge j bs.length with h7 | h7
        · exact h7
        · rw [List.getElem?_eq_none (by simpa using h7)] at hu; cases hu
      have hadd : (⟨b, o, none⟩ : Addr).add j = ⟨b, o + j, none⟩ := by unfold Addr.add; split <;> simp_all
      rw [hadd, hc j (by rw [← hB.hlen]; exact hj), ← hu, List.getElem?_map]
      simp [at8, List.getD_eq_getElem?_getD, List.getElem?_eq_getElem hj]) (fun u hu => by obtain ⟨x, _, rfl⟩ := List.mem_map.1 hu; rfl) h63 hbytes hbase
    exact ⟨v', w', h1, h2, h3, h5⟩

theorem wp_append_bytes {P : Program} (w : World) {o : Oper} {a : Act} {K : Act → World → Prop} {Q : Exit → Act → World → Prop} (s x : Operand) (t : TypeId)
    (ho : o.op = .call { callee := .builtin .append, args := #[s, x], argTypes := #[t, t] })
    (base : Nat) (e : TypeId) (i : TypeInfo) (z : Value) (bytes : Nat) (ht : P.underlying t = some (.slice e)) (hi : P.info? e = some i) (hz : i.zero = some z)
    (hsize : i.size = 1) (hby : i.bytes = bytes) (hzs : z.cells.size = 1) (v : Value) (n : Nat) (xs : List Value) (hs : a.eval s = v) (hown : w.ownsRow base e 1 v n xs) (N : Nat) (bp : Option Addr) (m c : Nat) (bs : List UInt8)
    (hx : a.eval x = .slice bp m c) (hB : Bytes N w bp m c bs) (h63 : n + m ≤ maxLen) (hbytes : (n + m) * bytes ≤ 140737488355328) (hbase : base ≤ w.heap.size)
    (h : ∀ v' w', w'.ownsRow base e 1 v' (n + m) (xs ++ bs.map cu8) → w.grownBy w' v.ownBlock → (v'.ownBlock = v.ownBlock ∨ v'.ownBlock = some w.heap.size) → K (a.put o.dst v') w') : o.wp P a w K Q := by
  obtain ⟨v', w', hr, h2, h3, h4⟩ := run_append_bytes (P := P) w t o.type base e i z bytes ht hi hz hsize hby hzs v n xs hown N bp m c bs hB h63 hbytes hbase
  unfold Oper.wp execOp
  simp only [ho, resolve, invoke, builtin, Sem.run_bind, Sem.run_pure, Result.andThen_ok, List.map_toArray, List.map_cons, List.map_nil, hs, hx, hr]
  exact h v' w' h2 h3 h4

theorem wpList_append_bytes {P : Program} (w : World) {ops : Array Oper} {rest : List Oper} {o : Oper} {a : Act} {Q : Exit → Act → World → Prop} (hgd : o.guard = none) (s x : Operand) (t : TypeId)
    (ho : o.op = .call { callee := .builtin .append, args := #[s, x], argTypes := #[t, t] })
    (base : Nat) (e : TypeId) (i : TypeInfo) (z : Value) (bytes : Nat) (ht : P.underlying t = some (.slice e)) (hi : P.info? e = some i) (hz : i.zero = some z)
    (hsize : i.size = 1) (hby : i.bytes = bytes) (hzs : z.cells.size = 1) (v : Value) (n : Nat) (xs : List Value) (hs : a.eval s = v) (hown : w.ownsRow base e 1 v n xs) (N : Nat) (bp : Option Addr) (m c : Nat) (bs : List UInt8)
    (hx : a.eval x = .slice bp m c) (hB : Bytes N w bp m c bs) (h63 : n + m ≤ maxLen) (hbytes : (n + m) * bytes ≤ 140737488355328) (hbase : base ≤ w.heap.size)
    (h : ∀ v' w', w'.ownsRow base e 1 v' (n + m) (xs ++ bs.map cu8) → w.grownBy w' v.ownBlock → (v'.ownBlock = v.ownBlock ∨ v'.ownBlock = some w.heap.size) → wpList P ops Q rest (a.put o.dst v') w') : wpList P ops Q (o :: rest) a w :=
  wpList_plain hgd fun _ hK => wp_append_bytes w s x t ho base e i z bytes ht hi hz hsize hby hzs v n xs hs hown N bp m c bs hx hB h63 hbytes hbase fun v' w' h1 h2 h3 => hK _ _ (h v' w' h1 h2 h3)

theorem step_append_bytes {P : Program} (w : World) {ops : Array Oper} {o : Oper} {a : Act} {K : Act → World → Prop} {Q : Exit → Act → World → Prop} {E : Prop} (hgd : o.guard = none) (s x : Operand) (t : TypeId)
    (ho : o.op = .call { callee := .builtin .append, args := #[s, x], argTypes := #[t, t] })
    (base : Nat) (e : TypeId) (i : TypeInfo) (z : Value) (bytes : Nat) (ht : P.underlying t = some (.slice e)) (hi : P.info? e = some i) (hz : i.zero = some z)
    (hsize : i.size = 1) (hby : i.bytes = bytes) (hzs : z.cells.size = 1) (v : Value) (n : Nat) (xs : List Value) (hs : a.eval s = v) (hown : w.ownsRow base e 1 v n xs) (N : Nat) (bp : Option Addr) (m c : Nat) (bs : List UInt8)
    (hx : a.eval x = .slice bp m c) (hB : Bytes N w bp m c bs) (h63 : n + m ≤ maxLen) (hbytes : (n + m) * bytes ≤ 140737488355328) (hbase : base ≤ w.heap.size)
    (h : ∀ v' w', w'.ownsRow base e 1 v' (n + m) (xs ++ bs.map cu8) → w.grownBy w' v.ownBlock → (v'.ownBlock = v.ownBlock ∨ v'.ownBlock = some w.heap.size) → K (a.put o.dst v') w') :
    if Region.wanted o (yielded ops a.tmps) = true then Oper.wp P o a w K Q else E := by
  have hw : Region.wanted o (yielded ops a.tmps) = true := by simp [Region.wanted, hgd]
  rw [if_pos hw]
  exact wp_append_bytes w s x t ho base e i z bytes ht hi hz hsize hby hzs v n xs hs hown N bp m c bs hx hB h63 hbytes hbase h

/-- Where 'b[lo:..]' begins. -/
def cutAt (bp : Option Addr) (cap lo : Nat) : Option Addr := if cap = lo then bp else bp.map (·.add lo)
theorem Bytes.cut {N : Nat} {w : World} {bp : Option Addr} {len cap : Nat} {bs : List UInt8} (h : Bytes N w bp len cap bs) (lo hi : Nat) (h1 : lo ≤ hi) (h2 : hi ≤ len) :
    Bytes N w (cutAt bp cap lo) (hi - lo) (cap - lo) ((bs.drop lo).take (hi - lo)) := by
  have hr := h.hroom
  have hm := h.hmax
  refine ⟨by rw [List.length_take, List.length_drop, h.hlen]; omega, by omega, by omega, ?_⟩
  rcases Nat.eq_or_lt_of_le h1 with e | hlt
  · left; omega
  right
  rcases h.lies with h0 | ⟨b, o, rfl, hb, hc⟩
  · omega
  have hadd : (⟨b, o, none⟩ : Addr).add lo = ⟨b, o + lo, none⟩ := by unfold Addr.add; split <;> simp_all
  refine ⟨b, o + lo, by unfold cutAt; rw [if_neg (by omega), Option.map_some, hadd], hb, fun j hj => ?_⟩
  rw [Nat.add_assoc, hc (lo + j) (by omega)]
  simp only [at8, List.getD_eq_getElem?_getD, List.getElem?_take, List.getElem?_drop]
  rw [if_pos hj]
theorem run_slice_mid {P : Program} (T E : TypeId) (hT : P.underlying T = some (.slice E)) (hs : (P.info? E).map (·.size) = some 1) (bp : Option Addr) (len cap lo hi : Nat) (h1 : lo ≤ hi) (h2 : hi ≤ cap) (w : World) :
    (Instr.sliceAt T (.slice bp len cap) (some (.int .i64 (lo : Int))) (some (.int .i64 (hi : Int))) none).run P w = .ok (.slice (cutAt bp cap lo) (hi - lo) (cap - lo)) w := by
  have hE : P.elem T = E := by simp [Program.elem, hT]
  have hT' : P.underlying T = some (.slice (P.elem T)) := by rw [hE]; exact hT
  have hsz : ∀ w : World, (sizeOf E).run P w = .ok 1 w := fun w => by
    cases hq : P.info? E with
    | none => simp [hq] at hs
    | some i =>
      have hi : i.size = 1 := by simpa [hq] using hs
      simp [sizeOf, typeInfo, hq, hi]
  rw [run_sliceAt_slice (h := hT'), run_slice_lh (ht := hT') (h0 := by omega) (h1 := by omega) (h2 := by omega), hE, hsz w]
  simp only [Result.andThen, sliced, Int.toNat_natCast, Nat.mul_one, cutAt]
theorem run_slice_head {P : Program} (T E : TypeId) (hT : P.underlying T = some (.slice E)) (hs : (P.info? E).map (·.size) = some 1) (bp : Option Addr) (len cap hi : Nat) (h2 : hi ≤ cap) (w : World) :
    (Instr.sliceAt T (.slice bp len cap) none (some (.int .i64 (hi : Int))) none).run P w = .ok (.slice (cutAt bp cap 0) (hi - 0) (cap - 0)) w := by
  have hE : P.elem T = E := by simp [Program.elem, hT]
  have hT' : P.underlying T = some (.slice (P.elem T)) := by rw [hE]; exact hT
  have hsz : ∀ w : World, (sizeOf E).run P w = .ok 1 w := fun w => by
    cases hq : P.info? E with
    | none => simp [hq] at hs
    | some i =>
      have hi : i.size = 1 := by simpa [hq] using hs
      simp [sizeOf, typeInfo, hq, hi]
  rw [run_sliceAt_slice (h := hT'), run_slice_h (ht := hT') (h0 := by omega) (h2 := by omega), hE, hsz w]
  simp only [Result.andThen, sliced, Int.toNat_natCast, Nat.mul_one, cutAt]
theorem run_slice_tail {P : Program} (T E : TypeId) (hT : P.underlying T = some (.slice E)) (hs : (P.info? E).map (·.size) = some 1) (bp : Option Addr) (len cap lo : Nat) (h1 : lo ≤ len) (w : World) :
    (Instr.sliceAt T (.slice bp len cap) (some (.int .i64 (lo : Int))) none none).run P w = .ok (.slice (cutAt bp cap lo) (len - lo) (cap - lo)) w := by
  have hE : P.elem T = E := by simp [Program.elem, hT]
  have hT' : P.underlying T = some (.slice (P.elem T)) := by rw [hE]; exact hT
  have hsz : ∀ w : World, (sizeOf E).run P w = .ok 1 w := fun w => by
    cases hq : P.info? E with
    | none => simp [hq] at hs
    | some i =>
      have hi : i.size = 1 := by simpa [hq] using hs
      simp [sizeOf, typeInfo, hq, hi]
  rw [run_sliceAt_slice (h := hT'), run_slice_l (ht := hT') (h0 := by omega) (h1 := by omega), hE, hsz w]
  simp only [Result.andThen, sliced, Int.toNat_natCast, Nat.mul_one, cutAt]
end Go.Proofs.YtjkkbceddbkejaaGreatDoor

/-
  The two functions that turn a number, and those that hand out tables.
-/
namespace Go.Proofs.YtjkkbceddbkejaaGreatDoor
open Go.RowKit Sh

theorem ret_int {k : IntKind} {a b : Int} (h : a = b) : Ending.returned (.int k a) = .returned (.int k b) := by rw [h]

set_option maxHeartbeats 400000 in
theorem turn_any (x : UInt32) (n : Int) (w : World) (h0 : 0 < n) (h1 : n < 32) :
    Calls Tryz.prog 172 #[.int .u32 (uz x), .int .i64 n] w fun e w' => e = .returned (.int .u32 (uz (rot x n.toNat))) ∧ ∃ m, w' = w.drewN m := by
  have hr := rot32' x n h0 h1
  go_enter Tryz.func172, Tryz.ntmps172
  go_wp2
  go_quiet (fail)
  go_wp2
  go_ret
  exact ⟨ret_int rfl, _, rfl⟩

theorem init_cells : #[Value.int .u32 1779033703, Value.int .u32 3144134277, Value.int .u32 1013904242, Value.int .u32 2773480762, Value.int .u32 1359893119, Value.int .u32 2600822924, Value.int .u32 528734635, Value.int .u32 1541459225] = s32 initS := by kernel_rfl

set_option maxHeartbeats 400000 in
theorem beginning_any (w : World) :
    Calls Tryz.prog 153 #[] w fun e w' => e = .returned (.agg (s32 initS)) ∧ Below w.heap.size w w' := by
  go_enter Tryz.func153, Tryz.ntmps153
  go_wp2
  rw [init_cells]
  refine bodyPost_ret (v := .agg (s32 initS)) ?_ rfl ⟨rfl, (Below.refl _ _).alloc (Nat.le_refl _) _⟩
  exact results_cell_row (ty := 227) rfl _ _ w.heap.size 227 (s32 initS) (0, 0) _ rfl (heap_alloc_new _ _) Tryz.underlying227 rfl (by kernel_rfl)


set_option maxRecDepth 100000 in
set_option maxHeartbeats 400000 in
theorem roundWords_any (w : World) :
    Calls Tryz.prog 171 #[] w fun e w' => e = .returned (.agg k32) ∧ Below w.heap.size w w' := by
  go_enter Tryz.func171, Tryz.ntmps171
  go_wp2_with (first | (refine wpList_build_to rfl 245 _ rfl k32 (by kernel_rfl) ?_) | (refine wpList_store_row rfl 245 _ _ rfl w.heap.size k32 rfl rfl 245 _ (heap_alloc_new _ _) (by kernel_rfl) (by kernel_rfl) (by kernel_rfl) ?_; rw [World.setRow_alloc_new]))
  refine bodyPost_ret (v := .agg k32) ?_ rfl ⟨rfl, (Below.refl _ _).alloc (Nat.le_refl _) _⟩
  exact results_cell_row (ty := 245) rfl _ _ w.heap.size 245 k32 (0, 0) _ rfl (heap_alloc_new _ _) Tryz.underlying245 rfl (by kernel_rfl)
end Go.Proofs.YtjkkbceddbkejaaGreatDoor

/-
  The numbers of a block: the walk of 'stretch'.
-/
namespace Go.Proofs.YtjkkbceddbkejaaGreatDoor
open Go.RowKit Sh

/-- What lies in the row of 64 numbers when the first of them are told. -/
def wRow (l : List UInt32) (i : Nat) : Value := cu32 (at32 l i)
attribute [local go_sem] Sh.conv8 Sh.shl24 Sh.shl16 Sh.shl8 Sh.or32 Sh.conv8' Sh.shl24' Sh.shl16' Sh.shl8' Sh.xor32 Sh.add32 Sh.add32' Sh.xor32_3 Sh.xor32_10

/-- The facts on the four places of a number. -/
structure Four (k : Nat) : Prop where
  e0 : IntKind.i64.wrap (4 * (k : Int)) = 4 * (k : Int)
  e1 : IntKind.i64.wrap (4 * (k : Int) + 1) = 4 * (k : Int) + 1
  e2 : IntKind.i64.wrap (4 * (k : Int) + 2) = 4 * (k : Int) + 2
  e3 : IntKind.i64.wrap (4 * (k : Int) + 3) = 4 * (k : Int) + 3
  n0 : (4 * (k : Int)).toNat = 4 * k
  n1 : (4 * (k : Int) + 1).toNat = 4 * k + 1
  n2 : (4 * (k : Int) + 2).toNat = 4 * k + 2
  n3 : (4 * (k : Int) + 3).toNat = 4 * k + 3
  m0 : 0 ≤ 4 * (k : Int)
  m1 : 0 ≤ 4 * (k : Int) + 1
  m2 : 0 ≤ 4 * (k : Int) + 2
  m3 : 0 ≤ 4 * (k : Int) + 3
theorem four (k : Nat) (h : k < 1000000) : Four k :=
  ⟨IntWalk.i64_in _ (by omega), IntWalk.i64_in _ (by omega), IntWalk.i64_in _ (by omega), IntWalk.i64_in _ (by omega), by omega, by omega, by omega, by omega, by omega, by omega, by omega, by omega⟩

/-- The world of 'stretch' when i numbers are told. -/
structure StW (w wr : World) (p : List UInt8) (k : Nat) : Prop where
  below : Below w.heap.size w wr
  blk : wr.rowIs w.heap.size 33 64 (fun j => cu8 (at8 p j))
  res : ∃ c : Array Value, wr.heap[w.heap.size + 1]? = some (.cells c 245 (0, 0)) ∧ c.size = 64
  row : wr.rowIs (w.heap.size + 1 + 1) 245 64 (wRow (sched p k))

theorem stW_set {w wr : World} {p : List UInt8} {k : Nat} (h : StW w wr p k) (x : UInt32) (hx : ∀ j, at32 (sched p (k + 1)) j = if j = k then x else at32 (sched p k) j) :
    StW w (wr.setCell ⟨w.heap.size + 1 + 1, k, none⟩ (.int .u32 (uz x))).drew p (k + 1) := by
  obtain ⟨c, hc, hn⟩ := h.res
  refine ⟨(h.below.setCell (by show w.heap.size ≤ w.heap.size + 1 + 1; omega) _).drew, (h.blk.setOther (by show w.heap.size ≠ w.heap.size + 1 + 1; omega) _).drew, ⟨c, ?_, hn⟩, ((h.row.set k _).congr fun j hj => ?_).drew⟩
  · show (World.setCell _ _ _).heap[_]? = _
    rw [heap_setCell_other _ _ _ _ (by show w.heap.size + 1 ≠ w.heap.size + 1 + 1; omega)]; exact hc
  · show (if j = k then cu32 x else wRow (sched p k) j) = _
    unfold wRow
    rw [hx j]
    split <;> rfl

theorem stW_drewN {w wr : World} {p : List UInt8} {k : Nat} (h : StW w wr p k) (n : Nat) : StW w (wr.drewN n) p k :=
  ⟨h.below.trans ⟨rfl, rfl, rfl, Nat.le_refl _, fun _ _ => rfl⟩, h.blk, h.res, h.row⟩

theorem rowIs_list {w : World} {b : Nat} {t : TypeId} (l : List Value) (f : Nat → Value) (fr0 : w.heap[b]? = some (.cells l.toArray t (0, 0))) (hf : ∀ i (h : i < l.length), l[i] = f i) : w.rowIs b t l.length f :=
  ⟨l.toArray, fr0, by simp, fun i hi => by simp [hi, hf i hi]⟩

/-- The row as a list. -/
theorem rowIs_eq {w : World} {b : Nat} {t : TypeId} {n : Nat} {f : Nat → Value} (h : w.rowIs b t n f) : w.heap[b]? = some (.cells ((List.range n).map f).toArray t (0, 0)) := by
  obtain ⟨c, hc, hn, hf⟩ := h
  rw [hc]
  congr 2
  apply Array.ext_getElem?
  intro i
  by_cases hi : i < n
  · rw [hf i hi]; simp [hi]
  · rw [Array.getElem?_eq_none (by omega), Array.getElem?_eq_none (by simp; omega)]
theorem list_eq_range (l : List UInt32) (n : Nat) (h : l.length = n) : (List.range n).map (wRow l) = l.map cu32 := by
  apply List.ext_getElem?
  intro i
  by_cases hi : i < n
  · simp [hi, wRow, at32, List.getD_eq_getElem?_getD, List.getElem?_eq_getElem (h ▸ hi)]
  · rw [List.getElem?_eq_none (by simp; omega), List.getElem?_eq_none (by simp; omega)]

set_option maxRecDepth 100000 in
theorem stW_start (p : List UInt8) (hp : p.length = 64) (w : World) (c1 c2 : Array Value) (h1 : c1.size = 64) (h2 : c2 = (List.replicate 64 (Value.int .u32 0)).toArray) :
    StW w (((w.alloc (.cells (p.map cu8).toArray 33)).alloc (.cells c1 245)).alloc (.cells c2 245)) p 0 := by
  refine ⟨(((Below.refl _ _).alloc (Nat.le_refl _) _).alloc (by simp) _).alloc (by simp; omega) _, ?_, ⟨c1, ?_, h1⟩, ?_⟩
  · have := World.rowIs_alloc w (p.map cu8).toArray 33 (fun j => cu8 (at8 p j)) (fun i hi => by
      simp at hi
      simp [at8, List.getD_eq_getElem?_getD, List.getElem?_eq_getElem hi])
    simp only [List.size_toArray, List.length_map, hp] at this
    exact (this.alloc _).alloc _
  · rw [Below.heap_alloc _ _ _ (by simp)]
    have := heap_alloc_new (w.alloc (.cells (p.map cu8).toArray 33)) (.cells c1 245)
    simpa using this
  · have := World.rowIs_alloc ((w.alloc (.cells (p.map cu8).toArray 33)).alloc (.cells c1 245)) c2 245 (wRow (sched p 0)) (fun i hi => by
      subst h2
      rw [List.size_toArray, List.length_replicate] at hi
      rw [List.getElem?_toArray, List.getElem?_replicate, if_pos hi]; rfl)
    have h3 : c2.size = 64 := by rw [h2, List.size_toArray, List.length_replicate]
    rw [h3] at this
    simpa using this

set_option maxRecDepth 100000 in
set_option maxHeartbeats 1000000 in
theorem stretch_any (p : List UInt8) (hp : p.length = 64) (w : World) :
    Calls Tryz.prog 170 #[.agg (p.map cu8).toArray] w fun e w' => e = .returned (.agg ((sched p 64).map cu32).toArray) ∧ Below w.heap.size w w' := by
  go_enter Tryz.func170, Tryz.ntmps170
  go_wp2
  go_loopg [10] 16 (fun g i wr => ∃ k : Nat, k ≤ 16 ∧ g = 16 - k ∧ i = .int .i64 k ∧ StW w wr p k)
  case atStart => exact ⟨0, by omega, rfl, rfl, stW_start p hp w _ _ (by kernel_rfl) (by kernel_rfl)⟩
  case round =>
    obtain ⟨k, hk, rfl, rfl, hS⟩ := hrel
    by_cases hlt : k < 16
    · have hlt' : (k : Int) < 16 := by omega
      have c0 : wr.cell? ⟨w.heap.size, 4 * k, none⟩ = some (.int .u8 (bz (at8 p (4 * k)))) := hS.blk.cell (by omega)
      have c1 : wr.cell? ⟨w.heap.size, 4 * k + 1, none⟩ = some (.int .u8 (bz (at8 p (4 * k + 1)))) := hS.blk.cell (by omega)
      have c2 : wr.cell? ⟨w.heap.size, 4 * k + 2, none⟩ = some (.int .u8 (bz (at8 p (4 * k + 2)))) := hS.blk.cell (by omega)
      have c3 : wr.cell? ⟨w.heap.size, 4 * k + 3, none⟩ = some (.int .u8 (bz (at8 p (4 * k + 3)))) := hS.blk.cell (by omega)
      have c4 : wr.cell? ⟨w.heap.size + 1 + 1, k, none⟩ = some (wRow (sched p k) k) := hS.row.cell (by omega)
      have c5 : wr.frozen? ⟨w.heap.size + 1 + 1, k, none⟩ = false := hS.row.frozen k
      obtain ⟨e0, e1, e2, e3, n0, n1, n2, n3, m0, m1, m2, m3⟩ := four k (by omega)
      have l0 : 4 * (k : Int) < 64 := by omega
      have l1 : 4 * (k : Int) + 1 < 64 := by omega
      have l2 : 4 * (k : Int) + 2 < 64 := by omega
      have l3 : 4 * (k : Int) + 3 < 64 := by omega
      have l4 : (k : Int) < 64 := by omega
      go_wp2_with fail
      go_still_tail 31, (by kernel_rfl)
      change wpList _ _ _ _ _ wr.drew
      go_wp2
      go_roundg (16 - (k + 1))
      case measure => omega
      case rel => exact ⟨k + 1, by omega, rfl, by go_num, stW_set hS _ (sched_low p k hlt)⟩
    · obtain rfl : k = 16 := by omega
      go_wp2
      go_loopg [5] 48 (fun g i wr => ∃ k : Nat, 16 ≤ k ∧ k ≤ 64 ∧ g = 64 - k ∧ i = .int .i64 k ∧ StW w wr p k)
      case atStart => exact ⟨16, by omega, by omega, rfl, rfl, hS⟩
      case round =>
        clear hS
        obtain ⟨k, hk1, hk2, rfl, rfl, hS⟩ := hrel
        by_cases hlt : k < 64
        · have hlt' : (k : Int) < 64 := by omega
          have c0 : wr.cell? ⟨w.heap.size + 1 + 1, k - 15, none⟩ = some (.int .u32 (uz (at32 (sched p k) (k - 15)))) := hS.row.cell (by omega)
          have c1 : wr.cell? ⟨w.heap.size + 1 + 1, k - 2, none⟩ = some (.int .u32 (uz (at32 (sched p k) (k - 2)))) := hS.row.cell (by omega)
          have c2 : wr.cell? ⟨w.heap.size + 1 + 1, k - 16, none⟩ = some (.int .u32 (uz (at32 (sched p k) (k - 16)))) := hS.row.cell (by omega)
          have c3 : wr.cell? ⟨w.heap.size + 1 + 1, k - 7, none⟩ = some (.int .u32 (uz (at32 (sched p k) (k - 7)))) := hS.row.cell (by omega)
          have c4 : wr.cell? ⟨w.heap.size + 1 + 1, k, none⟩ = some (wRow (sched p k) k) := hS.row.cell (by omega)
          have c5 : wr.frozen? ⟨w.heap.size + 1 + 1, k, none⟩ = false := hS.row.frozen k
          have e0 : IntKind.i64.wrap ((k : Int) - 15) = (k : Int) - 15 := IntWalk.i64_in _ (by omega)
          have e1 : IntKind.i64.wrap ((k : Int) - 2) = (k : Int) - 2 := IntWalk.i64_in _ (by omega)
          have e2 : IntKind.i64.wrap ((k : Int) - 16) = (k : Int) - 16 := IntWalk.i64_in _ (by omega)
          have e3 : IntKind.i64.wrap ((k : Int) - 7) = (k : Int) - 7 := IntWalk.i64_in _ (by omega)
          have n0 : ((k : Int) - 15).toNat = k - 15 := by omega
          have n1 : ((k : Int) - 2).toNat = k - 2 := by omega
          have n2 : ((k : Int) - 16).toNat = k - 16 := by omega
          have n3 : ((k : Int) - 7).toNat = k - 7 := by omega
          have l0 : (k : Int) - 15 < 64 := by omega
          have l1 : (k : Int) - 2 < 64 := by omega
          have l2 : (k : Int) - 16 < 64 := by omega
          have l3 : (k : Int) - 7 < 64 := by omega
          have m0 : 15 ≤ (k : Int) := by omega
          have m1 : 2 ≤ (k : Int) := by omega
          have m2 : 16 ≤ (k : Int) := by omega
          have m3 : 7 ≤ (k : Int) := by omega
          go_wp2_with fail
          go_quiet (fail)
          go_wp2_with (go_at_call 172; refine (turn_any _ _ _ (by omega) (by omega)).mono ?_; rintro e w' ⟨rfl, m, rfl⟩)
          clear c0 c1 c2 c3 c4 c5
          refine (?_ : ∀ w2 : World, StW w w2 p k → Code.wp _ _ _ _ w2) _ (stW_drewN hS _)
          clear hS
          intro w2 hS2
          have c2 : w2.cell? ⟨w.heap.size + 1 + 1, k - 16, none⟩ = some (.int .u32 (uz (at32 (sched p k) (k - 16)))) := hS2.row.cell (by omega)
          have c3 : w2.cell? ⟨w.heap.size + 1 + 1, k - 7, none⟩ = some (.int .u32 (uz (at32 (sched p k) (k - 7)))) := hS2.row.cell (by omega)
          have c4 : w2.cell? ⟨w.heap.size + 1 + 1, k, none⟩ = some (wRow (sched p k) k) := hS2.row.cell (by omega)
          have c5 : w2.frozen? ⟨w.heap.size + 1 + 1, k, none⟩ = false := hS2.row.frozen k
          go_still_tail 15, (by kernel_rfl)
          change wpList _ _ _ _ _ w2.drew
          go_wp2
          go_roundg (64 - (k + 1))
          case measure => omega
          case rel => exact ⟨k + 1, by omega, by omega, rfl, by go_num, stW_set hS2 _ (sched_high p k (by omega))⟩
        · obtain rfl : k = 64 := by omega
          have HR := rowIs_eq hS.row
          rw [list_eq_range _ _ (sched_length p 64)] at HR
          obtain ⟨c, hc, hn⟩ := hS.res
          have H1 := Lib.hid HR; clear HR
          have H2 := Lib.hid hc; clear hc
          have hb := hS.below
          have hl : ((sched p 64).map cu32).toArray.size = 64 := by rw [List.size_toArray, List.length_map, sched_length]
          have H3 := Lib.hid hl; clear hl
          have H4 := Lib.hid hn; clear hn
          clear hS hk1 hk2 hlt
          go_wp2_with (first | (refine wpList_load_row rfl 245 _ rfl (w.heap.size + 1 + 1) rfl 245 _ (0, 0) _ H1.out Tryz.underlying245 rfl ?_ ?_) | (refine wpList_store_row rfl 245 _ _ rfl (w.heap.size + 1) _ rfl rfl 245 c H2.out ?_ ?_ ?_ ?_))
          · rw [H3.out]; kernel_rfl
          · rw [H3.out]; kernel_rfl
          · rw [H3.out]; exact H4.out
          · exact all_oneCell_toArray (fun v hv => by obtain ⟨x, _, rfl⟩ := List.mem_map.1 hv; rfl)
          · refine bodyPost_ret (v := .agg ((sched p 64).map cu32).toArray) ?_ rfl ⟨rfl, below_setRow hb (by omega) _⟩
            exact results_cell_row (ty := 245) rfl _ _ (w.heap.size + 1) 245 _ (0, 0) _ rfl (setRow_heap _ _ _ _ _ _ H2.out) Tryz.underlying245 rfl (by rw [H3.out]; kernel_rfl)
end Go.Proofs.YtjkkbceddbkejaaGreatDoor

/-
  The small functions of package sha: digest, ending, New.
-/
namespace Go.Proofs.YtjkkbceddbkejaaGreatDoor
open Go.RowKit Sh
attribute [local go_sem] Sh.shr24 Sh.shr16 Sh.shr8 Sh.low8 Sh.low8'

/-- The row of the digest behind k numbers. -/
def dRow (s : S8) (k : Nat) (j : Nat) : Value := if j < 4 * k then cu8 (at8 (digS s) j) else .int .u8 0
theorem digS_at (s : S8) (k : Nat) (hk : k < 8) : at8 (digS s) (4 * k) = (at32 s.list k >>> 24).toUInt8 ∧ at8 (digS s) (4 * k + 1) = (at32 s.list k >>> 16).toUInt8 ∧ at8 (digS s) (4 * k + 2) = (at32 s.list k >>> 8).toUInt8 ∧ at8 (digS s) (4 * k + 3) = (at32 s.list k).toUInt8 := by
  obtain rfl | rfl | rfl | rfl | rfl | rfl | rfl | rfl : k = 0 ∨ k = 1 ∨ k = 2 ∨ k = 3 ∨ k = 4 ∨ k = 5 ∨ k = 6 ∨ k = 7 := by omega
  all_goals exact ⟨rfl, rfl, rfl, rfl⟩

structure DgW (w : World) (s : S8) (k : Nat) (wr : World) : Prop where
  below : Below w.heap.size w wr
  res : ∃ c : Array Value, wr.heap[w.heap.size + 1]? = some (.cells c 56 (0, 0)) ∧ c.size = 32
  row : wr.rowIs (w.heap.size + 1 + 1) 56 32 (dRow s k)
theorem DgW.step {w wr : World} {s : S8} {k : Nat} (h : DgW w s k wr) (hk : k < 8) :
    DgW w s (k + 1) ((((wr.setCell ⟨w.heap.size + 1 + 1, 4 * k, none⟩ (.int .u8 (bz (at32 s.list k >>> 24).toUInt8))).setCell ⟨w.heap.size + 1 + 1, 4 * k + 1, none⟩ (.int .u8 (bz (at32 s.list k >>> 16).toUInt8))).setCell
      ⟨w.heap.size + 1 + 1, 4 * k + 2, none⟩ (.int .u8 (bz (at32 s.list k >>> 8).toUInt8))).setCell ⟨w.heap.size + 1 + 1, 4 * k + 3, none⟩ (.int .u8 (bz (at32 s.list k).toUInt8))) := by
  have hb : ∀ (wx : World), Below w.heap.size w wx → ∀ (i : Nat) (v : Value), Below w.heap.size w (wx.setCell ⟨w.heap.size + 1 + 1, i, none⟩ v) := fun wx h i v => h.setCell (by show w.heap.size ≤ w.heap.size + 1 + 1; omega) v
  obtain ⟨c, hc, hn⟩ := h.res
  have ho : ∀ (wx : World), wx.heap[w.heap.size + 1]? = some (.cells c 56 (0, 0)) → ∀ (i : Nat) (v : Value), (wx.setCell ⟨w.heap.size + 1 + 1, i, none⟩ v).heap[w.heap.size + 1]? = some (.cells c 56 (0, 0)) := fun wx h i v => by
    rw [heap_setCell_other _ _ _ _ (by show w.heap.size + 1 ≠ w.heap.size + 1 + 1; omega)]; exact h
  refine ⟨hb _ (hb _ (hb _ (hb _ h.below _ _) _ _) _ _) _ _, ⟨c, ho _ (ho _ (ho _ (ho _ hc _ _) _ _) _ _) _ _, hn⟩, ((((h.row.set _ _).set _ _).set _ _).set _ _).congr fun j hj => ?_⟩
  obtain ⟨d0, d1, d2, d3⟩ := digS_at s k hk
  unfold dRow
  by_cases e3 : j = 4 * k + 3
  · subst e3; rw [if_pos rfl, if_pos (by omega), d3]; rfl
  · rw [if_neg e3]
    by_cases e2 : j = 4 * k + 2
    · subst e2; rw [if_pos rfl, if_pos (by omega), d2]; rfl
    · rw [if_neg e2]
      by_cases e1 : j = 4 * k + 1
      · subst e1; rw [if_pos rfl, if_pos (by omega), d1]; rfl
      · rw [if_neg e1]
        by_cases e0 : j = 4 * k
        · subst e0; rw [if_pos rfl, if_pos (by omega), d0]; rfl
        · rw [if_neg e0]
          by_cases hlt : j < 4 * k
          · rw [if_pos hlt, if_pos (by omega)]
          · rw [if_neg hlt, if_neg (by omega)]
theorem list8_eq_range (l : List UInt8) (n : Nat) (h : l.length = n) : (List.range n).map (fun j => cu8 (at8 l j)) = l.map cu8 := by
  apply List.ext_getElem?
  intro i
  by_cases hi : i < n
  · simp [hi, at8, List.getD_eq_getElem?_getD, List.getElem?_eq_getElem (h ▸ hi)]
  · rw [List.getElem?_eq_none (by simp; omega), List.getElem?_eq_none (by simp; omega)]

set_option maxRecDepth 100000 in
set_option maxHeartbeats 1000000 in
theorem digest_any (s : S8) (sv : Array Value) (Hs : Hid (sv = s32 s)) (w : World) :
    Calls Tryz.prog 156 #[.agg sv] w (AggPost (fun r => r = ((digS s).map cu8).toArray) w) := by
  have Hm : Hid (sv.size = 8) := by rw [Hs.out]; exact (rfl : (s32 s).size = 8)
  go_enter Tryz.func156, Tryz.ntmps156
  go_wp2_with (refine wpList_load_row rfl 227 _ rfl w.heap.size rfl 227 sv (0, 0) _ ?h1 Tryz.underlying227 rfl ?h2 ?_)
  case h1 => rw [Below.heap_alloc _ _ _ (by simp; omega), Below.heap_alloc _ _ _ (by simp)]; exact heap_alloc_new _ _
  case h2 => rw [Hm.out]; kernel_rfl
  have hS : ∀ c1 c2 : Array Value, c1.size = 32 → c2 = (List.replicate 32 (Value.int .u8 0)).toArray → DgW w s 0 (((w.alloc (.cells sv 227)).alloc (.cells c1 56)).alloc (.cells c2 56)) := fun c1 c2 h1 h2 => by
    refine ⟨(((Below.refl _ _).alloc (Nat.le_refl _) _).alloc (by simp) _).alloc (by simp; omega) _, ⟨c1, ?_, h1⟩, ?_⟩
    · rw [Below.heap_alloc _ _ _ (by simp)]
      have := heap_alloc_new (w.alloc (.cells sv 227)) (.cells c1 56)
      simpa using this
    · have h3 : c2.size = 32 := by rw [h2, List.size_toArray, List.length_replicate]
      have := World.rowIs_alloc ((w.alloc (.cells sv 227)).alloc (.cells c1 56)) c2 56 (dRow s 0) (fun i hi => by
        subst h2
        rw [List.size_toArray, List.length_replicate] at hi
        rw [List.getElem?_toArray, List.getElem?_replicate, if_pos hi]; rfl)
      rw [h3] at this
      simpa using this
  have HS := Lib.hid hS; clear hS
  go_loopg [7] 8 (fun g i wr => ∃ k : Nat, k ≤ 8 ∧ g = 8 - k ∧ i = .int .i64 k ∧ DgW w s k wr)
  case atStart => exact ⟨0, by omega, rfl, rfl, HS.out _ _ (by kernel_rfl) (by kernel_rfl)⟩
  case round =>
    clear HS
    obtain ⟨k, hk, rfl, rfl, hS⟩ := hrel
    by_cases hlt : k < 8
    · have hlt' : (k : Int) < 8 := by omega
      have hix : ∀ w : World, (Instr.index 227 (.agg sv) (.int .i64 (k : Int))).run Tryz.prog w = .ok (.int .u32 (uz (at32 s.list k))) w :=
        run_index_row _ _ 8 Tryz.underlying227 Tryz.underlying226 (by kernel_rfl) sv k hlt _ (by
          rw [Hs.out]
          have hk' : k < s.list.length := hlt
          simp [s32, at32, List.getD_eq_getElem?_getD, List.getElem?_eq_getElem hk', cu32])
      have f0 := hS.row.frozen (4 * k)
      have f1 := hS.row.frozen (4 * k + 1)
      have f2 := hS.row.frozen (4 * k + 2)
      have f3 := hS.row.frozen (4 * k + 3)
      have c0 := hS.row.cell (i := 4 * k) (by omega)
      have c1 := hS.row.cell (i := 4 * k + 1) (by omega)
      have c2 := hS.row.cell (i := 4 * k + 2) (by omega)
      have c3 := hS.row.cell (i := 4 * k + 3) (by omega)
      go_wp2
      go_roundg (8 - (k + 1))
      case measure => omega
      case rel => exact ⟨k + 1, by omega, rfl, by go_num, hS.step hlt⟩
    · obtain rfl : k = 8 := by omega
      have HR := rowIs_eq (hS.row.congr (g := fun j => cu8 (at8 (digS s) j)) (fun j hj => by unfold dRow; rw [if_pos (by omega)]))
      rw [list8_eq_range (digS s) 32 rfl] at HR
      obtain ⟨c, hc, hn⟩ := hS.res
      have H1 := Lib.hid HR; clear HR
      have H2 := Lib.hid hc; clear hc
      have H3 := Lib.hid hn; clear hn
      have hb := hS.below
      clear hS hk hlt
      go_wp2_with (first | (refine wpList_load_row rfl 56 _ rfl (w.heap.size + 1 + 1) rfl 56 _ (0, 0) _ H1.out Tryz.underlying56 rfl (by kernel_rfl) ?_) | (refine wpList_store_row rfl 56 _ _ rfl (w.heap.size + 1) _ rfl rfl 56 c H2.out (by kernel_rfl) H3.out ?_ ?_))
      · exact all_oneCell_toArray (fun v hv => by obtain ⟨x, _, rfl⟩ := List.mem_map.1 hv; rfl)
      · refine bodyPost_ret (v := .agg ((digS s).map cu8).toArray) ?_ rfl ⟨_, rfl, rfl, below_setRow hb (by omega) _⟩
        exact results_cell_row (ty := 56) rfl _ _ (w.heap.size + 1) 56 _ (0, 0) _ rfl (setRow_heap _ _ _ _ _ _ H2.out) Tryz.underlying56 rfl (by kernel_rfl)
end Go.Proofs.YtjkkbceddbkejaaGreatDoor

/-
  What stands behind the bytes; a new hash: the walks of 'ending' and 'New'.
-/
namespace Go.Proofs.YtjkkbceddbkejaaGreatDoor
open Go.RowKit Sh
theorem Tryz.infoU8 : (Tryz.prog.info? 5).map (fun i => (i.zero, i.size, i.bytes)) = some (some (.int .u8 0), 1, 1) := by kernel_rfl

/-- A hash at the head of block g, to which m was written. -/
def HashAt (w : World) (g : Nat) (m : List UInt8) : Prop :=
  ∃ wt : List UInt8, wt.length = 64 ∧ wt.take (m.length % 64) = m.drop (64 * (m.length / 64)) ∧
    w.heap[g]? = some (.cells (hCells (stateOf m (m.length / 64)) wt m.length).toArray 230 (0, 0))
def NewPost (w : World) (e : Ending) (w' : World) : Prop :=
  ∃ g, e = .returned (.pointer (some ⟨g, 0, none⟩)) ∧ w.heap.size ≤ g ∧ HashAt w' g [] ∧ Below w.heap.size w w'

/-- The row of what stands behind, i bytes of the count told. -/
def eRow (n z i j : Nat) : Value := if j = 0 then cu8 128 else if z + 9 ≤ j + i then cu8 (UInt8.ofNat (n * 8 / 2 ^ (8 * (z + 8 - j)))) else cu8 0
theorem eRow_step (n z i j : Nat) (hi : i < 8) : (if j = z + 8 - i then cu8 (UInt8.ofNat (n * 8 / 2 ^ (8 * i))) else eRow n z i j) = eRow n z (i + 1) j := by
  unfold eRow
  by_cases e : j = z + 8 - i
  · subst e
    rw [if_pos rfl, if_neg (by omega), if_pos (by omega)]
    have : z + 8 - (z + 8 - i) = i := by omega
    rw [this]
  · rw [if_neg e]
    by_cases h0 : j = 0
    · rw [if_pos h0, if_pos h0]
    · rw [if_neg h0, if_neg h0]
      by_cases h1 : z + 9 ≤ j + i
      · rw [if_pos h1, if_pos (by omega)]
      · rw [if_neg h1, if_neg (by omega)]
theorem eRow_end (n j : Nat) (hj : j < pad0 n + 9) : eRow n (pad0 n) 8 j = cu8 (at8 (ending n) j) := by
  unfold eRow ending at8
  rw [List.getD_eq_getElem?_getD]
  cases j with
  | zero => rfl
  | succ j =>
    rw [if_neg (by omega), List.getElem?_cons_succ, List.getElem?_append, List.length_replicate]
    by_cases h : j < pad0 n
    · rw [if_neg (by omega), if_pos h, List.getElem?_replicate, if_pos h]; rfl
    · rw [if_pos (by omega), if_neg h]
      have h8 : j - pad0 n < 8 := by omega
      simp only [be8, List.getElem?_map, List.getElem?_range h8, Option.map_some, Option.getD_some]
      have : pad0 n + 8 - (j + 1) = 7 - (j - pad0 n) := by omega
      rw [this]
theorem byteN (m k : Nat) : IntKind.u8.wrap ((m : Int) / 2 ^ k) = bz (UInt8.ofNat (m / 2 ^ k)) := by
  have : ((m : Int) / 2 ^ k) = ((m / 2 ^ k : Nat) : Int) := by simp
  rw [this, IntKind.wrap_u8', bz_eq, UInt8.toNat_ofNat']; omega

/-- A call that hands back bytes in a new slice. -/
def BytesPost (l : List UInt8) (w : World) (e : Ending) (w' : World) : Prop :=
  ∃ g, e = .returned (.slice (some ⟨g, 0, none⟩) l.length l.length) ∧ w.heap.size ≤ g ∧ w'.rowIs g 5 l.length (fun j => cu8 (at8 l j)) ∧ Below w.heap.size w w'
theorem ending_length (n : Nat) : (ending n).length = pad0 n + 9 := by simp [ending, be8]

set_option maxRecDepth 100000 in
set_option maxHeartbeats 400000 in
theorem ending_any (n : Nat) (hn : n < 1152921504606846976) (w : World) :
    Calls Tryz.prog 155 #[.int .u64 n] w (BytesPost (ending n) w) := by
  obtain ⟨z, hz⟩ : ∃ z, z = pad0 n := ⟨_, rfl⟩
  have hz1 : z < 64 := by rw [hz]; unfold pad0; omega
  have e1 : (119 - (n : Int) % 64) % 64 = (z : Int) := by rw [hz]; unfold pad0; omega
  have Hz := Lib.hid hz; clear hz
  have hmk : ∀ w : World, (Instr.makeSlice 169 (.int .u64 (1 + (z : Int) + 8)) (.int .u64 (1 + (z : Int) + 8))).run Tryz.prog w = .ok (.slice (some ⟨w.heap.size, 0, none⟩) (z + 9) (z + 9)) (w.alloc (.cells (madeCells #[.int .u8 0] (z + 9)) 5)) := fun w => by
    have := run_make_row' (P := Tryz.prog) 169 5 (.int .u8 0) 1 Tryz.underlying169 Tryz.infoU8 rfl .u64 .u64 (z + 9) (by omega) (by omega) w
    have e : ((z + 9 : Nat) : Int) = 1 + (z : Int) + 8 := by omega
    rw [e] at this
    exact this
  have h0 : (madeCells #[Value.int .u8 0] (z + 9))[0]? = some (.int .u8 0) := by simp [madeCells]
  go_enter Tryz.func155, Tryz.ntmps155
  go_wp2
  clear h0 hmk e1
  have hS : (w.alloc (.cells ((madeCells #[Value.int .u8 0] (z + 9)).setIfInBounds 0 (Value.int .u8 128)) 5)).rowIs w.heap.size 5 (z + 9) (eRow n z 0) := by
    have := World.rowIs_alloc w ((madeCells #[Value.int .u8 0] (z + 9)).setIfInBounds 0 (Value.int .u8 128)) 5 (eRow n z 0) (fun i hi => by
      simp [madeCells] at hi
      rw [Array.getElem?_setIfInBounds]
      unfold eRow
      by_cases e : i = 0
      · subst e; simp [madeCells, cu8]; rfl
      · rw [if_neg (fun h => e h.symm), if_neg e, if_neg (by omega)]
        simp [madeCells, hi, Nat.mod_one, cu8]; rfl)
    simpa [madeCells] using this
  have hb : Below w.heap.size w (w.alloc (.cells ((madeCells #[Value.int .u8 0] (z + 9)).setIfInBounds 0 (Value.int .u8 128)) 5)) := (Below.refl _ _).alloc (Nat.le_refl _) _
  generalize w.alloc (.cells ((madeCells #[Value.int .u8 0] (z + 9)).setIfInBounds 0 (Value.int .u8 128)) 5) = w1 at hS hb ⊢
  go_loopg [19] 8 (fun g i wr => ∃ k : Nat, k ≤ 8 ∧ g = 8 - k ∧ i = .int .i64 k ∧ Below w.heap.size w wr ∧ wr.rowIs w.heap.size 5 (z + 9) (eRow n z k))
  case atStart => exact ⟨0, by omega, rfl, rfl, hb, hS⟩
  case round =>
    clear hb hS
    obtain ⟨k, hk, rfl, rfl, hb, hS⟩ := hrel
    by_cases hlt : k < 8
    · have hlt' : (k : Int) < 8 := by omega
      have c0 := hS.cell (i := z + 8 - k) (by omega)
      have f0 := hS.frozen (z + 8 - k)
      have n1 : (8 * (k : Int)).toNat = 8 * k := by omega
      have n0 : ((z : Int) + 9 - 1 - (k : Int)).toNat = z + 8 - k := by omega
      have hv : IntKind.u8.wrap ((n : Int) * 8 / 2 ^ (8 * k)) = bz (UInt8.ofNat (n * 8 / 2 ^ (8 * k))) := by
        have := byteN (n * 8) (8 * k); simpa using this
      go_wp2
      go_roundg (8 - (k + 1))
      case measure => omega
      case rel =>
        exact ⟨k + 1, by omega, rfl, by go_num, hb.setCell (p := ⟨w.heap.size, z + 8 - k, none⟩) (Nat.le_refl _) _, (hS.set _ _).congr fun j _ => eRow_step n z k j hlt⟩
    · obtain rfl : k = 8 := by omega
      go_wp2
      go_ret
      have hl : (ending n).length = z + 9 := by rw [ending_length, Hz.out]
      refine ⟨w.heap.size, by rw [hl]; rfl, Nat.le_refl _, ?_, hb⟩
      rw [hl]
      refine hS.congr fun j hj => ?_
      rw [Hz.out] at hj ⊢
      exact eRow_end n j hj
set_option maxRecDepth 100000 in
set_option maxHeartbeats 400000 in
theorem new_any (w : World) :
    Calls Tryz.prog 136 #[] w (NewPost w) := by
  obtain ⟨hv, Hv⟩ : ∃ hv : Array Value, Hid (hv = (hCells initS (List.replicate 64 0) 0).toArray) := ⟨_, rfl⟩
  go_enter Tryz.func136, Tryz.ntmps136
  go_wp2_with (first | (go_at_call 153; refine (beginning_any _).mono ?_; rintro e w1 ⟨rfl, hb1⟩) | (refine wpList_build_to rfl 230 _ rfl hv (by rw [Hv.out]; kernel_rfl) ?_))
  go_ret
  refine ⟨w1.heap.size, rfl, hb1.size, ?_, hb1.alloc hb1.size _⟩
  refine ⟨List.replicate 64 0, by simp, by simp, ?_⟩
  show _ = some (Obj.cells (hCells initS (List.replicate 64 0) 0).toArray 230 (0, 0))
  rw [← Hv.out]
  exact heap_alloc_new _ _
end Go.Proofs.YtjkkbceddbkejaaGreatDoor

/-
  A block is stirred in: the walk of 'stir'.
-/
namespace Go.Proofs.YtjkkbceddbkejaaGreatDoor
open Go.RowKit Sh
attribute [local go_sem] Sh.or32 Sh.xor32 Sh.add32 Sh.add32' Sh.xor32_3 Sh.xor32_10 Sh.and32 Sh.not32'

/-- The row of eight. -/
def vRow (s : S8) (i : Nat) : Value := cu32 (at32 s.list i)

theorem stretch_agg (p : List UInt8) (hp : p.length = 64) (pv : Array Value) (Hp : Hid (pv = (p.map cu8).toArray)) (w : World) :
    Calls Tryz.prog 170 #[.agg pv] w (AggPost (fun r => r = ((sched p 64).map cu32).toArray) w) := by
  rw [Hp.out]
  exact (stretch_any p hp w).mono fun _ _ h => .of_eq h rfl
theorem words_agg (w : World) :
    Calls Tryz.prog 171 #[] w (AggPost (fun r => r = (kTab.map cu32).toArray) w) :=
  (roundWords_any w).mono fun _ _ h => .of_eq h rfl

/-- The world of 'stir': the box of the state, the result's, the numbers' row, the eight. -/
structure SrW (w : World) (bw : Nat) (p : List UInt8) (sv : Array Value) (v : Nat → Value) (wr : World) : Prop where
  below : Below w.heap.size w wr
  far : w.heap.size + 3 ≤ bw
  box : wr.heap[w.heap.size]? = some (.cells sv 227 (0, 0))
  res : ∃ c : Array Value, wr.heap[w.heap.size + 1 + 1]? = some (.cells c 227 (0, 0)) ∧ c.size = 8
  ws : wr.rowIs bw 245 64 (wRow (sched p 64))
  v : wr.rowIs (bw + 1) 227 8 v

theorem SrW.drewN {w wr : World} {bw : Nat} {p : List UInt8} {sv : Array Value} {v : Nat → Value} (h : SrW w bw p sv v wr) (n : Nat) : SrW w bw p sv v (wr.drewN n) :=
  ⟨h.below.trans ⟨rfl, rfl, rfl, Nat.le_refl _, fun _ _ => rfl⟩, h.far, h.box, h.res, h.ws, h.v⟩

/-- What only the eight's own block turns. -/
theorem SrW.turn {w wr wn : World} {bw : Nat} {p : List UInt8} {sv : Array Value} {v v' : Nat → Value} (h : SrW w bw p sv v wr) (hb : Below (bw + 1) wr wn) (hv : wn.rowIs (bw + 1) 227 8 v') : SrW w bw p sv v' wn :=
  ⟨h.below.trans (hb.mono (by have := h.far; omega)), h.far, by rw [hb.block _ (by have := h.far; omega)]; exact h.box,
    by obtain ⟨c, hc, hn⟩ := h.res; exact ⟨c, by rw [hb.block _ (by have := h.far; omega)]; exact hc, hn⟩,
    h.ws.of_block (hb.block _ (by omega)), hv⟩

theorem SrW.set {w wr : World} {bw : Nat} {p : List UInt8} {sv : Array Value} {v : Nat → Value} (h : SrW w bw p sv v wr) (i : Nat) (x : Value) : SrW w bw p sv (fun j => if j = i then x else v j) (wr.setCell ⟨bw + 1, i, none⟩ x) :=
  h.turn ((Below.refl (bw + 1) wr).setCell (p := ⟨bw + 1, i, none⟩) (Nat.le_refl _) x) (h.v.set i x)
theorem SrW.congr {w wr : World} {bw : Nat} {p : List UInt8} {sv : Array Value} {v v' : Nat → Value} (h : SrW w bw p sv v wr) (e : ∀ j, j < 8 → v j = v' j) : SrW w bw p sv v' wr :=
  ⟨h.below, h.far, h.box, h.res, h.ws, h.v.congr e⟩

/-- The eight behind i of the last sums. -/
def sumRow (t s : S8) (i : Nat) (j : Nat) : Value := cu32 (if j < i then at32 t.list j + at32 s.list j else at32 t.list j)
theorem sumRow_end (t s : S8) : ∀ j, j < 8 → sumRow t s 8 j = wRow (addS t s).list j := fun j hj => by
  unfold sumRow wRow
  rw [if_pos hj]
  obtain rfl | rfl | rfl | rfl | rfl | rfl | rfl | rfl : j = 0 ∨ j = 1 ∨ j = 2 ∨ j = 3 ∨ j = 4 ∨ j = 5 ∨ j = 6 ∨ j = 7 := by omega
  all_goals rfl

theorem SrW.round {w wr : World} {bw : Nat} {p : List UInt8} {sv : Array Value} {a b c d e f g : UInt32} (hS : SrW w bw p sv (wRow [a, a, b, c, d, e, f, g]) wr) (x y : UInt32) (s : S8)
    (hs : s.list = [y, a, b, c, x, e, f, g]) : SrW w bw p sv (wRow s.list) ((wr.setCell ⟨bw + 1, 4, none⟩ (.int .u32 (uz x))).setCell ⟨bw + 1, 0, none⟩ (.int .u32 (uz y))) := by
  refine ((hS.set 4 _).set 0 _).congr (fun j hj => ?_)
  rw [hs]
  obtain rfl | rfl | rfl | rfl | rfl | rfl | rfl | rfl : j = 0 ∨ j = 1 ∨ j = 2 ∨ j = 3 ∨ j = 4 ∨ j = 5 ∨ j = 6 ∨ j = 7 := by omega
  all_goals rfl

theorem rowIs_row {w : World} {b : Nat} {t : TypeId} (l : List UInt32) (n : Nat) (hn : l.length = n) (h : w.heap[b]? = some (.cells (l.map cu32).toArray t (0, 0))) : w.rowIs b t n (wRow l) :=
  ⟨_, h, by simp [hn], fun i hi => by
    have hi' : i < l.length := by omega
    simp [wRow, at32, List.getD_eq_getElem?_getD, List.getElem?_eq_getElem hi']⟩

theorem eight_src {w : World} {b : Nat} {t : TypeId} {a0 a1 a2 a3 a4 a5 a6 a7 : UInt32} (h : w.heap[b]? = some (.cells ([a0, a1, a2, a3, a4, a5, a6, a7].map cu32).toArray t (0, 0))) :
    ∀ j v, [cu32 a0, cu32 a1, cu32 a2, cu32 a3, cu32 a4, cu32 a5, cu32 a6][j]? = some v → w.drew.cell? ((⟨b, 0, none⟩ : Addr).add j) = some v := fun j v hv => by
  have hadd : (⟨b, 0, none⟩ : Addr).add j = ⟨b, j, none⟩ := by unfold Addr.add; split <;> simp_all
  rw [hadd, cell_of_row w.drew b j _ t (0, 0) h]
  have hj : j < 7 := by
    rcases Nat.lt_or_ge j 7 with h7 | h7
    · exact h7
    · rw [List.getElem?_eq_none (by simpa using h7)] at hv; cases hv
  rw [List.getElem?_toArray, List.getElem?_map, ← hv]
  obtain rfl | rfl | rfl | rfl | rfl | rfl | rfl : j = 0 ∨ j = 1 ∨ j = 2 ∨ j = 3 ∨ j = 4 ∨ j = 5 ∨ j = 6 := by omega
  all_goals rfl
theorem eight_one (a0 a1 a2 a3 a4 a5 a6 : UInt32) : ∀ v ∈ [cu32 a0, cu32 a1, cu32 a2, cu32 a3, cu32 a4, cu32 a5, cu32 a6], v.oneCell' = true := fun v hv => by
  simp only [List.mem_cons, List.not_mem_nil, or_false] at hv
  rcases hv with rfl | rfl | rfl | rfl | rfl | rfl | rfl <;> rfl

set_option maxRecDepth 100000 in
set_option maxHeartbeats 1600000 in
theorem stir_agg (s : S8) (p : List UInt8) (hp : p.length = 64) (sv pv : Array Value) (Hs : Hid (sv = s32 s)) (Hp : Hid (pv = (p.map cu8).toArray)) (w : World) :
    Calls Tryz.prog 154 #[.agg sv, .agg pv] w (AggPost (fun r => r = s32 (comp s p)) w) := by
  have Hn : Hid (pv.size = 64) := by rw [Hp.out]; exact (by rw [List.size_toArray, List.length_map, hp] : (p.map cu8).toArray.size = 64)
  have Hm : Hid (sv.size = 8) := by rw [Hs.out]; exact (rfl : (s32 s).size = 8)
  have Hl := Lib.hid hp; clear hp
  go_enter Tryz.func154, Tryz.ntmps154
  have Hz : Hid (∀ l : List UInt32, ((l.map cu32).toArray.all fun v => v.oneCell') = true) := fun l => all_oneCell_toArray (fun v hv => by obtain ⟨x, _, rfl⟩ := List.mem_map.1 hv; rfl)
  have He : Hid (∀ p : List UInt8, ((sched p 64).map cu32).toArray.size = 64) := fun p => by rw [List.size_toArray, List.length_map, sched_length]
  go_wp2_with (first
    | (refine wpList_load_row rfl 33 _ rfl (w.heap.size + 1) rfl 33 pv (0, 0) _ ?h1 Tryz.underlying33 rfl ?h2 ?_)
    | (go_at_call 170; refine (stretch_agg p Hl.out pv Hp _).mono ?_; rintro e w1 ⟨wv, Hw, rfl, hb1⟩)
    | (refine wpList_store_new rfl 245 _ _ rfl w1.heap.size rfl wv rfl rfl 245 _ ?h3 ?h4 ?h5 ?_)
    | (refine wpList_load_row rfl 227 _ rfl w.heap.size rfl 227 sv (0, 0) _ ?h6 Tryz.underlying227 rfl ?h7 ?_)
    | (refine wpList_store_new rfl 227 _ _ rfl (w1.heap.size + 1) (World.size_alloc _ _) sv rfl rfl 227 _ ?h8 ?h9 ?h10 ?_)
    | (go_at_call 171; refine (words_agg _).mono ?_; rintro e w2 ⟨kv, Hk, rfl, hb2⟩))
  case h2 => rw [Hn.out]; kernel_rfl
  case h1 => rw [Below.heap_alloc _ _ _ (by simp)]; simpa using heap_alloc_new (w.alloc (.cells sv 227)) (.cells pv 33)
  case h3 => rw [Hw.out, He.out]; kernel_rfl
  case h4 => rw [Hw.out, He.out]; kernel_rfl
  case h5 => rw [Hw.out]; exact Hz.out _
  case h6 =>
    rw [Below.heap_alloc _ _ _ (by have := hb1.size; simp at this; omega), hb1.block _ (by simp; omega), Below.heap_alloc _ _ _ (by simp; omega), Below.heap_alloc _ _ _ (by simp)]
    exact heap_alloc_new _ _
  case h7 => rw [Hm.out]; kernel_rfl
  case h8 => rw [Hm.out]; kernel_rfl
  case h9 => rw [Hm.out]; kernel_rfl
  case h10 => rw [Hs.out]; kernel_rfl
  have hS : SrW w w1.heap.size p sv (wRow s.list) w2 := by
    have z1 := hb1.size
    have z2 := hb2.size
    simp at z1 z2
    have hold : ∀ k, k < w1.heap.size → w2.heap[k]? = w1.heap[k]? := fun k hk => by
      rw [hb2.block k (by simp; omega), Below.heap_alloc _ _ _ (by simp; omega), Below.heap_alloc _ _ _ hk]
    have hbel : Below w.heap.size w w2 := by
      have a1 : Below w.heap.size w (((w.alloc (.cells sv 227)).alloc (.cells pv 33)).alloc (.cells #[Value.int .u32 0, Value.int .u32 0, Value.int .u32 0, Value.int .u32 0, Value.int .u32 0, Value.int .u32 0, Value.int .u32 0, Value.int .u32 0] 227)) :=
        (((Below.refl _ _).alloc (Nat.le_refl _) _).alloc (by simp) _).alloc (by simp; omega) _
      exact (((a1.trans (hb1.mono (by simp; omega))).alloc (by omega) _).alloc (by simp; omega) _).trans (hb2.mono (by simp; omega))
    refine ⟨hbel, by omega, ?_, ⟨#[Value.int .u32 0, Value.int .u32 0, Value.int .u32 0, Value.int .u32 0, Value.int .u32 0, Value.int .u32 0, Value.int .u32 0, Value.int .u32 0], ?_, rfl⟩, ?_, ?_⟩
    · rw [hold _ (by omega), hb1.block _ (by simp; omega), Below.heap_alloc _ _ _ (by simp; omega), Below.heap_alloc _ _ _ (by simp)]
      exact heap_alloc_new _ _
    · rw [hold _ (by omega), hb1.block _ (by simp)]
      have := heap_alloc_new ((w.alloc (.cells sv 227)).alloc (.cells pv 33)) (.cells #[Value.int .u32 0, Value.int .u32 0, Value.int .u32 0, Value.int .u32 0, Value.int .u32 0, Value.int .u32 0, Value.int .u32 0, Value.int .u32 0] 227)
      simpa using this
    · refine rowIs_row _ 64 (sched_length p 64) ?_
      rw [hb2.block _ (by simp; omega), Below.heap_alloc _ _ _ (by simp), ← Hw.out]
      exact heap_alloc_new _ _
    · refine rowIs_row s.list 8 rfl ?_
      rw [hb2.block _ (by simp)]
      have := heap_alloc_new (w1.alloc (.cells wv 245)) (.cells sv 227)
      rw [World.size_alloc, Hs.out] at this
      rw [Hs.out]
      exact this
  clear hb1 hb2 Hw Hl Hz He
  generalize w1.heap.size = bw at hS ⊢
  go_loopg [24] 64 (fun g i wr => ∃ k : Nat, k ≤ 64 ∧ g = 64 - k ∧ i = .int .i64 k ∧ SrW w bw p sv (wRow (rnds s p k).list) wr)
  case atStart => exact ⟨0, by omega, rfl, rfl, hS⟩
  case round =>
    clear hS
    obtain ⟨k, hk, rfl, rfl, hS⟩ := hrel
    by_cases hlt : k < 64
    · have hlt' : (k : Int) < 64 := by omega
      have hix : ∀ w : World, (Instr.index 245 (.agg kv) (.int .i64 (k : Int))).run Tryz.prog w = .ok (.int .u32 (uz (at32 kTab k))) w :=
        run_index_row _ _ 64 Tryz.underlying245 Tryz.underlying226 (by kernel_rfl) kv k hlt _ (by
          rw [Hk.out]
          have hk' : k < kTab.length := hlt
          simp [at32, List.getD_eq_getElem?_getD, List.getElem?_eq_getElem hk', cu32])
      generalize hT : rnds s p k = T at hS
      have HT := Lib.hid hT; clear hT
      obtain ⟨a, b, c, d, e, f, g, h8⟩ := T
      have c0 : wr.cell? ⟨bw + 1, 0, none⟩ = some (.int .u32 (uz a)) := hS.v.cell (by omega)
      have c1 : wr.cell? ⟨bw + 1, 1, none⟩ = some (.int .u32 (uz b)) := hS.v.cell (by omega)
      have c2 : wr.cell? ⟨bw + 1, 2, none⟩ = some (.int .u32 (uz c)) := hS.v.cell (by omega)
      have c3 : wr.cell? ⟨bw + 1, 3, none⟩ = some (.int .u32 (uz d)) := hS.v.cell (by omega)
      have c4 : wr.cell? ⟨bw + 1, 4, none⟩ = some (.int .u32 (uz e)) := hS.v.cell (by omega)
      have c5 : wr.cell? ⟨bw + 1, 5, none⟩ = some (.int .u32 (uz f)) := hS.v.cell (by omega)
      have c6 : wr.cell? ⟨bw + 1, 6, none⟩ = some (.int .u32 (uz g)) := hS.v.cell (by omega)
      have c7 : wr.cell? ⟨bw + 1, 7, none⟩ = some (.int .u32 (uz h8)) := hS.v.cell (by omega)
      go_wp2_with fail
      go_quiet (fail)
      go_wp2_with fail
      go_quiet (fail)
      go_wp2_with fail
      refine (?_ : ∀ w2 : World, SrW w bw p sv _ w2 → Code.wp _ _ _ _ w2) _ ((hS.drewN _).drewN _)
      clear hS c0 c1 c2 c3 c4 c5 c6 c7
      intro w2 hS
      have cw : w2.cell? ⟨bw, k, none⟩ = some (.int .u32 (uz (at32 (sched p 64) k))) := hS.ws.cell hlt
      go_quiet ((go_at_call 172; exact Calls.quiet_of (turn_any _ _ _ (by omega) (by omega))))
      clear cw
      go_wp2_with (go_at_call 172; refine (turn_any _ _ _ (by omega) (by omega)).mono ?_; rintro e w' ⟨rfl, m, rfl⟩)
      refine (?_ : ∀ w2 : World, SrW w bw p sv _ w2 → Code.wp _ _ _ _ w2) _ (hS.drewN _)
      clear hS
      intro w2 hS
      rw [Sh.emod4]
      have HV : Hid (w2.heap[bw + 1]? = some (.cells ([a, b, c, d, e, f, g, h8].map cu32).toArray 227 (0, 0))) := (rowIs_eq hS.v).trans (by rfl)
      have HC := Lib.hid (eight_src HV.out)
      go_region_law (refine step_copy_splice rfl (.tmp 87) (.tmp 88) 249 249 rfl 226 Tryz.underlying249 (by kernel_rfl) (some ⟨bw + 1, 1, none⟩) (some ⟨bw + 1, 0, none⟩) 7 7 7 8 rfl rfl (bw + 1) 1 [cu32 a, cu32 b, cu32 c, cu32 d, cu32 e, cu32 f, cu32 g, cu32 h8] 227 HV.out [cu32 a, cu32 b, cu32 c, cu32 d, cu32 e, cu32 f, cu32 g] rfl (fun _ => ⟨rfl, _, rfl, HC.out⟩) (Nat.le_refl 8) (eight_one a b c d e f g) (bw + 1) _ (Below.refl _ _) (Nat.le_refl _) ?_; intro w3 hg3 hb3)
      have hg3' : w3.heap[bw + 1]? = some (.cells ([a, a, b, c, d, e, f, g].map cu32).toArray 227 (0, 0)) := hg3.out
      have hr3 := rowIs_row [a, a, b, c, d, e, f, g] 8 rfl hg3'
      have hS3 : SrW w bw p sv (wRow [a, a, b, c, d, e, f, g]) w3 := (hS.drewN 1).turn hb3 hr3
      clear hg3 hg3' HV HC hb3 hS hr3
      have d0 : w3.cell? ⟨bw + 1, 0, none⟩ = some (.int .u32 (uz a)) := hS3.v.cell (by omega)
      have d4 : w3.cell? ⟨bw + 1, 4, none⟩ = some (.int .u32 (uz d)) := hS3.v.cell (by omega)
      have f0 : w3.frozen? ⟨bw + 1, 0, none⟩ = false := hS3.v.frozen 0
      have f4 : w3.frozen? ⟨bw + 1, 4, none⟩ = false := hS3.v.frozen 4
      go_wp2
      go_roundg (64 - (k + 1))
      case measure => omega
      case rel =>
        refine ⟨k + 1, by omega, rfl, by go_num, ?_⟩
        have HT' : (rnds s p (k + 1)).list = [rndP ⟨a, b, c, d, e, f, g, h8⟩ (at32 kTab k) (at32 (sched p 64) k) + rndQ ⟨a, b, c, d, e, f, g, h8⟩, a, b, c, d + rndP ⟨a, b, c, d, e, f, g, h8⟩ (at32 kTab k) (at32 (sched p 64) k), e, f, g] := by
          show (rnd (rnds s p k) (at32 kTab k) (at32 (sched p 64) k)).list = _
          rw [HT.out]; rfl
        exact hS3.round _ _ _ HT'
    · obtain rfl : k = 64 := by omega
      clear hlt hk Hk
      have HB := Lib.hid hS.box
      go_wp2_with (refine wpList_load_row rfl 227 _ rfl w.heap.size rfl 227 sv (0, 0) _ HB.out Tryz.underlying227 rfl ?hz ?_)
      case hz => rw [Hm.out]; kernel_rfl
      have hS2 : SrW w bw p sv (sumRow (rnds s p 64) s 0) wr := hS.congr (fun j hj => by simp [sumRow, wRow])
      clear HB hS
      have HE : Hid (((addS (rnds s p 64) s).list.map cu32).toArray = s32 (comp s p)) := rfl
      generalize rnds s p 64 = T at hS2 HE
      go_loopg [101] 8 (fun g i wr => ∃ k : Nat, k ≤ 8 ∧ g = 8 - k ∧ i = .int .i64 k ∧ SrW w bw p sv (sumRow T s k) wr)
      case atStart => exact ⟨0, by omega, rfl, rfl, hS2⟩
      case round =>
        clear hS2
        obtain ⟨k, hk, rfl, rfl, hS⟩ := hrel
        by_cases hlt : k < 8
        · have hlt' : (k : Int) < 8 := by omega
          have hix : ∀ w : World, (Instr.index 227 (.agg sv) (.int .i64 (k : Int))).run Tryz.prog w = .ok (.int .u32 (uz (at32 s.list k))) w :=
            run_index_row _ _ 8 Tryz.underlying227 Tryz.underlying226 (by kernel_rfl) sv k hlt _ (by
              rw [Hs.out]
              have hk' : k < s.list.length := hlt
              simp [s32, at32, List.getD_eq_getElem?_getD, List.getElem?_eq_getElem hk', cu32])
          have d0 : wr.cell? ⟨bw + 1, k, none⟩ = some (.int .u32 (uz (at32 T.list k))) := by
            rw [hS.v.cell hlt, sumRow, if_neg (Nat.lt_irrefl k)]; rfl
          have f0 : wr.frozen? ⟨bw + 1, k, none⟩ = false := hS.v.frozen k
          go_wp2
          go_roundg (8 - (k + 1))
          case measure => omega
          case rel =>
            refine ⟨k + 1, by omega, rfl, by go_num, (hS.set k _).congr (fun j hj => ?_)⟩
            show (if j = k then cu32 (at32 T.list k + at32 s.list k) else sumRow T s k j) = sumRow T s (k + 1) j
            unfold sumRow
            by_cases e : j = k
            · subst e; rw [if_pos rfl, if_pos (by omega)]
            · rw [if_neg e]
              by_cases hj2 : j < k
              · rw [if_pos hj2, if_pos (by omega)]
              · rw [if_neg hj2, if_neg (by omega)]
        · obtain rfl : k = 8 := by omega
          have HR := rowIs_eq (hS.v.congr (sumRow_end T s))
          rw [list_eq_range (addS T s).list 8 rfl] at HR
          obtain ⟨c, hc, hn⟩ := hS.res
          have H1 := Lib.hid HR; clear HR
          have H2 := Lib.hid hc; clear hc
          have H3 := Lib.hid hn; clear hn
          have hb := hS.below
          have hf := hS.far
          clear hS hk hlt
          go_wp2_with (first | (refine wpList_load_row rfl 227 _ rfl (bw + 1) rfl 227 _ (0, 0) _ H1.out Tryz.underlying227 rfl (by kernel_rfl) ?_) | (refine wpList_store_row rfl 227 _ _ rfl (w.heap.size + 1 + 1) _ rfl rfl 227 c H2.out (by kernel_rfl) H3.out ?_ ?_))
          · exact all_oneCell_toArray (fun v hv => by obtain ⟨x, _, rfl⟩ := List.mem_map.1 hv; rfl)
          · refine bodyPost_ret (v := .agg ((addS T s).list.map cu32).toArray) ?_ rfl ⟨_, HE.out, rfl, below_setRow hb (by omega) _⟩
            exact results_cell_row (ty := 227) rfl _ _ (w.heap.size + 1 + 1) 227 _ (0, 0) _ rfl (setRow_heap _ _ _ _ _ _ H2.out) Tryz.underlying227 rfl (by kernel_rfl)
end Go.Proofs.YtjkkbceddbkejaaGreatDoor

/-
  Bytes that come in parts: plain lists.
-/
namespace Go.Proofs.YtjkkbceddbkejaaGreatDoor.Sh
open Go

theorem blk_append (a b : List UInt8) (i : Nat) (h : 64 * (i + 1) ≤ a.length) : blk (a ++ b) i = blk a i := by
  unfold blk
  rw [List.drop_append_of_le_length (by omega), List.take_append_of_le_length (by rw [List.length_drop]; omega)]
theorem stateOf_append (a b : List UInt8) (k : Nat) (h : 64 * k ≤ a.length) : stateOf (a ++ b) k = stateOf a k := by
  induction k with
  | zero => rfl
  | succ k ih => rw [stateOf, stateOf, ih (by omega), blk_append a b k h]
theorem splice_fill (m wt piece : List UInt8) (N R n : Nat) (hN : m.length = N) (hR : R = N % 64) (hw : wt.length = 64) (hw2 : wt.take R = m.drop (64 * (N / 64))) (hp : piece.length = n) (hn : R + n ≤ 64) :
    (splice wt R piece).length = 64 ∧ (splice wt R piece).take (R + n) = (m ++ piece).drop (64 * (N / 64)) := by
  refine ⟨by rw [length_splice _ _ _ (by omega), hw], ?_⟩
  unfold splice
  rw [List.drop_append_of_le_length (by omega), ← hw2, ← List.append_assoc]
  exact List.take_left' (by rw [List.length_append, List.length_take, hp]; omega)
theorem splice_hCells (s : S8) (wt piece : List UInt8) (N R : Nat) (hw : wt.length = 64) (hf : R + piece.length ≤ 64) :
    splice (hCells s wt N) (8 + R) (piece.map cu8) = hCells s (splice wt R piece) N := by
  have h8 : (s.list.map cu32).length = 8 := rfl
  unfold splice hCells
  rw [List.take_append, List.take_of_length_le (by omega), h8]
  have e1 : 8 + R - 8 = R := by omega
  rw [e1, List.take_append_of_le_length (by rw [List.length_map]; omega), List.drop_append, List.drop_of_length_le (by rw [h8]; omega), List.nil_append, h8, List.length_map]
  have e2 : 8 + R + piece.length - 8 = R + piece.length := by omega
  rw [e2, List.drop_append_of_le_length (by rw [List.length_map, hw]; omega), ← List.map_take, ← List.map_drop]
  simp [List.map_append]
/-- Part of a block is there. -/
theorem part_state (m piece : List UInt8) (N : Nat) (hN : m.length = N) : stateOf (m ++ piece) (N / 64) = stateOf m (N / 64) := stateOf_append _ _ _ (by omega)
/-- The block is full. -/
theorem full_state (m piece wt : List UInt8) (N n : Nat) (hN : m.length = N) (hw : wt.length = 64) (hw2 : wt = (m ++ piece).drop (64 * (N / 64))) (hn : N % 64 + n = 64) :
    stateOf (m ++ piece) ((N + n) / 64) = comp (stateOf m (N / 64)) wt := by
  have : (N + n) / 64 = N / 64 + 1 := by omega
  rw [this, stateOf, part_state m piece N hN]
  congr 1
  unfold blk
  rw [← hw2, List.take_of_length_le (by omega)]
end Go.Proofs.YtjkkbceddbkejaaGreatDoor.Sh

/-
  Bytes come behind what was written: the walk of 'Write'.
-/
namespace Go.Proofs.YtjkkbceddbkejaaGreatDoor
open Go.RowKit Sh

/-- What a call of Write leaves. -/
def WritePost (g : Nat) (m : List UInt8) (w : World) (e : Ending) (w' : World) : Prop := e = .returned (.tuple #[]) ∧ HashAt w' g m ∧ w.grownBy w' (some g)

theorem grownBy_refl (w : World) (r : Option Nat) : w.grownBy w r := ⟨rfl, rfl, rfl, Nat.le_refl _, fun _ _ _ => rfl⟩
theorem grownBy_trans {a b c : World} {r : Option Nat} (h : a.grownBy b r) (k : b.grownBy c r) : a.grownBy c r :=
  ⟨k.os.trans h.os, k.tape.trans h.tape, k.output.trans h.output, Nat.le_trans h.size k.size, fun i hi hne => (k.block i (Nat.lt_of_lt_of_le hi h.size) hne).trans (h.block i hi hne)⟩

/-- The round's head: k of the bytes are in. -/
structure WrW (w : World) (g : Nat) (m bs : List UInt8) (k : Nat) (wr : World) : Prop where
  hash : HashAt wr g (m ++ bs.take k)
  grown : w.grownBy wr (some g)

theorem hash_wait {w : World} {g N : Nat} {s : S8} {wt : List UInt8} {t : TypeId} (h : w.heap[g]? = some (.cells (hCells s wt N).toArray t (0, 0))) (hl : wt.length = 64) : w.rangeAt g 8 (wt.map cu8) := fun j v hv => by
  have hj : j < 64 := by
    rcases Nat.lt_or_ge j 64 with h7 | h7
    · exact h7
    · rw [List.getElem?_eq_none (by simpa [hl] using h7)] at hv; cases hv
  rw [cell_of_row w g (8 + j) _ _ _ h, List.getElem?_toArray]
  unfold hCells
  have h8 : (s.list.map cu32).length = 8 := rfl
  rw [List.getElem?_append_right (by omega), h8]
  have e : 8 + j - 8 = j := by omega
  rw [e, List.getElem?_append_left (by rw [List.length_map]; omega)]
  exact hv
theorem hash_cell {w : World} {g N : Nat} {s : S8} {wt : List UInt8} {t : TypeId} (h : w.heap[g]? = some (.cells (hCells s wt N).toArray t (0, 0))) (j : Nat) (hj : j < 8) : w.cell? ⟨g, j, none⟩ = some (.int .u32 (uz (at32 s.list j))) := by
  rw [cell_of_row w g j _ _ _ h, List.getElem?_toArray]
  unfold hCells
  have h8 : (s.list.map cu32).length = 8 := rfl
  rw [List.getElem?_append_left (by omega)]
  obtain rfl | rfl | rfl | rfl | rfl | rfl | rfl | rfl : j = 0 ∨ j = 1 ∨ j = 2 ∨ j = 3 ∨ j = 4 ∨ j = 5 ∨ j = 6 ∨ j = 7 := by omega
  all_goals rfl
theorem hash_count {w : World} {g N M : Nat} {s : S8} {wt : List UInt8} {t : TypeId} (h : w.heap[g]? = some (.cells (hCells s wt N).toArray t (0, 0))) (hl : wt.length = 64) :
    (w.setCell ⟨g, 72, none⟩ (.int .u64 (M : Int))).heap[g]? = some (.cells (hCells s wt M).toArray t (0, 0)) := by
  rw [heap_setCell_same w g 72 _ _ _ h]
  congr 2
  apply Array.ext_getElem?
  intro i
  rw [Array.getElem?_setIfInBounds]
  have h8 : (s.list.map cu32).length = 8 := rfl
  have hN := hCells_length s wt N hl
  have hM := hCells_length s wt M hl
  by_cases e : 72 = i
  · subst e
    rw [if_pos rfl, if_pos (by simp [hN])]
    simp [hCells, S8.list, hl]
  · rw [if_neg e]
    simp only [List.getElem?_toArray]
    unfold hCells
    rw [← List.append_assoc, ← List.append_assoc]
    have h64 : (wt.map cu8).length = 64 := by rw [List.length_map, hl]
    have h72 : (s.list.map cu32 ++ wt.map cu8).length = 72 := by rw [List.length_append, h64, h8]
    by_cases hi : i < 72
    · have h1 : i < (s.list.map cu32 ++ wt.map cu8).length := by rw [h72]; exact hi
      rw [List.getElem?_append_left h1, List.getElem?_append_left h1]
    · rw [List.getElem?_eq_none (by rw [List.length_append, h72]; simp; omega), List.getElem?_eq_none (by rw [List.length_append, h72]; simp; omega)]
theorem hash_state (s s' : S8) (wt : List UInt8) (N : Nat) : splice (hCells s wt N) 0 (s32 s').toList = hCells s' wt N := by
  have h8 : (s.list.map cu32).length = 8 := rfl
  have h8' : (s32 s').toList.length = 8 := rfl
  unfold splice
  rw [h8', List.take_zero, List.nil_append]
  unfold hCells
  rw [List.drop_append_of_le_length (by omega), List.drop_of_length_le (by omega)]
  rfl
theorem hash_head {w : World} {g N : Nat} {s : S8} {wt : List UInt8} {t : TypeId} (h : w.heap[g]? = some (.cells (hCells s wt N).toArray t (0, 0))) : w.rangeAt g 0 (s.list.map cu32) := fun j v hv => by
  have hj : j < 8 := by
    rcases Nat.lt_or_ge j 8 with h7 | h7
    · exact h7
    · rw [List.getElem?_eq_none (by rw [List.length_map]; exact h7)] at hv; cases hv
  have h8 : (s.list.map cu32).length = 8 := rfl
  rw [Nat.zero_add, cell_of_row w g j _ _ _ h, List.getElem?_toArray, ← hv]
  unfold hCells
  rw [List.getElem?_append_left (by omega)]
theorem rangeAt_block {w w' : World} {g o : Nat} {cs : List Value} (h : w.rangeAt g o cs) (hb : w'.heap[g]? = w.heap[g]?) : w'.rangeAt g o cs := fun j v hv => by
  rw [← h j v hv]; exact World.cell?_of_block (a := ⟨g, o + j, none⟩) hb

/-- The next round's head, where the block isn't full .. -/
theorem WrW.part {w w3 : World} {g : Nat} {m bs piece wt : List UInt8} {k n N R : Nat} (hgr : w.grownBy w3 (some g)) (hp : piece = (bs.drop k).take n) (hpl : piece.length = n) (hN : N = (m ++ bs.take k).length) (hR : R = N % 64) (hl : wt.length = 64)
    (hw : wt.take (R + n) = ((m ++ bs.take k) ++ piece).drop (64 * (N / 64))) (hn : R + n < 64)
    (h : w3.heap[g]? = some (.cells (hCells (stateOf (m ++ bs.take k) (N / 64)) wt (N + n)).toArray 230 (0, 0))) : WrW w g m bs (k + n) w3 := by
  have hM : m ++ bs.take (k + n) = (m ++ bs.take k) ++ piece := by rw [hp, List.append_assoc, List.take_add]
  have hl2 : (m ++ bs.take (k + n)).length = N + n := by rw [hM, List.length_append, ← hN, hpl]
  have e1 : (N + n) % 64 = R + n := by omega
  have e2 : (N + n) / 64 = N / 64 := by omega
  refine ⟨⟨wt, hl, ?_, ?_⟩, hgr⟩
  · rw [hl2, e1, e2, hM]; exact hw
  · rw [hl2, e2, hM, part_state _ _ _ hN.symm]; exact h
/-- .. and where it is. -/
theorem WrW.full {w w3 : World} {g : Nat} {m bs piece wt : List UInt8} {k n N R : Nat} (hgr : w.grownBy w3 (some g)) (hp : piece = (bs.drop k).take n) (hpl : piece.length = n) (hN : N = (m ++ bs.take k).length) (hR : R = N % 64) (hl : wt.length = 64)
    (hw : wt.take (R + n) = ((m ++ bs.take k) ++ piece).drop (64 * (N / 64))) (hn : R + n = 64)
    (h : w3.heap[g]? = some (.cells (hCells (comp (stateOf (m ++ bs.take k) (N / 64)) wt) wt (N + n)).toArray 230 (0, 0))) : WrW w g m bs (k + n) w3 := by
  have hM : m ++ bs.take (k + n) = (m ++ bs.take k) ++ piece := by rw [hp, List.append_assoc, List.take_add]
  have hl2 : (m ++ bs.take (k + n)).length = N + n := by rw [hM, List.length_append, ← hN, hpl]
  have e1 : (N + n) % 64 = 0 := by omega
  rw [hn, List.take_of_length_le (by omega)] at hw
  refine ⟨⟨wt, hl, ?_, ?_⟩, hgr⟩
  · rw [hl2, e1, List.take_zero, List.drop_of_length_le (by omega)]
  · rw [hl2, hM, full_state _ _ wt N n hN.symm hl hw (by omega)]; exact h

set_option maxRecDepth 100000 in
set_option maxHeartbeats 1600000 in
theorem write_any (g : Nat) (m bs : List UInt8) (bp : Option Addr) (b o cap : Nat) (w : World) (hH : HashAt w g m) (hne : b ≠ g) (hcap : bs.length ≤ cap) (hmax : cap ≤ maxLen)
    (hbp : 0 < bs.length → bp = some ⟨b, o, none⟩) (hc : ∀ j, j < bs.length → w.cell? ⟨b, o + j, none⟩ = some (cu8 (at8 bs j))) (hlen : m.length + bs.length < 1152921504606846976) :
    Calls Tryz.prog 137 #[.pointer (some ⟨g, 0, none⟩), .slice bp bs.length cap] w (WritePost g (m ++ bs) w) := by
  obtain ⟨L, hL⟩ : ∃ L, L = bs.length := ⟨_, rfl⟩
  rw [← hL] at hcap hbp hc hlen ⊢
  have HL := Lib.hid hL; clear hL
  unfold maxLen at hmax
  go_enter Tryz.func137, Tryz.ntmps137
  go_wp2
  go_loopg [1] L (fun n v wr => ∃ (k : Nat) (bq : Option Addr), k ≤ L ∧ n = L - k ∧ v = .slice bq (L - k) (cap - k) ∧ (k < L → bq = some ⟨b, o + k, none⟩) ∧ WrW w g m bs k wr)
  case atStart => exact ⟨0, bp, Nat.zero_le _, rfl, rfl, hbp, by simpa using hH, grownBy_refl _ _⟩
  case round =>
    clear hH hbp
    obtain ⟨k, bq, hk, rfl, rfl, hbq, hS⟩ := hrel
    by_cases hlt : k < L
    · have hlt' : 0 < ((L - k : Nat) : Int) := by omega
      obtain rfl := hbq hlt
      obtain ⟨⟨wt, hwt, hwt2, hg⟩, hgr⟩ := hS
      have hN : (m ++ bs.take k).length = m.length + k := by rw [List.length_append, List.length_take, ← HL.out]; omega
      rw [hN] at hwt2 hg
      obtain ⟨N, hNN⟩ : ∃ N, N = m.length + k := ⟨_, rfl⟩
      rw [← hNN] at hwt2 hg
      obtain ⟨R, hR⟩ : ∃ R, R = N % 64 := ⟨_, rfl⟩
      have hR1 : R < 64 := by omega
      have hR2 : (N : Int) % 64 = (R : Int) := by omega
      have hR6 : (N : Int).tmod 64 = (R : Int) := by rw [Int.tmod_eq_emod_of_nonneg (by omega)]; exact hR2
      obtain ⟨n, hn⟩ : ∃ n, n = Nat.min (L - k) (64 - R) := ⟨_, rfl⟩
      have hn1 : 1 ≤ n ∧ n ≤ L - k ∧ n ≤ 64 - R := by rw [hn]; exact ⟨Nat.le_min.2 ⟨by omega, by omega⟩, Nat.min_le_left _ _, Nat.min_le_right _ _⟩
      have hNb : N + n < 1152921504606846976 := by omega
      have HN := Lib.hid hNN; clear hNN
      have HR := Lib.hid hR; clear hR
      have Hn := Lib.hid hn; clear hn
      have Hg := Lib.hid hg; clear hg
      have Hw := Lib.hid hwt2; clear hwt2
      have Hl := Lib.hid hwt; clear hwt
      have Hc := Lib.hid hc; clear hc
      clear hN
      have c72 : wr.cell? ⟨g, 72, none⟩ = some (.int .u64 (N : Int)) := by
        rw [cell_of_row wr g 72 _ _ _ Hg.out]
        simp [hCells, S8.list, Hl.out]
      have hR3 : ¬ (64 : Nat) = R := by omega
      have hR4 : (0 : Int) ≤ (R : Int) := by omega
      have hR5 : (R : Int) ≤ 64 := by omega
      obtain ⟨piece, hpc⟩ : ∃ piece, piece = (bs.drop k).take n := ⟨_, rfl⟩
      have hpl : piece.length = n := by rw [hpc, List.length_take, List.length_drop, ← HL.out]; omega
      have hsrc : ∀ j v, (piece.map cu8)[j]? = some v → wr.drew.cell? ((⟨b, o + k, none⟩ : Addr).add j) = some v := fun j v hv => by
        have hadd : (⟨b, o + k, none⟩ : Addr).add j = ⟨b, o + (k + j), none⟩ := by unfold Addr.add; split <;> simp_all; omega
        have hj : j < n := by
          rcases Nat.lt_or_ge j n with h7 | h7
          · exact h7
          · rw [List.getElem?_eq_none (by simpa [hpl] using h7)] at hv; cases hv
        have hcj := Hc.out (k + j) (by omega)
        have hbl := World.block_lt_of_cell? w _ hcj
        rw [hadd]
        show wr.cell? _ = _
        rw [hgr.cell_far _ hbl (by simpa using hne), hcj, ← hv, List.getElem?_map, hpc, List.getElem?_take, if_pos hj, List.getElem?_drop]
        have hkj : k + j < bs.length := by rw [← HL.out]; omega
        simp [at8, List.getD_eq_getElem?_getD, List.getElem?_eq_getElem hkj]
      have HP := Lib.hid hpc; clear hpc
      have Hpl := Lib.hid hpl
      have HS := Lib.hid hsrc; clear hsrc
      have Hgr := Lib.hid hgr; clear hgr
      obtain ⟨cs, hcs⟩ : ∃ cs, cs = piece.map cu8 := ⟨_, rfl⟩
      have hcl : cs.length = n := by rw [hcs, List.length_map, hpl]
      rw [← hcs] at HS
      have h1 : ∀ v ∈ cs, v.oneCell' = true := fun v hv => by rw [hcs] at hv; obtain ⟨x, _, rfl⟩ := List.mem_map.1 hv; rfl
      have H1 := Lib.hid h1; clear h1
      have Hcs := Lib.hid hcs; clear hcs
      have Hcl := Lib.hid hcl
      clear hpl
      have HF : Hid (8 + R + cs.length ≤ (hCells (stateOf (m ++ List.take k bs) (N / 64)) wt N).length) := by rw [hCells_length _ _ _ Hl.out]; show 8 + R + cs.length ≤ 73; omega
      go_wp2_with fail
      go_region_law (refine step_copy_into rfl (.tmp 18) (.tmp 19) 169 169 rfl 5 Tryz.underlying169 (by kernel_rfl) g (8 + R) (64 - R) (64 - R) ⟨b, o + k, none⟩ (L - k) (cap - k) rfl rfl (hCells (stateOf (m ++ List.take k bs) (N / 64)) wt N) 230 Hg.out cs (Hcl.out.trans Hn.out) HS.out HF.out H1.out ?_; intro w3 hg3 hgr3)
      obtain ⟨f1, f2⟩ := splice_fill (m ++ List.take k bs) wt piece N R n (by rw [List.length_append, List.length_take, ← HL.out, HN.out]; omega) HR.out Hl.out (by rw [HR.out]; exact Hw.out) Hpl.out (by omega)
      have hg4 : w3.heap[g]? = some (.cells (hCells (stateOf (m ++ List.take k bs) (N / 64)) (splice wt R piece) N).toArray 230 (0, 0)) := by
        rw [hg3.out, Hcs.out, splice_hCells _ _ _ _ _ Hl.out (by rw [Hpl.out]; omega)]
      clear hg3 c72 HF HS H1
      generalize splice wt R piece = wt' at f1 f2 hg4
      have c72 : w3.cell? ⟨g, 72, none⟩ = some (.int .u64 (N : Int)) := by
        rw [cell_of_row w3 g 72 _ _ _ hg4]
        simp [hCells, S8.list, f1]
      have f72 : w3.frozen? ⟨g, 72, none⟩ = false := frozen_of_row w3 g 72 _ _ hg4
      have Hg4 := Lib.hid hg4; clear hg4
      have F1 := Lib.hid f1; clear f1
      have F2 := Lib.hid f2; clear f2
      obtain ⟨bq2, hbq2, hsl⟩ := run_slice_from (P := Tryz.prog) 169 5 Tryz.underlying169 (by kernel_rfl) b (o + k) (L - k) (cap - k) n (by omega) (by omega)
      have Hbq2 := Lib.hid hbq2; clear hbq2
      by_cases hfull : R + n = 64
      · have hz : ((N : Int) + (n : Int)) % 64 = 0 := by have := HR.out; omega
        go_wp2_with fail
        have hcast : ((N : Int) + (n : Int)) = ((N + n : Nat) : Int) := by omega
        rw [hcast]
        have hg5 := hash_count (M := N + n) Hg4.out F1.out
        have hgr5 : w.grownBy (w3.setCell ⟨g, 72, none⟩ (.int .u64 ((N + n : Nat) : Int))) (some g) :=
          grownBy_trans (grownBy_trans Hgr.out (grownBy_trans (⟨rfl, rfl, rfl, Nat.le_refl _, fun _ _ _ => rfl⟩ : wr.grownBy wr.drew (some g)) hgr3.out)) ⟨rfl, rfl, rfl, by simp [World.setCell], fun j _ hj => heap_setCell_other _ _ _ _ (fun e => hj (by rw [e]))⟩
        generalize w3.setCell ⟨g, 72, none⟩ (.int .u64 ((N + n : Nat) : Int)) = w4 at hg5 hgr5 ⊢
        clear hz hcast hsl hgr3 c72 f72 Hg4 Hgr Hcs Hcl hR2 hR3 hR4 hR5 hR6
        have Hgr5 := Lib.hid hgr5; clear hgr5
        generalize hST : stateOf (m ++ List.take k bs) (N / 64) = T at hg5
        have HST := Lib.hid hST; clear hST
        obtain ⟨a0, a1, a2, a3, a4, a5, a6, a7⟩ := T
        have d0 : w4.cell? ⟨g, 0, none⟩ = some (.int .u32 (uz a0)) := hash_cell hg5 0 (by omega)
        have d1 : w4.cell? ⟨g, 1, none⟩ = some (.int .u32 (uz a1)) := hash_cell hg5 1 (by omega)
        have d2 : w4.cell? ⟨g, 2, none⟩ = some (.int .u32 (uz a2)) := hash_cell hg5 2 (by omega)
        have d3 : w4.cell? ⟨g, 3, none⟩ = some (.int .u32 (uz a3)) := hash_cell hg5 3 (by omega)
        have d4 : w4.cell? ⟨g, 4, none⟩ = some (.int .u32 (uz a4)) := hash_cell hg5 4 (by omega)
        have d5 : w4.cell? ⟨g, 5, none⟩ = some (.int .u32 (uz a5)) := hash_cell hg5 5 (by omega)
        have d6 : w4.cell? ⟨g, 6, none⟩ = some (.int .u32 (uz a6)) := hash_cell hg5 6 (by omega)
        have d7 : w4.cell? ⟨g, 7, none⟩ = some (.int .u32 (uz a7)) := hash_cell hg5 7 (by omega)
        have hra : w4.rangeAt g 8 (wt'.map cu8) := hash_wait hg5 F1.out
        have hgl : g < w4.heap.size := (Array.getElem?_eq_some_iff.1 hg5).1
        have Hg5 := Lib.hid hg5; clear hg5
        have hsz : (Tryz.prog.info? 33).map (·.size) = some (wt'.map cu8).length := by rw [List.length_map, F1.out]; kernel_rfl
        have hu42 := Tryz.underlying33
        have hr1 : (Instr.loadAt 227 (.pointer (some ⟨g, 0, none⟩))).run Tryz.prog w4.drew = .ok (.agg (s32 ⟨a0, a1, a2, a3, a4, a5, a6, a7⟩)) w4.drew :=
          run_loadAt_mid w4.drew g 0 227 ((⟨a0, a1, a2, a3, a4, a5, a6, a7⟩ : S8).list.map cu32) _ (hash_head Hg5.out) Tryz.underlying227 rfl (by kernel_rfl)
        have hr2 : (Instr.loadAt 33 (.pointer (some ⟨g, 8, none⟩))).run Tryz.prog w4.drew = .ok (.agg (wt'.map cu8).toArray) w4.drew :=
          run_loadAt_mid w4.drew g 8 33 (wt'.map cu8) _ hra Tryz.underlying33 rfl hsz
        have Hr1 := Lib.hid hr1; clear hr1
        have Hr2 := Lib.hid hr2; clear hr2
        clear d0 d1 d2 d3 d4 d5 d6 d7 hra hsz hu42
        refine wp_region_any (by kernel_rfl) ?_
        change wpAny _ _ _ _ _ _ _ (World.drew _)
        refine wpAny_take (i := 0) (v := .pointer (some ⟨g, 0, none⟩)) rfl (by kernel_rfl) (by kernel_rfl) (by kernel_rfl) (fun _ _ _ h => h) (Or.inl ⟨by rfl, ?_⟩) ?_
        · intro w; go_simp
        simp only [List.getElem_toArray, List.getElem_cons_zero, Act.put, List.setIfInBounds_toArray, List.set]
        refine wpAny_take (i := 1) (v := .pointer (some ⟨g, 0, none⟩)) rfl (by kernel_rfl) (by kernel_rfl) (by kernel_rfl) (fun _ _ _ h => h) (Or.inl ⟨by rfl, ?_⟩) ?_
        · intro w; go_simp
        simp only [List.getElem_toArray, List.getElem_cons_succ, List.getElem_cons_zero, Act.put, List.setIfInBounds_toArray, List.set]
        refine wpAny_take (i := 2) (v := .pointer (some ⟨g, 0, none⟩)) rfl (by kernel_rfl) (by kernel_rfl) (by kernel_rfl) (fun _ _ _ h => h) (Or.inl ⟨by rfl, ?_⟩) ?_
        · intro w; go_simp
        simp only [List.getElem_toArray, List.getElem_cons_succ, List.getElem_cons_zero, Act.put, List.setIfInBounds_toArray, List.set]
        refine wpAny_take (i := 3) (v := .pointer (some ⟨g, 0, none⟩)) rfl (by kernel_rfl) (by kernel_rfl) (by kernel_rfl) (fun _ _ _ h => h) (Or.inl ⟨by rfl, ?_⟩) ?_
        · intro w; go_simp
        simp only [List.getElem_toArray, List.getElem_cons_succ, List.getElem_cons_zero, Act.put, List.setIfInBounds_toArray, List.set]
        refine wpAny_take (i := 5) (v := .pointer (some ⟨g, 0, none⟩)) rfl (by kernel_rfl) (by kernel_rfl) (by kernel_rfl) (fun _ _ _ h => h) (Or.inl ⟨by rfl, ?_⟩) ?_
        · intro w; go_simp
        simp only [List.getElem_toArray, List.getElem_cons_succ, List.getElem_cons_zero, Act.put, List.setIfInBounds_toArray, List.set]
        refine wpAny_take (i := 6) (v := .pointer (some ⟨g, 0, none⟩)) rfl (by kernel_rfl) (by kernel_rfl) (by kernel_rfl) (fun _ _ _ h => h) (Or.inl ⟨by rfl, ?_⟩) ?_
        · intro w; go_simp
        simp only [List.getElem_toArray, List.getElem_cons_succ, List.getElem_cons_zero, Act.put, List.setIfInBounds_toArray, List.set]
        refine wpAny_take (i := 7) (v := .pointer (some ⟨g, 8, none⟩)) rfl (by kernel_rfl) (by kernel_rfl) (by kernel_rfl) (fun _ _ _ h => h) (Or.inl ⟨by rfl, ?_⟩) ?_
        · intro w; go_simp
        simp only [List.getElem_toArray, List.getElem_cons_succ, List.getElem_cons_zero, Act.put, List.setIfInBounds_toArray, List.set]
        refine wpAny_two 4 8 _ _ (.agg (s32 ⟨a0, a1, a2, a3, a4, a5, a6, a7⟩)) (.agg (wt'.map cu8).toArray) rfl rfl rfl rfl (by kernel_rfl) (by kernel_rfl) (by kernel_rfl) (by decide) ?_ ?_ ?_ ?_ (by kernel_rfl) ?_
        · exact exec_load _ _ 227 _ rfl g 0 rfl _ Hr1.out
        · exact exec_load _ _ 33 _ rfl g 8 rfl _ Hr2.out
        · exact exec_load _ _ 227 _ rfl g 0 rfl _ Hr1.out
        · exact exec_load _ _ 33 _ rfl g 8 rfl _ Hr2.out
        simp only [List.getElem_toArray, List.getElem_cons_succ, List.getElem_cons_zero, Act.put, List.setIfInBounds_toArray, List.set]
        refine wpAny_ready (rs := [9]) (by kernel_rfl) (by simp) (AllReady.cons rfl (fun K hK => ?_) AllReady.nil)
        go_simp
        refine (stir_agg ⟨a0, a1, a2, a3, a4, a5, a6, a7⟩ wt' F1.out _ _ rfl rfl _).mono ?_
        rintro e w5 ⟨rv, Hrv, rfl, hb5⟩
        refine hK _ _ ?_
        clear hK K
        try simp only [List.getElem_toArray, List.getElem_cons_succ, List.getElem_cons_zero, Act.put, List.setIfInBounds_toArray, List.set]
        refine wpAny_take (i := 10) (v := .pointer (some ⟨g, 0, none⟩)) rfl (by kernel_rfl) (by kernel_rfl) (by kernel_rfl) (fun _ _ _ h => h) (Or.inl ⟨by rfl, ?_⟩) ?_
        · intro w; go_simp
        simp only [List.getElem_toArray, List.getElem_cons_succ, List.getElem_cons_zero, Act.put, List.setIfInBounds_toArray, List.set]
        refine wpAny_take (i := 11) (v := .pointer (some ⟨g, 0, none⟩)) rfl (by kernel_rfl) (by kernel_rfl) (by kernel_rfl) (fun _ _ _ h => h) (Or.inl ⟨by rfl, ?_⟩) ?_
        · intro w; go_simp
        simp only [List.getElem_toArray, List.getElem_cons_succ, List.getElem_cons_zero, Act.put, List.setIfInBounds_toArray, List.set]
        refine wpAny_ready (rs := [12]) (by kernel_rfl) (by simp) (AllReady.cons rfl (fun K hK => ?_) AllReady.nil)
        refine step_store_into rfl 227 _ _ rfl g 0 rv rfl rfl (hCells ⟨a0, a1, a2, a3, a4, a5, a6, a7⟩ wt' (N + n)) 230 ((hb5.block g hgl).trans Hg5.out) (by rw [Hrv.out]; kernel_rfl) (by rw [hCells_length _ _ _ F1.out, Hrv.out]; exact (by decide : 0 + 8 ≤ 73)) (by rw [Hrv.out]; exact fun v hv => by obtain ⟨x, _, rfl⟩ := List.mem_map.1 hv; rfl) ?_
        intro w6 hg6 hgr6
        refine hK _ _ ?_
        clear hK K
        refine wpAny_done (by kernel_rfl) ?_ _
        go_wp2
        go_roundg (L - (k + n))
        case measure => omega
        case rel =>
          refine ⟨k + n, bq2, by omega, rfl, by rw [Nat.sub_sub, Nat.sub_sub], fun h => by rw [← Nat.add_assoc]; exact Hbq2.out (by omega), ?_⟩
          have hgg : w4.drew.grownBy w5 (some g) := ⟨hb5.os, hb5.tape, hb5.output, hb5.size, fun j hj _ => hb5.block j hj⟩
          refine WrW.full (grownBy_trans Hgr5.out (grownBy_trans (⟨rfl, rfl, rfl, Nat.le_refl _, fun _ _ _ => rfl⟩ : w4.grownBy w4.drew (some g)) (grownBy_trans hgg hgr6.out)))
            HP.out Hpl.out (by rw [HN.out, List.length_append, List.length_take, ← HL.out]; omega) HR.out F1.out F2.out hfull ?_
          rw [HST.out, hg6.out, Hrv.out, hash_state]
      · have hz : (((N : Int) + (n : Int)) % 64 == 0) = false := by
          have := HR.out
          rw [beq_eq_false_iff_ne]; omega
        go_wp2_with fail
        go_roundg (L - (k + n))
        case measure => omega
        case rel =>
          have hcast : ((N : Int) + (n : Int)) = ((N + n : Nat) : Int) := by omega
          rw [hcast]
          refine ⟨k + n, bq2, by omega, rfl, by rw [Nat.sub_sub, Nat.sub_sub], fun h => by rw [← Nat.add_assoc]; exact Hbq2.out (by omega), ?_⟩
          refine WrW.part (grownBy_trans (grownBy_trans Hgr.out (grownBy_trans (⟨rfl, rfl, rfl, Nat.le_refl _, fun _ _ _ => rfl⟩ : wr.grownBy wr.drew (some g)) hgr3.out)) ⟨rfl, rfl, rfl, by simp [World.setCell], fun j _ hj => heap_setCell_other _ _ _ _ (fun e => hj (by rw [e]))⟩)
            HP.out Hpl.out (by rw [HN.out, List.length_append, List.length_take, ← HL.out]; omega) HR.out F1.out F2.out (by omega) (hash_count Hg4.out F1.out)
    · obtain rfl : k = L := by omega
      go_wp2
      go_end0
      refine ⟨rfl, ?_, hS.grown⟩
      have := hS.hash
      rw [HL.out, List.take_length] at this
      exact this
end Go.Proofs.YtjkkbceddbkejaaGreatDoor

/-
  The digest of all that was written: the walks of the two functions 'Sum', and of a nil hash.
-/
namespace Go.Proofs.YtjkkbceddbkejaaGreatDoor
open Go.RowKit Sh

theorem grownBy_of_below {a b : World} {r : Option Nat} (h : Below a.heap.size a b) : a.grownBy b r := ⟨h.os, h.tape, h.output, h.size, fun j hj _ => h.block j hj⟩
theorem HashAt.of_block {w w' : World} {g g' : Nat} {m : List UInt8} (h : HashAt w g m) (e : w'.heap[g']? = w.heap[g]?) : HashAt w' g' m := by
  obtain ⟨wt, h1, h2, h3⟩ := h
  exact ⟨wt, h1, h2, e.trans h3⟩

/-- Below B, but for writes to one block from B on. -/
theorem below_of_grown {B g : Nat} {w a b : World} (h : Below B w a) (hg : a.grownBy b (some g)) (hB : B ≤ a.heap.size) (hBg : B ≤ g) : Below B w b :=
  h.trans ⟨hg.os, hg.tape, hg.output, hg.size, fun k hk => hg.block k (by omega) (by simp; omega)⟩

theorem pad_full (n : Nat) : (n + (pad0 n + 9)) % 64 = 0 := by unfold pad0; omega

set_option maxRecDepth 100000 in
set_option maxHeartbeats 400000 in
theorem write_nil (bp : Option Addr) (len cap : Nat) (w : World) :
    Calls Tryz.prog 137 #[.pointer none, .slice bp len cap] w fun e w' => e = .returned (.tuple #[]) ∧ w = w' := by
  go_enter Tryz.func137, Tryz.ntmps137
  go_wp2
  first | go_end0 | refine bodyPost_ret (results_none rfl _ _ _) rfl ?_
  exact ⟨rfl, rfl⟩

set_option maxRecDepth 100000 in
set_option maxHeartbeats 400000 in
theorem sum_nil (w : World) :
    Calls Tryz.prog 138 #[.pointer none] w (AggPost (fun r => r = ((List.replicate 32 (0 : UInt8)).map cu8).toArray) w) := by
  obtain ⟨zv, Hz⟩ : ∃ zv : Array Value, Hid (zv = ((List.replicate 32 (0 : UInt8)).map cu8).toArray) := ⟨_, rfl⟩
  go_enter Tryz.func138, Tryz.ntmps138
  go_wp2_with (first | (refine wpList_build_to rfl 56 _ rfl zv (by rw [Hz.out]; kernel_rfl) ?_) | (refine wpList_store_new rfl 56 _ _ rfl w.heap.size rfl zv rfl rfl 56 _ (by rw [Hz.out]; kernel_rfl) (by rw [Hz.out]; kernel_rfl) (by rw [Hz.out]; kernel_rfl) ?_))
  refine bodyPost_ret (v := .agg zv) ?_ rfl ⟨zv, Hz.out, rfl, (Below.refl _ _).alloc (Nat.le_refl _) _⟩
  exact results_cell_row (ty := 56) rfl _ _ w.heap.size 56 _ (0, 0) _ rfl (heap_alloc_new _ _) Tryz.underlying56 rfl (by rw [Hz.out]; kernel_rfl)

set_option maxRecDepth 100000 in
set_option maxHeartbeats 800000 in
theorem sum_any (g : Nat) (m : List UInt8) (w : World) (hH : HashAt w g m) (hlen : m.length < 576460752303423488) :
    Calls Tryz.prog 138 #[.pointer (some ⟨g, 0, none⟩)] w (AggPost (fun r => r = ((dig m).map cu8).toArray) w) := by
  obtain ⟨wt, hwt, hwt2, hg⟩ := hH
  obtain ⟨hv, hhv⟩ : ∃ hv : Array Value, hv = (hCells (stateOf m (m.length / 64)) wt m.length).toArray := ⟨_, rfl⟩
  have hn : hv.size = 73 := by rw [hhv, List.size_toArray, hCells_length _ _ _ hwt]
  have h1 : hv.all (·.oneCell') = true := by
    rw [hhv]
    refine all_oneCell_toArray (fun v hv => ?_)
    simp only [hCells, List.mem_append, List.mem_map, List.mem_singleton] at hv
    rcases hv with ⟨x, _, rfl⟩ | ⟨x, _, rfl⟩ | rfl <;> rfl
  rw [← hhv] at hg
  have c72 : w.cell? ⟨g, 72, none⟩ = some (.int .u64 (m.length : Int)) := by
    rw [cell_of_row w g 72 _ _ _ hg, hhv]
    simp [hCells, S8.list, hwt]
  have hgl : g < w.heap.size := (Array.getElem?_eq_some_iff.1 hg).1
  have Hg := Lib.hid hg; clear hg
  have Hv := Lib.hid hhv; clear hhv
  have Hn := Lib.hid hn; clear hn
  have H1 := Lib.hid h1; clear h1
  have Hw := Lib.hid hwt; clear hwt
  have Hw2 := Lib.hid hwt2; clear hwt2
  obtain ⟨zv, Hzv⟩ : ∃ zv : Array Value, Hid (zv = (hCells ⟨0, 0, 0, 0, 0, 0, 0, 0⟩ (List.replicate 64 0) 0).toArray) := ⟨_, rfl⟩
  have hz : ∀ w : World, (zeroValue 230).run Tryz.prog w = .ok (.agg zv) w := (zero_of_info (n := 73) (by rw [Hzv.out]; kernel_rfl)).1
  go_enter Tryz.func138, Tryz.ntmps138
  go_wp2_with (first
    | (refine wpList_load_row rfl 230 _ rfl g rfl 230 hv (0, 0) _ ?h1 Tryz.underlying230 rfl ?h2 ?_)
    | (refine wpList_store_new rfl 230 _ _ rfl (w.heap.size + 1) (World.size_alloc _ _) hv rfl rfl 230 _ ?h3 ?h4 ?h5 ?_)
    | (go_at_call 155; refine (ending_any m.length (by omega) _).mono ?_; rintro e w1 ⟨ge, rfl, hge, hre, hb1⟩))
  case h1 => rw [Below.heap_alloc _ _ _ hgl]; exact Hg.out
  case h2 => rw [Hn.out]; kernel_rfl
  case h3 => rw [Hn.out]; kernel_rfl
  case h4 => rw [Hn.out, Hzv.out]; kernel_rfl
  case h5 => exact H1.out
  have hW : ∀ c : Array Value, c.size = 32 → HashAt ((w.alloc (.cells c 56)).alloc (.cells hv 230)) (w.heap.size + 1) m ∧ ((w.alloc (.cells c 56)).alloc (.cells hv 230)).heap[w.heap.size]? = some (.cells c 56 (0, 0)) ∧ Below w.heap.size w ((w.alloc (.cells c 56)).alloc (.cells hv 230)) := fun c _ => by
    refine ⟨⟨wt, Hw.out, Hw2.out, ?_⟩, ?_, ((Below.refl _ _).alloc (Nat.le_refl _) _).alloc (by simp) _⟩
    · rw [← Hv.out]
      have := heap_alloc_new (w.alloc (.cells c 56)) (.cells hv 230)
      simpa using this
    · rw [Below.heap_alloc _ _ _ (by simp)]; exact heap_alloc_new _ _
  obtain ⟨c, hc, hH1, hr1, hB1, hs1⟩ : ∃ c : Array Value, c.size = 32 ∧ HashAt w1 (w.heap.size + 1) m ∧ w1.heap[w.heap.size]? = some (.cells c 56 (0, 0)) ∧ Below w.heap.size w w1 ∧ w.heap.size + 2 ≤ ge := by
    refine ⟨_, ?_, (hW _ ?_).1.of_block (hb1.block _ (by simp)), (hb1.block _ (by simp; omega)).trans (hW _ ?_).2.1, (hW _ ?_).2.2.trans (hb1.mono (by simp; omega)), by simpa using hge⟩
    all_goals rfl
  have hgt : ge < w1.heap.size := hre.lt
  clear hW hb1 c72 hz
  have hcells : ∀ j, j < (ending m.length).length → w1.cell? ⟨ge, 0 + j, none⟩ = some (cu8 (at8 (ending m.length) j)) := fun j hj => by rw [Nat.zero_add]; exact hre.cell hj
  have hpl : (ending m.length).length ≤ 72 := by rw [ending_length]; unfold pad0; omega
  refine (write_any (w.heap.size + 1) m (ending m.length) _ ge 0 _ w1 hH1 (by omega) (Nat.le_refl _) (by unfold maxLen; omega) (fun _ => rfl) hcells (by omega)).mono ?_
  rintro e w2 ⟨rfl, hH2, hgr2⟩
  obtain ⟨wt2, hw2a, _, hw2b⟩ := hH2
  have hlen2 : (m ++ ending m.length).length = m.length + (ending m.length).length := List.length_append
  have hrow := hash_head hw2b
  have Hrow := Lib.hid hrow; clear hrow
  have hr2 : w2.heap[w.heap.size]? = some (.cells c 56 (0, 0)) := (hgr2.block _ (by have := hB1.size; omega) (by simp)).trans hr1
  have Hr2 := Lib.hid hr2; clear hr2
  have Hc := Lib.hid hc; clear hc
  have hB2 : Below w.heap.size w w2 := below_of_grown hB1 hgr2 hB1.size (by omega)
  have hl2 : w.heap.size < w2.heap.size := by have := hB1.size; have := hgr2.size; omega
  clear hw2b hgr2 hr1 hH1 hre hcells
  have hdig : digS (stateOf (m ++ ending m.length) ((m ++ ending m.length).length / 64)) = dig m := by rw [hlen2]; rfl
  clear hlen2
  generalize stateOf (m ++ ending m.length) ((m ++ ending m.length).length / 64) = T at Hrow hdig
  have Hd := Lib.hid hdig; clear hdig
  obtain ⟨tv, Htv⟩ : ∃ tv : List Value, Hid (tv = T.list.map cu32) := ⟨_, rfl⟩
  rw [← Htv.out] at Hrow
  have Hta : Hid (tv.toArray = s32 T) := by rw [Htv.out]; exact (rfl : (T.list.map cu32).toArray = s32 T)
  have Htl : Hid (tv.length = 8) := by rw [Htv.out]; exact (rfl : (T.list.map cu32).length = 8)
  go_wp2_with (first
    | (go_at_call 156; refine (digest_any T _ Hta _).mono ?_; rintro e w3 ⟨rv, Hrv, rfl, hb3⟩)
    | (refine wpList_load_mid rfl 227 _ rfl (w.heap.size + 1) 0 rfl tv _ Hrow.out Tryz.underlying227 rfl (by rw [Htl.out]; kernel_rfl) ?_)
    | (refine wpList_store_row rfl 56 _ _ rfl w.heap.size rv rfl rfl 56 c ((hb3.block _ hl2).trans Hr2.out) (by rw [Hrv.out]; kernel_rfl) (by rw [Hrv.out, Hc.out]; rfl) (by rw [Hrv.out]; exact all_oneCell_toArray (fun v hv => by obtain ⟨x, _, rfl⟩ := List.mem_map.1 hv; rfl)) ?_))
  refine bodyPost_ret (v := .agg rv) ?_ rfl ⟨rv, Lib.hid (by show rv = _; rw [Hrv.out, Hd.out]), rfl, below_setRow (hB2.trans (hb3.mono (by have := hB1.size; omega))) (Nat.le_refl _) _⟩
  exact results_cell_row (ty := 56) rfl _ _ w.heap.size 56 _ (0, 0) _ rfl (setRow_heap _ _ _ _ _ _ ((hb3.block _ hl2).trans Hr2.out)) Tryz.underlying56 rfl (by rw [Hrv.out]; kernel_rfl)
end Go.Proofs.YtjkkbceddbkejaaGreatDoor

/-
  The digest of bytes at once: the walk of the function 'Sum' of package sha.
-/
namespace Go.Proofs.YtjkkbceddbkejaaGreatDoor
open Go.RowKit Sh

theorem HashAt.lt {w : World} {g : Nat} {m : List UInt8} (h : HashAt w g m) : g < w.heap.size := by
  obtain ⟨wt, _, _, h3⟩ := h
  exact (Array.getElem?_eq_some_iff.1 h3).1

theorem dig_length (m : List UInt8) : (dig m).length = 32 := rfl
theorem dig_size {rv : Array Value} {m : List UInt8} (h : Hid (rv = ((dig m).map cu8).toArray)) : Hid (rv.size = 32) := by
  rw [h.out, List.size_toArray, List.length_map, dig_length]; exact (rfl : 32 = 32)
theorem dig_one {rv : Array Value} {m : List UInt8} (h : Hid (rv = ((dig m).map cu8).toArray)) : Hid (rv.all (·.oneCell') = true) := by
  have : ((dig m).map cu8).toArray.all (·.oneCell') = true := all_oneCell_toArray (fun v hv => by obtain ⟨x, _, rfl⟩ := List.mem_map.1 hv; rfl)
  rw [h.out]; exact this

/-- 'Write' of whatever bytes lie below the hash. -/
theorem write_bytes (g : Nat) (m bs : List UInt8) (bp : Option Addr) (len cap N : Nat) (w : World) (hH : HashAt w g m) (hB : Bytes N w bp len cap bs) (hN : N ≤ g) (hlen : m.length + len < 1152921504606846976) :
    Calls Tryz.prog 137 #[.pointer (some ⟨g, 0, none⟩), .slice bp len cap] w (WritePost g (m ++ bs) w) := by
  obtain ⟨hl, hr, hm, h⟩ := hB
  subst hl
  rcases h with h0 | ⟨b, o, rfl, hb, hc⟩
  · exact write_any g m bs bp (g + 1) 0 cap w hH (by omega) hr hm (fun h => by omega) (fun j hj => by omega) hlen
  · exact write_any g m bs _ b o cap w hH (by omega) hr hm (fun _ => rfl) hc hlen

set_option maxRecDepth 100000 in
set_option maxHeartbeats 400000 in
theorem whole_any (bp : Option Addr) (len cap : Nat) (bs : List UInt8) (w : World) (hB : Bytes w.heap.size w bp len cap bs) (hlen : len < 576460752303423488) :
    Calls Tryz.prog 131 #[.slice bp len cap] w (AggPost (fun r => r = ((dig bs).map cu8).toArray) w) := by
  go_enter Tryz.func131, Tryz.ntmps131
  go_wp2_with (go_at_call 136; refine (new_any _).mono ?_; rintro e w1 ⟨g, rfl, hg, hH, hb1⟩)
  have hB1 : Below w.heap.size w w1 := ((Below.refl _ _).alloc (Nat.le_refl _) _).trans (hb1.mono (by simp))
  obtain ⟨c, hc, hr1⟩ : ∃ c : Array Value, c.size = 32 ∧ w1.heap[w.heap.size]? = some (.cells c 56 (0, 0)) := ⟨_, rfl, (hb1.block _ (by simp)).trans (heap_alloc_new _ _)⟩
  have hgt : w.heap.size < g := by have : w.heap.size + 1 ≤ g := by simpa using hg
                                   omega
  clear hb1 hg
  go_wp2_with (go_at_call 137; refine (write_bytes g [] bs bp len cap w.heap.size _ hH (hB.below hB1) (by omega) (by simp; omega)).mono ?_; rintro e w2 ⟨rfl, hH2, hgr⟩)
  rw [List.nil_append] at hH2
  have hB2 : Below w.heap.size w w2 := below_of_grown hB1 hgr hB1.size (by omega)
  have hr2 : w2.heap[w.heap.size]? = some (.cells c 56 (0, 0)) := (hgr.block _ (by have := hH.lt; omega) (by simp; omega)).trans hr1
  have hl2 : w.heap.size < w2.heap.size := by have := hgr.size; have := hH.lt; omega
  have Hc := Lib.hid hc; clear hc
  have Hr2 := Lib.hid hr2; clear hr2
  clear hr1 hgr hH hB1
  go_wp2_with (first
    | (go_at_call 138; refine (sum_any g bs w2 hH2 (by rw [hB.hlen]; omega)).mono ?_; rintro e w3 ⟨rv, Hrv, rfl, hb3⟩)
    | (refine wpList_store_row rfl 56 _ _ rfl w.heap.size rv rfl rfl 56 c ((hb3.block _ hl2).trans Hr2.out) (by rw [(dig_size Hrv).out]; kernel_rfl) (by rw [(dig_size Hrv).out, Hc.out]) (dig_one Hrv).out ?_))
  refine bodyPost_ret (v := .agg rv) ?_ rfl ⟨rv, Hrv, rfl, below_setRow (hB2.trans (hb3.mono (by omega))) (Nat.le_refl _) _⟩
  exact results_cell_row (ty := 56) rfl _ _ w.heap.size 56 _ (0, 0) _ rfl (setRow_heap _ _ _ _ _ _ ((hb3.block _ hl2).trans Hr2.out)) Tryz.underlying56 rfl (by rw [(dig_size Hrv).out]; kernel_rfl)
end Go.Proofs.YtjkkbceddbkejaaGreatDoor
