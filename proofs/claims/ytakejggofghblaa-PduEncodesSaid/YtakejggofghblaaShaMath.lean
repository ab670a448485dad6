/-
  The digest of 256 bits as plain functions on numbers of 32 bits, and the laws by which the walk's integer terms fold into them. No program is named here.
-/
import Derived.WalkKit
import Derived.Laws.BitsAllLaws
import Derived.Laws.DeepBits32
namespace Go.Proofs.Ytakejggofghblaa.Sh

/-- A number of 32 bits as the walk's integer. -/
def uz (x : UInt32) : Int := (x.toNat : Int)
/-- A byte as the walk's integer. -/
def bz (x : UInt8) : Int := (x.toNat : Int)

theorem uz_eq (x : UInt32) : uz x = (x.toNat : Int) := rfl
theorem bz_eq (x : UInt8) : bz x = (x.toNat : Int) := rfl
theorem uz_nonneg (x : UInt32) : 0 ≤ uz x := by rw [uz_eq]; omega
theorem uz_lt (x : UInt32) : uz x < 4294967296 := by rw [uz_eq]; have := x.toNat_lt; omega
theorem bz_nonneg (x : UInt8) : 0 ≤ bz x := by rw [bz_eq]; omega
theorem bz_lt (x : UInt8) : bz x < 256 := by rw [bz_eq]; have := x.toNat_lt; omega
theorem uz_inj {a b : UInt32} (h : uz a = uz b) : a = b := by
  rw [uz_eq, uz_eq] at h; exact UInt32.toNat_inj.1 (by omega)
theorem bz_inj {a b : UInt8} (h : bz a = bz b) : a = b := by
  rw [bz_eq, bz_eq] at h; exact UInt8.toNat_inj.1 (by omega)

def rot (x : UInt32) (n : Nat) : UInt32 := (x >>> UInt32.ofNat n) ||| (x <<< UInt32.ofNat (32 - n))

-- 32 bits
theorem add32 (a b : UInt32) : IntKind.u32.wrap (uz a + uz b) = uz (a + b) := by
  rw [IntKind.wrap_u32, uz_eq, uz_eq, uz_eq, UInt32.toNat_add]; omega
theorem xor32 (a b : UInt32) : bits .xor .u32 (uz a) (uz b) = uz (a ^^^ b) := by
  rw [u32_xor _ _ (uz_nonneg a) (uz_lt a) (uz_nonneg b) (uz_lt b), uz_eq, uz_eq, uz_eq, UInt32.toNat_xor]; rfl
theorem and32 (a b : UInt32) : bits .and .u32 (uz a) (uz b) = uz (a &&& b) := by
  rw [u32_and _ _ (uz_nonneg a) (uz_lt a) (uz_nonneg b) (uz_lt b), uz_eq, uz_eq, uz_eq, UInt32.toNat_and]; rfl
theorem or32 (a b : UInt32) : bits .or .u32 (uz a) (uz b) = uz (a ||| b) := by
  rw [u32_or _ _ (uz_nonneg a) (uz_lt a) (uz_nonneg b) (uz_lt b), uz_eq, uz_eq, uz_eq, UInt32.toNat_or]; rfl
theorem shr_nat (x : UInt32) (n : Nat) (h : n < 32) : (x >>> UInt32.ofNat n).toNat = x.toNat / 2 ^ n := by
  rw [UInt32.toNat_shiftRight, UInt32.toNat_ofNat', Nat.shiftRight_eq_div_pow]
  have : n % 2 ^ 32 % 32 = n := by omega
  rw [this]
theorem shl_nat (x : UInt32) (n : Nat) (h : n < 32) : (x <<< UInt32.ofNat n).toNat = x.toNat * 2 ^ n % 4294967296 := by
  rw [UInt32.toNat_shiftLeft, UInt32.toNat_ofNat', Nat.shiftLeft_eq]
  have : n % 2 ^ 32 % 32 = n := by omega
  rw [this]
theorem shr32 (x : UInt32) (n : Nat) (h : n < 32) : uz x / 2 ^ n = uz (x >>> UInt32.ofNat n) := by
  rw [uz_eq, uz_eq, shr_nat x n h]; simp
theorem shl32 (x : UInt32) (n : Nat) (h : n < 32) : IntKind.u32.wrap (uz x * 2 ^ n) = uz (x <<< UInt32.ofNat n) := by
  rw [IntKind.wrap_u32, uz_eq, uz_eq, shl_nat x n h]; simp
theorem rot32 (x : UInt32) (n : Int) (h0 : 0 < n) (h1 : n < 32) :
    bits .or .u32 (uz x / 2 ^ n.toNat) (IntKind.u32.wrap (uz x * 2 ^ (32 - n).toNat)) = uz (rot x n.toNat) := by
  have e : (32 - n).toNat = 32 - n.toNat := by omega
  rw [e, shr32 x _ (by omega), shl32 x _ (by omega), or32]; rfl
theorem not32 (x : UInt32) : bits .xor .u32 4294967295 (uz x) = uz (~~~x) := by
  have e : (4294967295 : Int) = uz 4294967295 := rfl
  rw [e, xor32]
  congr 1

theorem not32' (x : UInt32) : bits .xor .u32 IntKind.u32.max (uz x) = uz (~~~x) := not32 x
-- 64 bits, of numbers of 32
theorem xor64 (a b : UInt32) : bits .xor .u64 (uz a) (uz b) = uz (a ^^^ b) := by
  have ha := uz_lt a; have hb := uz_lt b
  rw [u64_xor _ _ (uz_nonneg a) (by omega) (uz_nonneg b) (by omega), uz_eq, uz_eq, uz_eq, UInt32.toNat_xor]; rfl
theorem and64 (a b : UInt32) : bits .and .u64 (uz a) (uz b) = uz (a &&& b) := by
  have ha := uz_lt a; have hb := uz_lt b
  rw [u64_and _ _ (uz_nonneg a) (by omega) (uz_nonneg b) (by omega), uz_eq, uz_eq, uz_eq, UInt32.toNat_and]; rfl
theorem not64' (x : UInt32) : 4294967295 - uz x = uz (~~~x) := by
  rw [uz_eq, uz_eq, UInt32.toNat_not]
  have := x.toNat_lt
  simp only [UInt32.size]; omega
theorem not64 (x : UInt32) : IntKind.u64.wrap (4294967295 - uz x) = uz (~~~x) := by
  rw [not64', IntKind.wrap_u64]
  have := uz_lt (~~~x); have := uz_nonneg (~~~x); omega
theorem sum2 (a b : UInt32) : IntKind.u64.wrap (uz a + uz b) = uz a + uz b := by
  have := uz_lt a; have := uz_nonneg a; have := uz_lt b; have := uz_nonneg b
  rw [IntKind.wrap_u64]; omega
theorem sum3 (a b c : UInt32) : IntKind.u64.wrap (uz a + uz b + uz c) = uz a + uz b + uz c := by
  have := uz_lt a; have := uz_nonneg a; have := uz_lt b; have := uz_nonneg b; have := uz_lt c; have := uz_nonneg c
  rw [IntKind.wrap_u64]; omega
theorem sum4 (a b c d : UInt32) : IntKind.u64.wrap (uz a + uz b + uz c + uz d) = uz a + uz b + uz c + uz d := by
  have := uz_lt a; have := uz_nonneg a; have := uz_lt b; have := uz_nonneg b; have := uz_lt c; have := uz_nonneg c
  have := uz_lt d; have := uz_nonneg d
  rw [IntKind.wrap_u64]; omega
theorem sum5 (a b c d e : UInt32) : IntKind.u64.wrap (uz a + uz b + uz c + uz d + uz e) = uz a + uz b + uz c + uz d + uz e := by
  have := uz_lt a; have := uz_nonneg a; have := uz_lt b; have := uz_nonneg b; have := uz_lt c; have := uz_nonneg c
  have := uz_lt d; have := uz_nonneg d; have := uz_lt e; have := uz_nonneg e
  rw [IntKind.wrap_u64]; omega
theorem tmod_pos (n : Int) (h : 0 ≤ n) : n.tmod 4294967296 = n % 4294967296 := Int.tmod_eq_emod_of_nonneg h
theorem mod2 (a b : UInt32) : (uz a + uz b).tmod 4294967296 = uz (a + b) := by
  have := uz_nonneg a; have := uz_nonneg b
  rw [tmod_pos _ (by omega), uz_eq, uz_eq, uz_eq, UInt32.toNat_add]; omega
theorem mod4 (a b c d : UInt32) : (uz a + uz b + uz c + uz d).tmod 4294967296 = uz (a + b + c + d) := by
  have := uz_nonneg a; have := uz_nonneg b; have := uz_nonneg c; have := uz_nonneg d
  rw [tmod_pos _ (by omega), uz_eq, uz_eq, uz_eq, uz_eq, uz_eq, UInt32.toNat_add, UInt32.toNat_add, UInt32.toNat_add]; omega
theorem mod5 (a b c d e : UInt32) : (uz a + uz b + uz c + uz d + uz e).tmod 4294967296 = uz (a + b + c + d + e) := by
  have := uz_nonneg a; have := uz_nonneg b; have := uz_nonneg c; have := uz_nonneg d; have := uz_nonneg e
  rw [tmod_pos _ (by omega), uz_eq, uz_eq, uz_eq, uz_eq, uz_eq, uz_eq, UInt32.toNat_add, UInt32.toNat_add, UInt32.toNat_add, UInt32.toNat_add]; omega
theorem emod2 (a b : UInt32) : (uz a + uz b) % 4294967296 = uz (a + b) := by
  have := uz_nonneg a; have := uz_nonneg b
  rw [← tmod_pos _ (by omega)]; exact mod2 a b
theorem emod4 (a b c d : UInt32) : (uz a + uz b + uz c + uz d) % 4294967296 = uz (a + b + c + d) := by
  have := uz_nonneg a; have := uz_nonneg b; have := uz_nonneg c; have := uz_nonneg d
  rw [← tmod_pos _ (by omega)]; exact mod4 a b c d
theorem emod5 (a b c d e : UInt32) : (uz a + uz b + uz c + uz d + uz e) % 4294967296 = uz (a + b + c + d + e) := by
  have := uz_nonneg a; have := uz_nonneg b; have := uz_nonneg c; have := uz_nonneg d; have := uz_nonneg e
  rw [← tmod_pos _ (by omega)]; exact mod5 a b c d e
/-- A turn by arithmetic on numbers of 64 bits. -/
theorem rot64 (x : UInt32) (n : Int) (h0 : 0 < n) (h1 : n < 32) :
    (IntKind.u64.wrap (uz x / 2 ^ n.toNat + IntKind.u64.wrap (uz x * 2 ^ (32 - n).toNat))).tmod 4294967296 = uz (rot x n.toNat) := by
  obtain ⟨k, rfl⟩ := Int.eq_ofNat_of_zero_le (Int.le_of_lt h0)
  have hk0 : 0 < k := by omega
  have hk1 : k < 32 := by omega
  have e : (32 - (k : Int)).toNat = 32 - k := by omega
  rw [Int.toNat_natCast, e]
  have hx := x.toNat_lt
  have hp : (2 : Nat) ^ (32 - k) ≤ 2 ^ 31 := Nat.pow_le_pow_right (by omega) (by omega)
  have hm : x.toNat * 2 ^ (32 - k) < 2 ^ 32 * 2 ^ 31 := by
    calc x.toNat * 2 ^ (32 - k) ≤ x.toNat * 2 ^ 31 := Nat.mul_le_mul_left _ hp
      _ < 2 ^ 32 * 2 ^ 31 := by omega
  have hd : x.toNat / 2 ^ k ≤ x.toNat := Nat.div_le_self _ _
  have h2 : uz x * 2 ^ (32 - k) = ((x.toNat * 2 ^ (32 - k) : Nat) : Int) := by rw [uz_eq]; simp
  have h3 : uz x / 2 ^ k = ((x.toNat / 2 ^ k : Nat) : Int) := by rw [uz_eq]; simp
  have key : (rot x k).toNat = (x.toNat / 2 ^ k + x.toNat * 2 ^ (32 - k)) % 4294967296 := by
    unfold rot
    rw [UInt32.toNat_or, shr_nat x k hk1, shl_nat x (32 - k) (by omega)]
    -- the low part is less than 2 ^ (32 - k), the high part is a multiple of it
    have hlow : x.toNat / 2 ^ k < 2 ^ (32 - k) := by
      rw [Nat.div_lt_iff_lt_mul (Nat.two_pow_pos k), ← Nat.pow_add]
      have : 32 - k + k = 32 := by omega
      rw [this]; exact hx
    have h4 : (4294967296 : Nat) = 2 ^ (32 - k) * 2 ^ k := by
      rw [← Nat.pow_add]
      have : 32 - k + k = 32 := by omega
      rw [this]
    have hsplit : x.toNat * 2 ^ (32 - k) % 4294967296 = 2 ^ (32 - k) * (x.toNat % 2 ^ k) := by
      rw [h4, Nat.mul_comm x.toNat, Nat.mul_mod_mul_left]
    rw [hsplit, Nat.or_comm, ← Nat.two_pow_add_eq_or_of_lt hlow]
    have hlt : x.toNat % 2 ^ k < 2 ^ k := Nat.mod_lt _ (Nat.two_pow_pos k)
    have hmul : 2 ^ (32 - k) * (x.toNat % 2 ^ k) + x.toNat / 2 ^ k < 4294967296 := by
      have h5 : 2 ^ (32 - k) * (x.toNat % 2 ^ k) ≤ 2 ^ (32 - k) * (2 ^ k - 1) := Nat.mul_le_mul_left _ (by omega)
      have h6 : 2 ^ (32 - k) * (2 ^ k - 1) = 4294967296 - 2 ^ (32 - k) := by rw [Nat.mul_sub, ← h4]; omega
      have h7 : (2 : Nat) ^ (32 - k) ≤ 4294967296 := by
        have : (2 : Nat) ^ (32 - k) ≤ 2 ^ 32 := Nat.pow_le_pow_right (by omega) (by omega)
        omega
      generalize 2 ^ (32 - k) * (x.toNat % 2 ^ k) = A at *
      generalize 2 ^ (32 - k) * (2 ^ k - 1) = B at *
      omega
    rw [← Nat.mod_eq_of_lt hmul, ← hsplit]
    generalize x.toNat * 2 ^ (32 - k) = A at *
    omega
  rw [h2, h3]
  generalize hA : x.toNat * 2 ^ (32 - k) = A at *
  generalize hB : x.toNat / 2 ^ k = B at *
  have w1 : IntKind.u64.wrap (A : Int) = (A : Int) := by rw [IntKind.wrap_u64]; omega
  rw [w1]
  have w2 : IntKind.u64.wrap ((B : Int) + (A : Int)) = ((B + A : Nat) : Int) := by rw [IntKind.wrap_u64]; omega
  rw [w2, tmod_pos _ (by omega), uz_eq, key]; simp

/-- .. and as the walk of 32 bits spells it. -/
theorem rot32' (x : UInt32) (n : Int) (h0 : 0 < n) (h1 : n < 32) :
    bits .or .u32 (uz x / 2 ^ n.toNat) (uz x * 2 ^ (32 - n).toNat % 4294967296) = uz (rot x n.toNat) := by
  rw [← rot32 x n h0 h1, IntKind.wrap_u32]
theorem add32' (a b : UInt32) : (uz a + uz b) % 4294967296 = uz (a + b) := emod2 a b

-- bytes
def be4 (a b c d : UInt8) : UInt32 := a.toUInt32 <<< 24 ||| b.toUInt32 <<< 16 ||| c.toUInt32 <<< 8 ||| d.toUInt32
def at8 (p : List UInt8) (i : Nat) : UInt8 := p.getD i 0
def at32 (p : List UInt32) (i : Nat) : UInt32 := p.getD i 0
theorem at32_snoc (l : List UInt32) (x : UInt32) (j : Nat) : at32 (l ++ [x]) j = if j = l.length then x else at32 l j := by
  unfold at32
  rw [List.getD_eq_getElem?_getD, List.getD_eq_getElem?_getD, List.getElem?_append]
  by_cases h : j < l.length
  · rw [if_pos h, if_neg (by omega)]
  · rw [if_neg h]
    by_cases e : j = l.length
    · subst e; simp
    · rw [if_neg e, List.getElem?_eq_none (by simp; omega), List.getElem?_eq_none (by omega)]
theorem conv8 (b : UInt8) : IntKind.u32.wrap (bz b) = uz b.toUInt32 := by
  have := bz_lt b; have := bz_nonneg b
  rw [IntKind.wrap_u32, uz_eq, UInt8.toNat_toUInt32, ← bz_eq]; omega
theorem conv8' (b : UInt8) : bz b % (4294967296 : Int) = uz b.toUInt32 := by rw [← conv8, IntKind.wrap_u32]
theorem conv64 (b : UInt8) : IntKind.u64.wrap (bz b) = uz b.toUInt32 := by
  have := bz_lt b; have := bz_nonneg b
  rw [IntKind.wrap_u64, uz_eq, UInt8.toNat_toUInt32, ← bz_eq]; omega
theorem shl24 (x : UInt32) : IntKind.u32.wrap (uz x * (16777216 : Int)) = uz (x <<< 24) := shl32 x 24 (by omega)
theorem shl16 (x : UInt32) : IntKind.u32.wrap (uz x * (65536 : Int)) = uz (x <<< 16) := shl32 x 16 (by omega)
theorem shl8 (x : UInt32) : IntKind.u32.wrap (uz x * (256 : Int)) = uz (x <<< 8) := shl32 x 8 (by omega)
theorem shl24' (x : UInt32) : uz x * (16777216 : Int) % (4294967296 : Int) = uz (x <<< 24) := (IntKind.wrap_u32 _).symm.trans (shl24 x)
theorem shl16' (x : UInt32) : uz x * (65536 : Int) % (4294967296 : Int) = uz (x <<< 16) := (IntKind.wrap_u32 _).symm.trans (shl16 x)
theorem shl8' (x : UInt32) : uz x * (256 : Int) % (4294967296 : Int) = uz (x <<< 8) := (IntKind.wrap_u32 _).symm.trans (shl8 x)
theorem shr3 (x : UInt32) : uz x / (8 : Int) = uz (x >>> 3) := shr32 x 3 (by omega)
theorem shr10 (x : UInt32) : uz x / (1024 : Int) = uz (x >>> 10) := shr32 x 10 (by omega)
theorem shr24 (x : UInt32) : uz x / (16777216 : Int) = uz (x >>> 24) := shr32 x 24 (by omega)
theorem shr16 (x : UInt32) : uz x / (65536 : Int) = uz (x >>> 16) := shr32 x 16 (by omega)
theorem shr8 (x : UInt32) : uz x / (256 : Int) = uz (x >>> 8) := shr32 x 8 (by omega)
theorem xor32_3 (a b : UInt32) : bits .xor .u32 (uz a) (uz b / (8 : Int)) = uz (a ^^^ b >>> 3) := by rw [shr3, xor32]
theorem xor32_10 (a b : UInt32) : bits .xor .u32 (uz a) (uz b / (1024 : Int)) = uz (a ^^^ b >>> 10) := by rw [shr10, xor32]
theorem xor64_3 (a b : UInt32) : bits .xor .u64 (uz a) (uz b / (8 : Int)) = uz (a ^^^ b >>> 3) := by rw [shr3, xor64]
theorem xor64_10 (a b : UInt32) : bits .xor .u64 (uz a) (uz b / (1024 : Int)) = uz (a ^^^ b >>> 10) := by rw [shr10, xor64]
theorem low8 (x : UInt32) : IntKind.u8.wrap (uz x) = bz x.toUInt8 := by
  rw [IntKind.wrap_u8', bz_eq, uz_eq, UInt32.toNat_toUInt8]; simp
theorem low8' (x : UInt32) : uz x % (256 : Int) = bz x.toUInt8 := by rw [← low8, IntKind.wrap_u8']

-- a number out of four bytes, by sums on numbers of 64 bits
theorem be4_nat (a b c d : UInt8) : (be4 a b c d).toNat = a.toNat * 16777216 + b.toNat * 65536 + c.toNat * 256 + d.toNat := by
  have ha := a.toNat_lt; have hb := b.toNat_lt; have hc := c.toNat_lt; have hd := d.toNat_lt
  unfold be4
  have e1 : (a.toUInt32 <<< 24).toNat = a.toNat * 16777216 := by
    have := shl_nat a.toUInt32 24 (by omega)
    rw [UInt8.toNat_toUInt32] at this
    have h2 : (a.toUInt32 <<< UInt32.ofNat 24).toNat = (a.toUInt32 <<< 24).toNat := rfl
    rw [← h2, this]; omega
  have e2 : (b.toUInt32 <<< 16).toNat = b.toNat * 65536 := by
    have := shl_nat b.toUInt32 16 (by omega)
    rw [UInt8.toNat_toUInt32] at this
    have h2 : (b.toUInt32 <<< UInt32.ofNat 16).toNat = (b.toUInt32 <<< 16).toNat := rfl
    rw [← h2, this]; omega
  have e3 : (c.toUInt32 <<< 8).toNat = c.toNat * 256 := by
    have := shl_nat c.toUInt32 8 (by omega)
    rw [UInt8.toNat_toUInt32] at this
    have h2 : (c.toUInt32 <<< UInt32.ofNat 8).toNat = (c.toUInt32 <<< 8).toNat := rfl
    rw [← h2, this]; omega
  rw [UInt32.toNat_or, UInt32.toNat_or, UInt32.toNat_or, e1, e2, e3, UInt8.toNat_toUInt32]
  have o1 : a.toNat * 16777216 ||| b.toNat * 65536 = 16777216 * a.toNat + b.toNat * 65536 := by
    rw [Nat.mul_comm, show (16777216 : Nat) = 2 ^ 24 from rfl, Nat.two_pow_add_eq_or_of_lt (by omega)]
  have o2 : (16777216 * a.toNat + b.toNat * 65536) ||| c.toNat * 256 = 65536 * (256 * a.toNat + b.toNat) + c.toNat * 256 := by
    rw [show 16777216 * a.toNat + b.toNat * 65536 = 2 ^ 16 * (256 * a.toNat + b.toNat) by omega, show (65536 : Nat) = 2 ^ 16 from rfl, Nat.two_pow_add_eq_or_of_lt (by omega)]
  have o3 : (65536 * (256 * a.toNat + b.toNat) + c.toNat * 256) ||| d.toNat = 256 * (65536 * a.toNat + 256 * b.toNat + c.toNat) + d.toNat := by
    rw [show 65536 * (256 * a.toNat + b.toNat) + c.toNat * 256 = 2 ^ 8 * (65536 * a.toNat + 256 * b.toNat + c.toNat) by omega, show (256 : Nat) * (65536 * a.toNat + 256 * b.toNat + c.toNat) + d.toNat = 2 ^ 8 * (65536 * a.toNat + 256 * b.toNat + c.toNat) + d.toNat from rfl, Nat.two_pow_add_eq_or_of_lt (by omega)]
  rw [o1, o2, o3]; omega
theorem uz8 (x : UInt8) : uz x.toUInt32 = bz x := by rw [uz_eq, bz_eq, UInt8.toNat_toUInt32]
theorem be4a (a : UInt8) : IntKind.u64.wrap (bz a * (16777216 : Int)) = bz a * (16777216 : Int) := by
  have := bz_lt a; have := bz_nonneg a
  rw [IntKind.wrap_u64]; omega
theorem be4b (a : UInt8) : IntKind.u64.wrap (bz a * (65536 : Int)) = bz a * (65536 : Int) := by
  have := bz_lt a; have := bz_nonneg a
  rw [IntKind.wrap_u64]; omega
theorem be4c (a : UInt8) : IntKind.u64.wrap (bz a * (256 : Int)) = bz a * (256 : Int) := by
  have := bz_lt a; have := bz_nonneg a
  rw [IntKind.wrap_u64]; omega
theorem be4d (a b : UInt8) : IntKind.u64.wrap (bz a * (16777216 : Int) + bz b * (65536 : Int)) = bz a * (16777216 : Int) + bz b * (65536 : Int) := by
  have := bz_lt a; have := bz_nonneg a; have := bz_lt b; have := bz_nonneg b
  rw [IntKind.wrap_u64]; omega
theorem be4e (a b c : UInt8) : IntKind.u64.wrap (bz a * (16777216 : Int) + bz b * (65536 : Int) + bz c * (256 : Int)) = bz a * (16777216 : Int) + bz b * (65536 : Int) + bz c * (256 : Int) := by
  have := bz_lt a; have := bz_nonneg a; have := bz_lt b; have := bz_nonneg b; have := bz_lt c; have := bz_nonneg c
  rw [IntKind.wrap_u64]; omega
theorem be4f (a b c d : UInt8) : IntKind.u64.wrap (bz a * (16777216 : Int) + bz b * (65536 : Int) + bz c * (256 : Int) + bz d) = uz (be4 a b c d) := by
  have := bz_lt a; have := bz_nonneg a; have := bz_lt b; have := bz_nonneg b; have := bz_lt c; have := bz_nonneg c; have := bz_lt d; have := bz_nonneg d
  rw [IntKind.wrap_u64, uz_eq, be4_nat]
  simp only [bz_eq] at *
  omega
theorem convb64 (a : UInt8) : IntKind.u64.wrap (bz a) = bz a := by
  have := bz_lt a; have := bz_nonneg a
  rw [IntKind.wrap_u64]; omega

-- cells
def cu32 (x : UInt32) : Value := .int .u32 (uz x)
def cu64 (x : UInt32) : Value := .int .u64 (uz x)
def cu8 (x : UInt8) : Value := .int .u8 (bz x)

/-- The state. -/
structure S8 where
  a : UInt32
  b : UInt32
  c : UInt32
  d : UInt32
  e : UInt32
  f : UInt32
  g : UInt32
  h : UInt32

def S8.list (s : S8) : List UInt32 := [s.a, s.b, s.c, s.d, s.e, s.f, s.g, s.h]
def s32 (s : S8) : Array Value := (s.list.map cu32).toArray
def s64 (s : S8) : Array Value := (s.list.map cu64).toArray

def initS : S8 := ⟨0x6a09e667, 0xbb67ae85, 0x3c6ef372, 0xa54ff53a, 0x510e527f, 0x9b05688c, 0x1f83d9ab, 0x5be0cd19⟩
def kTab : List UInt32 := [0x428a2f98, 0x71374491, 0xb5c0fbcf, 0xe9b5dba5, 0x3956c25b, 0x59f111f1, 0x923f82a4, 0xab1c5ed5,
  0xd807aa98, 0x12835b01, 0x243185be, 0x550c7dc3, 0x72be5d74, 0x80deb1fe, 0x9bdc06a7, 0xc19bf174,
  0xe49b69c1, 0xefbe4786, 0x0fc19dc6, 0x240ca1cc, 0x2de92c6f, 0x4a7484aa, 0x5cb0a9dc, 0x76f988da,
  0x983e5152, 0xa831c66d, 0xb00327c8, 0xbf597fc7, 0xc6e00bf3, 0xd5a79147, 0x06ca6351, 0x14292967,
  0x27b70a85, 0x2e1b2138, 0x4d2c6dfc, 0x53380d13, 0x650a7354, 0x766a0abb, 0x81c2c92e, 0x92722c85,
  0xa2bfe8a1, 0xa81a664b, 0xc24b8b70, 0xc76c51a3, 0xd192e819, 0xd6990624, 0xf40e3585, 0x106aa070,
  0x19a4c116, 0x1e376c08, 0x2748774c, 0x34b0bcb5, 0x391c0cb3, 0x4ed8aa4a, 0x5b9cca4f, 0x682e6ff3,
  0x748f82ee, 0x78a5636f, 0x84c87814, 0x8cc70208, 0x90befffa, 0xa4506ceb, 0xbef9a3f7, 0xc67178f2]
def k32 : Array Value := (kTab.map cu32).toArray
def k64 : Array Value := (kTab.map cu64).toArray

-- the numbers of a block
def sig0 (x : UInt32) : UInt32 := rot x 7 ^^^ rot x 18 ^^^ x >>> 3
def sig1 (x : UInt32) : UInt32 := rot x 17 ^^^ rot x 19 ^^^ x >>> 10
def wNext (l : List UInt32) (i : Nat) : UInt32 := at32 l (i - 16) + sig0 (at32 l (i - 15)) + at32 l (i - 7) + sig1 (at32 l (i - 2))
def wFirst (p : List UInt8) (i : Nat) : UInt32 := be4 (at8 p (4 * i)) (at8 p (4 * i + 1)) (at8 p (4 * i + 2)) (at8 p (4 * i + 3))
def sched (p : List UInt8) : Nat → List UInt32
  | 0 => []
  | i + 1 => sched p i ++ [if i < 16 then wFirst p i else wNext (sched p i) i]
theorem sched_length (p : List UInt8) (i : Nat) : (sched p i).length = i := by
  induction i with
  | zero => rfl
  | succ i ih => simp [sched, ih]

theorem sched_low (p : List UInt8) (i : Nat) (h : i < 16) (j : Nat) : at32 (sched p (i + 1)) j = if j = i then wFirst p i else at32 (sched p i) j := by
  rw [sched, if_pos h, at32_snoc, sched_length]
theorem sched_high (p : List UInt8) (i : Nat) (h : ¬ i < 16) (j : Nat) : at32 (sched p (i + 1)) j = if j = i then wNext (sched p i) i else at32 (sched p i) j := by
  rw [sched, if_neg h, at32_snoc, sched_length]

-- the rounds
def rndP (s : S8) (k w : UInt32) : UInt32 := s.h + (rot s.e 6 ^^^ rot s.e 11 ^^^ rot s.e 25) + (s.e &&& s.f ^^^ ~~~s.e &&& s.g) + k + w
def rndQ (s : S8) : UInt32 := (rot s.a 2 ^^^ rot s.a 13 ^^^ rot s.a 22) + (s.a &&& s.b ^^^ s.a &&& s.c ^^^ s.b &&& s.c)
def rnd (s : S8) (k w : UInt32) : S8 := ⟨rndP s k w + rndQ s, s.a, s.b, s.c, s.d + rndP s k w, s.e, s.f, s.g⟩
def rnds (s : S8) (p : List UInt8) : Nat → S8
  | 0 => s
  | i + 1 => rnd (rnds s p i) (at32 kTab i) (at32 (sched p 64) i)
def addS (s t : S8) : S8 := ⟨s.a + t.a, s.b + t.b, s.c + t.c, s.d + t.d, s.e + t.e, s.f + t.f, s.g + t.g, s.h + t.h⟩
def comp (s : S8) (p : List UInt8) : S8 := addS (rnds s p 64) s

-- the digest of a state, as bytes; what stands behind the bytes; the digest
def dig4 (x : UInt32) : List UInt8 := [(x >>> 24).toUInt8, (x >>> 16).toUInt8, (x >>> 8).toUInt8, x.toUInt8]
def digS (s : S8) : List UInt8 := dig4 s.a ++ dig4 s.b ++ dig4 s.c ++ dig4 s.d ++ dig4 s.e ++ dig4 s.f ++ dig4 s.g ++ dig4 s.h
def pad0 (n : Nat) : Nat := (119 - n % 64) % 64
def be8 (n : Nat) : List UInt8 := (List.range 8).map fun i => UInt8.ofNat (n / 2 ^ (8 * (7 - i)))
def ending (n : Nat) : List UInt8 := 128 :: (List.replicate (pad0 n) 0 ++ be8 (n * 8))
/-- Block i of bytes. -/
def blk (m : List UInt8) (i : Nat) : List UInt8 := (m.drop (64 * i)).take 64
/-- The state behind the first k blocks. -/
def stateOf (m : List UInt8) : Nat → S8
  | 0 => initS
  | k + 1 => comp (stateOf m k) (blk m k)
def dig (m : List UInt8) : List UInt8 := digS (stateOf (m ++ ending m.length) ((m.length + (ending m.length).length) / 64))

/-- The cells of a hash. -/
def hCells (s : S8) (wt : List UInt8) (n : Nat) : List Value := s.list.map cu32 ++ (wt.map cu8 ++ [.int .u64 n])
theorem hCells_length (s : S8) (wt : List UInt8) (n : Nat) (h : wt.length = 64) : (hCells s wt n).length = 73 := by
  simp [hCells, S8.list, h]

end Go.Proofs.Ytakejggofghblaa.Sh
