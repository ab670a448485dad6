/-
  What sixteen bytes ask for, as plain functions (no program is named here).
-/
import Derived.Test.YtehhhbehclpkbaaShaMath
namespace Go.Proofs.Ytehhhbehclpkbaa.Cd
open Go.Proofs.Ytehhhbehclpkbaa.Sh

/-- A task. -/
structure Tk where
  op : Nat := 0
  lba : Nat := 0
  blk : Nat := 0
  fua : Bool := false
  unm : Bool := false
  act : Nat := 0
  sco : Nat := 0
  typ : Nat := 0
  all : Nat := 0
  len : Nat := 0
  pag : Nat := 0
  vit : Bool := false
deriving DecidableEq

def Tk.V (t : Tk) : Value := .agg #[.int .i64 (t.op : Int), .int .u64 (t.lba : Int), .int .u64 (t.blk : Int), .bool t.fua, .bool t.unm, .int .i64 (t.act : Int), .int .i64 (t.sco : Int), .int .i64 (t.typ : Int), .int .i64 (t.all : Int), .int .i64 (t.len : Int), .int .i64 (t.pag : Int), .bool t.vit]
def Tk.cs (t : Tk) : Array Value := #[.int .i64 (t.op : Int), .int .u64 (t.lba : Int), .int .u64 (t.blk : Int), .bool t.fua, .bool t.unm, .int .i64 (t.act : Int), .int .i64 (t.sco : Int), .int .i64 (t.typ : Int), .int .i64 (t.all : Int), .int .i64 (t.len : Int), .int .i64 (t.pag : Int), .bool t.vit]

/-- Bytes as a number, the highest first. -/
def beL (l : List UInt8) : Nat := l.foldl (fun x c => x * 256 + c.toNat) 0
def be (B : List UInt8) (i n : Nat) : Nat := beL ((B.drop i).take n)
/-- A byte as a number. -/
def b8 (B : List UInt8) (i : Nat) : Nat := (at8 B i).toNat
theorem b8_lt (B : List UInt8) (i : Nat) : b8 B i < 256 := (at8 B i).toNat_lt
theorem b8_bz (B : List UInt8) (i : Nat) : bz (at8 B i) = (b8 B i : Int) := rfl

theorem beL_snoc (l : List UInt8) (c : UInt8) : beL (l ++ [c]) = beL l * 256 + c.toNat := by simp [beL]
theorem beL_lt (l : List UInt8) : beL l < 256 ^ l.length := by
  suffices h : ∀ (r : List UInt8), beL r.reverse < 256 ^ r.length by simpa using h l.reverse
  intro r
  induction r with
  | nil => simp [beL]
  | cons c r ih =>
    rw [List.reverse_cons, beL_snoc, List.length_cons, Nat.pow_succ]
    have := c.toNat_lt
    omega
theorem be_lt (B : List UInt8) (i n : Nat) : be B i n < 256 ^ n := by
  refine Nat.lt_of_lt_of_le (beL_lt _) (Nat.pow_le_pow_right (by omega) ?_)
  simp; omega
theorem be1 (B : List UInt8) (i : Nat) (h : i < B.length) : be B i 1 = b8 B i := by
  unfold be b8 at8
  rw [List.drop_eq_getElem_cons h, List.take_succ_cons, List.take_zero]
  simp only [beL, List.foldl_cons, List.foldl_nil, List.getD_eq_getElem?_getD, List.getElem?_eq_getElem h, Option.getD_some]
  omega

def code (wrong : Bool) : Nat := if wrong then 9216 else 0

/-- A DoInquiry. -/
def inqT (B : List UInt8) : Tk := { op := 2, vit := b8 B 1 % 2 == 1, pag := b8 B 2, all := be B 3 2 }
def inqC (B : List UInt8) : Nat := code (b8 B 1 / 2 != 0 || (b8 B 1 % 2 == 0 && b8 B 2 != 0))
def ordT (B : List UInt8) : Tk := { op := 13, act := b8 B 1, sco := b8 B 2 / 16, typ := b8 B 2 % 16, len := be B 5 4 }
def ordC (B : List UInt8) : Nat := if 6 < b8 B 1 || b8 B 2 / 16 != 0 then 9216 else if be B 5 4 != 24 then 6656 else 0
def unmT (B : List UInt8) : Tk := { op := 9, len := be B 7 2 }
def unmC (B : List UInt8) : Nat := if be B 7 2 != 0 && be B 7 2 != 24 then 6656 else 0
/-- What a command of blocks does. -/
def doing (o : Nat) : Nat :=
  if o = 40 ∨ o = 136 then 6 else if o = 42 ∨ o = 138 then 7 else if o = 65 ∨ o = 147 then 8 else if o = 137 then 10 else if o = 53 ∨ o = 145 then 11 else 0
def shortB (o : Nat) : Bool := o == 40 || o == 42 || o == 65 || o == 53
def lbaN (B : List UInt8) : Nat := if shortB (b8 B 0) then be B 2 4 else be B 2 8
def blkN (B : List UInt8) : Nat := if shortB (b8 B 0) then be B 7 2 else if b8 B 0 = 137 then be B 13 1 else be B 10 4
def spanT (B : List UInt8) : Tk := { op := doing (b8 B 0), lba := lbaN B, blk := blkN B }
def bit3 (x : Nat) : Bool := x / 8 % 2 == 1
def oth3 (x : Nat) : Bool := x - x / 8 % 2 * 8 != 0
/-- A command that names blocks itself: what is beside a code doesn't matter. -/
def blkC (B : List UInt8) : Nat :=
  if doing (b8 B 0) = 0 then 8192
  else if doing (b8 B 0) = 11 then code (b8 B 1 != 0)
  else if doing (b8 B 0) = 8 then code (oth3 (b8 B 1) || blkN B == 0 || decide (8 < blkN B))
  else if doing (b8 B 0) = 10 ∧ blkN B = 0 then 9216
  else code (oth3 (b8 B 1) || decide (8 < blkN B))
def blkT (B : List UInt8) : Tk :=
  if doing (b8 B 0) = 11 then spanT B
  else if doing (b8 B 0) = 8 then { spanT B with len := 64, unm := bit3 (b8 B 1) }
  else if doing (b8 B 0) = 10 then { spanT B with len := 128 * blkN B, fua := bit3 (b8 B 1) }
  else if doing (b8 B 0) = 7 then { spanT B with len := 64 * blkN B, fua := bit3 (b8 B 1) }
  else { spanT B with all := 64 * blkN B, fua := bit3 (b8 B 1) }
def rowT (B : List UInt8) : Tk :=
  if b8 B 0 = 0 then { op := 1 }
  else if b8 B 0 = 18 then inqT B
  else if b8 B 0 = 37 then { op := 3, all := 8 }
  else if b8 B 0 = 158 then { op := 4, all := be B 10 4 }
  else if b8 B 0 = 160 then { op := 5, all := be B 6 4 }
  else if b8 B 0 = 94 then { op := 12, act := b8 B 1, all := be B 7 2 }
  else if b8 B 0 = 95 then ordT B
  else if b8 B 0 = 66 then unmT B
  else blkT B
def rowC (B : List UInt8) : Nat :=
  if b8 B 0 = 0 then 0
  else if b8 B 0 = 18 then inqC B
  else if b8 B 0 = 37 then 0
  else if b8 B 0 = 158 then code (b8 B 1 != 16)
  else if b8 B 0 = 160 then code (decide (2 < b8 B 2))
  else if b8 B 0 = 94 then code (decide (1 < b8 B 1))
  else if b8 B 0 = 95 then ordC B
  else if b8 B 0 = 66 then unmC B
  else blkC B
/-- What Decode answers. -/
def decT (B : List UInt8) : Tk := if rowC B = 0 then rowT B else {}

-- bits of a byte
set_option maxRecDepth 100000 in
theorem bit_fin : ∀ x : Fin 256, bits .and .u8 ((x.val : Nat) : Int) 1 = ((x.val % 2 : Nat) : Int) ∧ bits .and .u8 ((x.val : Nat) : Int) 8 = ((x.val / 8 % 2 * 8 : Nat) : Int) ∧ bits .and .u8 ((x.val : Nat) : Int) 15 = ((x.val % 16 : Nat) : Int) := by decide
set_option maxRecDepth 100000 in
theorem nbit_fin : ∀ x : Fin 256, bits .andNot .u8 ((x.val : Nat) : Int) 1 = ((x.val / 2 * 2 : Nat) : Int) ∧ bits .andNot .u8 ((x.val : Nat) : Int) 8 = ((x.val - x.val / 8 % 2 * 8 : Nat) : Int) := by decide
theorem bit0 {x : Nat} (h : x < 256) : (bits .and .u8 (x : Int) 1 != 0) = (x % 2 == 1) := by
  rw [(bit_fin ⟨x, h⟩).1, Bool.eq_iff_iff]; simp; omega
theorem bit3_of {x : Nat} (h : x < 256) : (bits .and .u8 (x : Int) 8 != 0) = bit3 x := by
  rw [(bit_fin ⟨x, h⟩).2.1, Bool.eq_iff_iff, bit3]; simp; omega
theorem low4 {x : Nat} (h : x < 256) : bits .and .u8 (x : Int) 15 = ((x % 16 : Nat) : Int) := (bit_fin ⟨x, h⟩).2.2
theorem oth0 {x : Nat} (h : x < 256) : (bits .andNot .u8 (x : Int) 1 != 0) = (x / 2 != 0) := by
  rw [(nbit_fin ⟨x, h⟩).1, Bool.eq_iff_iff]; simp; omega
theorem oth3_of {x : Nat} (h : x < 256) : (bits .andNot .u8 (x : Int) 8 != 0) = oth3 x := by
  have e := (nbit_fin ⟨x, h⟩).2
  simp only at e
  rw [e, Bool.eq_iff_iff, oth3, bne_iff_ne, bne_iff_ne]; omega
end Go.Proofs.Ytehhhbehclpkbaa.Cd
