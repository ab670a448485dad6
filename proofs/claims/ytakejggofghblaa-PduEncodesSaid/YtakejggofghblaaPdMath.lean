/-
  PDUs as plain lists of bytes: what they are encoded to, what is read of bytes. No program function is named here.
-/
import Derived.Test.YtakejggofghblaaCrcFits
set_option linter.unusedSimpArgs false
set_option linter.unusedVariables false
namespace Go.Proofs.Ytakejggofghblaa.Pd
open Sh Cr

/-- A PDU. -/
structure P where
  op : Int := 0
  imm : Bool := false
  fl : UInt8 := 0
  s0 : UInt8 := 0
  s1 : UInt8 := 0
  ahs : List UInt8 := []
  lun : Nat := 0
  tag : Nat := 0
  ws : List Nat := [0, 0, 0, 0, 0, 0, 0]
  data : List UInt8 := []
deriving DecidableEq
def P.w (p : P) (i : Nat) : Nat := p.ws.getD i 0
/-- Its numbers are those of the types. -/
structure P.Ok (p : P) : Prop where
  o1 : -9223372036854775808 ≤ p.op
  o2 : p.op ≤ 9223372036854775807
  hl : p.lun < 18446744073709551616
  ht : p.tag < 4294967296
  hn : p.ws.length = 7
  hw : ∀ i, p.w i < 4294967296
theorem P.zero_ok : ({} : P).Ok := ⟨by decide, by decide, by decide, by decide, rfl, fun i => by
  unfold P.w
  rcases (by omega : i = 0 ∨ i = 1 ∨ i = 2 ∨ i = 3 ∨ i = 4 ∨ i = 5 ∨ i = 6 ∨ 7 ≤ i) with rfl | rfl | rfl | rfl | rfl | rfl | rfl | h <;> first | decide | (rw [List.getD_eq_getElem?_getD, List.getElem?_eq_none (by simpa using h)]; decide)⟩

def mayB (p : P) : Bool := decide (0 ≤ p.op) && decide (p.op ≤ 63) && decide (p.ahs.length ≤ 32) && decide (p.ahs.length % 4 = 0) && decide (p.data.length ≤ 256)
theorem mayB_iff (p : P) : mayB p = true ↔ 0 ≤ p.op ∧ p.op ≤ 63 ∧ p.ahs.length ≤ 32 ∧ p.ahs.length % 4 = 0 ∧ p.data.length ≤ 256 := by
  unfold mayB; simp only [Bool.and_eq_true, decide_eq_true_eq]; constructor
  · rintro ⟨⟨⟨⟨a, b⟩, c⟩, d⟩, e⟩; exact ⟨a, b, c, d, e⟩
  · rintro ⟨a, b, c, d, e⟩; exact ⟨⟨⟨⟨a, b⟩, c⟩, d⟩, e⟩

/-- Bytes as a number, the highest first; and back. -/
def beL (l : List UInt8) : Nat := l.foldl (fun x c => x * 256 + c.toNat) 0
theorem beL_snoc (l : List UInt8) (c : UInt8) : beL (l ++ [c]) = beL l * 256 + c.toNat := by simp [beL]
theorem beL_lt (l : List UInt8) : beL l < 256 ^ l.length := by
  suffices h : ∀ (r : List UInt8), beL r.reverse < 256 ^ r.length by simpa using h l.reverse
  intro r
  induction r with
  | nil => simp [beL]
  | cons c r ih =>
    rw [List.reverse_cons, beL_snoc, List.length_cons, Nat.pow_succ]
    have := c.toNat_lt
    omega
def toBe : Nat → Nat → List UInt8
  | 0, _ => []
  | n + 1, x => toBe n (x / 256) ++ [UInt8.ofNat (x % 256)]
theorem toBe_length (n x : Nat) : (toBe n x).length = n := by
  induction n generalizing x with
  | zero => rfl
  | succ n ih => simp [toBe, ih]
theorem beL_toBe (n x : Nat) (h : x < 256 ^ n) : beL (toBe n x) = x := by
  induction n generalizing x with
  | zero => simp at h; subst h; rfl
  | succ n ih =>
    rw [toBe, beL_snoc, ih (x / 256) (by rw [Nat.pow_succ] at h; omega), UInt8.toNat_ofNat']
    omega
theorem toBe_beL (l : List UInt8) : toBe l.length (beL l) = l := by
  suffices h : ∀ (r : List UInt8), toBe r.length (beL r.reverse) = r.reverse by simpa using h l.reverse
  intro r
  induction r with
  | nil => rfl
  | cons c r ih =>
    have hc := c.toNat_lt
    rw [List.reverse_cons, beL_snoc, List.length_cons, toBe]
    have e1 : (beL r.reverse * 256 + c.toNat) / 256 = beL r.reverse := by omega
    have e2 : (beL r.reverse * 256 + c.toNat) % 256 = c.toNat := by omega
    rw [e1, e2, ih, UInt8.ofNat_toNat]
theorem toBe_cons (k x : Nat) : toBe (k + 1) x = UInt8.ofNat (x / 256 ^ k % 256) :: toBe k x := by
  induction k generalizing x with
  | zero => simp [toBe]
  | succ k ih =>
    rw [toBe, ih (x / 256), List.cons_append, toBe, Nat.div_div_eq_div_mul, Nat.pow_succ, Nat.mul_comm 256]

/-- The 48 bytes of a header. -/
def hdr (p : P) : List UInt8 :=
  [UInt8.ofNat (p.op.toNat + if p.imm then 64 else 0), p.fl, p.s0, p.s1, UInt8.ofNat (p.ahs.length / 4)] ++ toBe 3 p.data.length ++ toBe 8 p.lun ++ toBe 4 p.tag ++
    (toBe 4 (p.w 0) ++ toBe 4 (p.w 1) ++ toBe 4 (p.w 2) ++ toBe 4 (p.w 3) ++ toBe 4 (p.w 4) ++ toBe 4 (p.w 5) ++ toBe 4 (p.w 6))
theorem hdr_length (p : P) : (hdr p).length = 48 := by simp [hdr, toBe_length]
def padN (n : Nat) : Nat := (4 - n % 4) % 4
def closed (d : Bool) (b : List UInt8) : List UInt8 := if d then b ++ le4 (Cr.sum b) else b
def headB (p : P) (h : Bool) : List UInt8 := closed h (hdr p ++ p.ahs)
def bodyB (p : P) (d : Bool) : List UInt8 := closed (d && decide (0 < p.data.length)) (p.data ++ List.replicate (padN p.data.length) 0)
def encB (p : P) (h d : Bool) : List UInt8 := if mayB p then headB p h ++ bodyB p d else []

/-- What a header tells. -/
def at0 (b : List UInt8) (i : Nat) : Nat := (at8 b i).toNat
def nOf (b : List UInt8) : Nat := beL ((b.drop 5).take 3)
def soundB (b : List UInt8) : Bool := decide (at0 b 0 < 128) && decide (at0 b 4 ≤ 8) && decide (nOf b ≤ 256)
def fieldsB (b : List UInt8) : P :=
  { op := (at0 b 0 % 64 : Nat), imm := decide (64 ≤ at0 b 0 % 128), fl := at8 b 1, s0 := at8 b 2, s1 := at8 b 3, lun := beL ((b.drop 8).take 8), tag := beL ((b.drop 16).take 4),
    ws := (List.range 7).map fun i => beL ((b.drop (20 + 4 * i)).take 4) }
def ahsE (b : List UInt8) : Nat := 48 + 4 * at0 b 4
def headE (b : List UInt8) (h : Bool) : Nat := ahsE b + if h then 4 else 0
def padE (b : List UInt8) (h : Bool) : Nat := headE b h + nOf b + padN (nOf b)
def sumd (b : List UInt8) (d : Bool) : Bool := d && decide (0 < nOf b)
def allE (b : List UInt8) (h d : Bool) : Nat := padE b h + if sumd b d then 4 else 0
/-- The next PDU, what was found, how many bytes it takes. -/
def firstB (b : List UInt8) (h d : Bool) : P × Nat × Nat :=
  if b.length < 48 then ({}, 0, 0)
  else if soundB b = false then ({}, 3, 0)
  else if b.length < headE b h then ({}, 0, 0)
  else if h = true ∧ fitsB (b.take (headE b h)) = false then ({}, 3, 0)
  else if b.length < allE b h d then ({}, 0, 0)
  else if sumd b d = true ∧ fitsB ((b.drop (headE b h)).take (allE b h d - headE b h)) = false then ({ fieldsB b with ahs := (b.drop 48).take (ahsE b - 48) }, 2, allE b h d)
  else ({ fieldsB b with ahs := (b.drop 48).take (ahsE b - 48), data := (b.drop (headE b h)).take (nOf b) }, 1, allE b h d)
/-- A reader: what waits, whether it is broken. -/
def nextB (b : List UInt8) (k : Bool) (h d : Bool) : (P × Nat) × (List UInt8 × Bool) :=
  if k then (({}, 3), (b, true))
  else if (firstB b h d).2.1 = 3 then (((firstB b h d).1, 3), ([], true)) else (((firstB b h d).1, (firstB b h d).2.1), (b.drop (firstB b h d).2.2, false))
end Go.Proofs.Ytakejggofghblaa.Pd
