/-
  A book as a state: its title, what its calls make of it.
-/
import Derived.Test.YtjkkbceddbkejaaGreatDoorBkMath
import Derived.Test.YtjkkbceddbkejaaGreatDoorJPrc
import Derived.Test.YtjkkbceddbkejaaGreatDoorJLw
set_option linter.unusedSimpArgs false
set_option linter.unusedVariables false
namespace Go.Proofs.YtjkkbceddbkejaaGreatDoor
open Go.RowKit Sh

/-! The title. -/
def titleHead (g : Nat) (m : Mk) : List UInt8 := 66 :: (leN 8 g ++ (leN 8 m.num ++ (leN 2 m.place ++ m.last)))
def titleB (g : Nat) (m : Mk) : List UInt8 := titleHead g m ++ (dig (titleHead g m)).take 13
def toldB (p : List UInt8) : Nat × Mk := (numFrom ((p.drop 1).take 8) 0, ⟨numFrom ((p.drop 17).take 2) 0, numFrom ((p.drop 9).take 8) 0, (p.drop 19).take 32⟩)
theorem titleHead_len {g : Nat} {m : Mk} (h : m.last.length = 32) : (titleHead g m).length = 51 := by simp [titleHead, leN_length, h]
theorem titleB_len {g : Nat} {m : Mk} (h : m.last.length = 32) : (titleB g m).length = 64 := by simp [titleB, titleHead_len h, dig_len]
theorem numFrom_leN : ∀ (n x : Nat), x < 256 ^ n → numFrom (leN n x) 0 = x
  | 0, x, h => by simp at h; subst h; rfl
  | n + 1, x, h => by
    rw [leN_succ, numFrom_snoc, leN_length]
    have hp : (2 : Nat) ^ (8 * n) = 256 ^ n := by rw [Nat.pow_mul]
    have h0 : 0 < 256 ^ n := Nat.pow_pos (by omega)
    have hd : x / 256 ^ n < 256 := by rw [Nat.div_lt_iff_lt_mul h0, Nat.mul_comm]; rw [Nat.pow_succ] at h; exact h
    have e : numFrom (leN n x) 0 = x % 256 ^ n := by
      have ih := numFrom_leN n (x % 256 ^ n) (Nat.mod_lt _ h0)
      have : leN n (x % 256 ^ n) = leN n x := by
        unfold leN
        apply List.map_congr_left
        intro i hi
        have hi' := List.mem_range.1 hi
        have hpi : (2 : Nat) ^ (8 * i) = 256 ^ i := by rw [Nat.pow_mul]
        rw [hpi]
        apply UInt8.toNat_inj.1
        rw [UInt8.toNat_ofNat', UInt8.toNat_ofNat']
        show x % 256 ^ n / 256 ^ i % 256 = x / 256 ^ i % 256
        have hn : 256 ^ n = 256 ^ i * (256 * 256 ^ (n - i - 1)) := by rw [← Nat.pow_succ', ← Nat.pow_add]; congr 1; omega
        rw [hn, Nat.mod_mul_right_div_self, Nat.mod_mul_right_mod]
      rw [this] at ih; exact ih
    rw [e, hp, UInt8.toNat_ofNat']
    show x % 256 ^ n + x / 256 ^ n % 256 * 256 ^ n = x
    rw [Nat.mod_eq_of_lt hd, Nat.mul_comm]
    exact Nat.mod_add_div x (256 ^ n)
theorem told_title {g : Nat} {m : Mk} (hg : g < 18446744073709551616) (hn : m.num < 18446744073709551616) (hp : m.place < 65536) (hl : m.last.length = 32) : toldB (titleB g m) = (g, m) := by
  have l1 : (leN 8 g).length = 8 := leN_length _ _
  have l2 : (leN 8 m.num).length = 8 := leN_length _ _
  have l3 : (leN 2 m.place).length = 2 := leN_length _ _
  have e1 : ((titleB g m).drop 1).take 8 = leN 8 g := by
    simp only [titleB, titleHead, List.cons_append, List.append_assoc, List.drop_succ_cons, List.drop_zero]
    rw [List.take_left' l1]
  have d9 : (titleB g m).drop 9 = leN 8 m.num ++ (leN 2 m.place ++ (m.last ++ (dig (titleHead g m)).take 13)) := by
    simp only [titleB, titleHead, List.cons_append, List.append_assoc, List.drop_succ_cons]
    rw [List.drop_left' l1]
  have e2 : ((titleB g m).drop 9).take 8 = leN 8 m.num := by rw [d9, List.take_left' l2]
  have d17 : (titleB g m).drop 17 = leN 2 m.place ++ (m.last ++ (dig (titleHead g m)).take 13) := by
    rw [show 17 = 9 + 8 from rfl, ← List.drop_drop, d9, List.drop_left' l2]
  have e3 : ((titleB g m).drop 17).take 2 = leN 2 m.place := by rw [d17, List.take_left' l3]
  have d19 : (titleB g m).drop 19 = m.last ++ (dig (titleHead g m)).take 13 := by
    rw [show 19 = 17 + 2 from rfl, ← List.drop_drop, d17, List.drop_left' l3]
  have e4 : ((titleB g m).drop 19).take 32 = m.last := by rw [d19, List.take_left' hl]
  unfold toldB
  rw [e1, e2, e3, e4, numFrom_leN 8 g hg, numFrom_leN 8 _ hn, numFrom_leN 2 _ hp]
/-- The newest of the two titles. -/
def laterB (p : List UInt8) (r : Nat × Mk) : Nat × Mk := if r.1 < (toldB p).1 ∧ p = titleB (toldB p).1 (toldB p).2 then toldB p else r
def latestB (img : List (List UInt8)) : Nat × Mk := laterB (img.getD 1 []) (laterB (img.getD 0 []) (0, ⟨0, 0, List.replicate 32 0⟩))
theorem told_zero : (toldB (List.replicate 64 0)).1 = 0 := by decide
theorem later_zero (r : Nat × Mk) : laterB (List.replicate 64 0) r = r := by
  unfold laterB
  rw [if_neg (by rw [told_zero]; omega)]
theorem later_title {g : Nat} {m : Mk} (hg : g < 18446744073709551616) (hn : m.num < 18446744073709551616) (hp : m.place < 65536) (hl : m.last.length = 32) (r : Nat × Mk) : laterB (titleB g m) r = if r.1 < g then (g, m) else r := by
  unfold laterB
  rw [told_title hg hn hp hl]
  by_cases h : r.1 < g <;> simp [h]
theorem told_ok {p : List UInt8} (h : p.length = 64) : (toldB p).1 < 18446744073709551616 ∧ (toldB p).2.num < 18446744073709551616 ∧ (toldB p).2.place < 65536 ∧ (toldB p).2.last.length = 32 := by
  refine ⟨?_, ?_, ?_, by simp [toldB, h]⟩
  · have := numFrom_lt ((p.drop 1).take 8) 0
    simpa [toldB, h] using this
  · have := numFrom_lt ((p.drop 9).take 8) 0
    simpa [toldB, h] using this
  · have := numFrom_lt ((p.drop 17).take 2) 0
    simpa [toldB, h] using this
theorem later_ok {p : List UInt8} (h : p.length = 64) {r : Nat × Mk} (hr : r.1 < 18446744073709551616 ∧ r.2.num < 18446744073709551616 ∧ r.2.place < 65536 ∧ r.2.last.length = 32) :
    (laterB p r).1 < 18446744073709551616 ∧ (laterB p r).2.num < 18446744073709551616 ∧ (laterB p r).2.place < 65536 ∧ (laterB p r).2.last.length = 32 := by
  unfold laterB
  split
  · exact told_ok h
  · exact hr

/-! The book. -/
structure Bk where
  S : St
  n : Nat
  m : Mk
  used : Nat
  gen : Nat
  news : List Chg
  txn : List Chg
  broken : Bool
def Bk.pages (b : Bk) : Nat := min (b.S.firm.length - 2 - b.n) 2048
def maxU : Nat := 18446744073709551616
structure Bk.Ok (b : Bk) : Prop where
  good : Good b.S
  byt : Byt b.S
  ring : RingOk 2 b.n b.m b.used
  last : b.m.last.length = 32
  room : 3 + b.n ≤ b.S.firm.length
  gen : b.gen < 18446744073709551616
  pend : b.S.ats.length ≤ 20000
  newsR : Rising b.news
  newsW : Within b.pages b.news
  txnR : Rising b.txn
  txnW : Within b.pages b.txn
  txn60 : b.txn.length ≤ 60
/-- The pages' homes written. -/
def homesOf (first : Nat) : St → List Chg → St × Int
  | S, [] => (S, 0)
  | S, c :: l => if (writeOf S ((first + c.at_ : Nat) : Int) (c.what.map cu8)).2 = 0 then homesOf first (writeOf S ((first + c.at_ : Nat) : Int) (c.what.map cu8)).1 l else writeOf S ((first + c.at_ : Nat) : Int) (c.what.map cu8)
def nextGen (b : Bk) : Nat := (b.gen + 1) % 18446744073709551616
def nextMk (b : Bk) : Mk := ⟨b.m.place, b.m.num, dig (b.m.last ++ leN 8 (nextGen b))⟩
def st1 (b : Bk) : St × Int := flushOf b.S
def st2 (b : Bk) : St × Int := homesOf (2 + b.n) (st1 b).1 b.news
def st3 (b : Bk) : St × Int := flushOf (st2 b).1
def st4 (b : Bk) : St × Int := writeOf (st3 b).1 ((nextGen b % 2 : Nat) : Int) ((titleB (nextGen b) (nextMk b)).map cu8)
def st5 (b : Bk) : St × Int := flushOf (st4 b).1
/-- All brought home: the book, and the error's number. -/
def bringOf (b : Bk) : Bk × Int :=
  if (st1 b).2 ≠ 0 then ({ b with S := (st1 b).1 }, (st1 b).2) else
  if (st2 b).2 ≠ 0 then ({ b with S := (st2 b).1 }, (st2 b).2) else
  if (st3 b).2 ≠ 0 then ({ b with S := (st3 b).1 }, (st3 b).2) else
  if (st4 b).2 ≠ 0 then ({ b with S := (st4 b).1 }, (st4 b).2) else
  if (st5 b).2 ≠ 0 then ({ b with S := (st5 b).1 }, (st5 b).2) else
  ({ b with S := (st5 b).1, gen := nextGen b, m := nextMk b, used := 0, news := [] }, 0)
def keptOf (r : Bk × Int) : Bk × Int := if r.2 = 0 then r else ({ r.1 with broken := true }, r.2)
/-- What stands on a page. -/
def pageOf (b : Bk) (i : Int) : List UInt8 × Int :=
  if b.broken = true then (List.replicate 64 0, 10) else if i < 0 ∨ (b.pages : Int) ≤ i then (List.replicate 64 0, 1) else
  match getM b.txn i.toNat with
  | some p => (p, 0)
  | none => match getM b.news i.toNat with
    | some p => (p, 0)
    | none => (bytesOf (readOf b.S (2 + b.n + i)).1, (readOf b.S (2 + b.n + i)).2)
def bwriteOf (b : Bk) (i : Int) (p : List UInt8) : Bk × Int :=
  if (pageOf b i).2 ≠ 0 then (b, (pageOf b i).2) else
  if (getM b.txn i.toNat).isSome then ({ b with txn := putM b.txn i.toNat p }, 0) else
  if (pageOf b i).1 = p then (b, 0) else if 60 ≤ b.txn.length then (b, 11) else ({ b with txn := putM b.txn i.toNat p }, 0)
def addOf (b : Bk) (l : List Chg) : Bk × Int :=
  let r := writesOf 2 b.n b.S b.m.place (sectors b.m l)
  if r.2 = 0 then ({ b with S := r.1, m := endM b.n b.m l, used := b.used + takes l.length, news := learnM b.news l }, 0) else ({ b with S := r.1 }, r.2)
def commitOf (b : Bk) : Bk × Int :=
  if b.broken = true then (b, 10) else if b.txn = [] then (b, 0) else
  let b1 : Bk := { b with txn := [] }
  if takes b.txn.length ≤ b.n - b.used then keptOf (addOf b1 b.txn) else
  if (bringOf b1).2 ≠ 0 then keptOf (bringOf b1) else keptOf (addOf (bringOf b1).1 b.txn)
def syncOf (b : Bk) : Bk × Int :=
  if b.broken = true then (b, 10) else keptOf ({ b with S := (flushOf b.S).1 }, (flushOf b.S).2)
end Go.Proofs.YtjkkbceddbkejaaGreatDoor
