/-
  What bits that are turned do to bytes that fit: plain lists and numbers. No program is named here.
-/
import Derived.Test.YtmbhfmipmadjpaaCrcFits
namespace Go.Proofs.Ytmbhfmipmadjpaa
open Sh Cr

/-- Four bytes are some number's. -/
theorem le4_all (tl : List UInt8) (h : tl.length = 4) : ∃ s, tl = le4 s := by
  match tl, h with
  | [a, b, c, d], _ =>
    have ha := a.toNat_lt; have hb := b.toNat_lt; have hc := c.toNat_lt; have hd := d.toNat_lt
    refine ⟨UInt32.ofNat (a.toNat + 256 * b.toNat + 65536 * c.toNat + 16777216 * d.toNat), ?_⟩
    generalize hx : UInt32.ofNat (a.toNat + 256 * b.toNat + 65536 * c.toNat + 16777216 * d.toNat) = x
    have hn : x.toNat = a.toNat + 256 * b.toNat + 65536 * c.toNat + 16777216 * d.toNat := by
      rw [← hx, UInt32.toNat_ofNat', Nat.mod_eq_of_lt (by omega)]
    have n8 : (x >>> 8).toNat = x.toNat / 2 ^ 8 := shr_nat x 8 (by omega)
    have n16 : (x >>> 16).toNat = x.toNat / 2 ^ 16 := shr_nat x 16 (by omega)
    have n24 : (x >>> 24).toNat = x.toNat / 2 ^ 24 := shr_nat x 24 (by omega)
    have e0 : a = x.toUInt8 := by apply UInt8.toNat_inj.1; rw [UInt32.toNat_toUInt8, hn]; omega
    have e1 : b = (x >>> 8).toUInt8 := by apply UInt8.toNat_inj.1; rw [UInt32.toNat_toUInt8, n8, hn]; omega
    have e2 : c = (x >>> 16).toUInt8 := by apply UInt8.toNat_inj.1; rw [UInt32.toNat_toUInt8, n16, hn]; omega
    have e3 : d = (x >>> 24).toUInt8 := by apply UInt8.toNat_inj.1; rw [UInt32.toNat_toUInt8, n24, hn]; omega
    unfold le4
    rw [← e0, ← e1, ← e2, ← e3]
theorem le4_inj {x y : UInt32} (h : le4 x = le4 y) : x = y := by
  have hx := feed_le4 0 x
  rw [h, feed_le4, UInt32.zero_xor, UInt32.zero_xor] at hx
  exact (halves_inj 32 _ _ hx).symm
theorem fitsB_iff (M : List UInt8) (h : 4 ≤ M.length) : fitsB M = true ↔ feed M ones = halves 32 ones := by
  have e : M = M.take (M.length - 4) ++ M.drop (M.length - 4) := (List.take_append_drop _ _).symm
  generalize hA : M.take (M.length - 4) = A at e
  generalize hT : M.drop (M.length - 4) = tl at e
  have ht : tl.length = 4 := by rw [← hT, List.length_drop]; omega
  obtain ⟨s, rfl⟩ := le4_all tl ht
  rw [e, fitsB_append _ _ ht, decide_eq_true_eq, ← fits_iff]
  constructor
  · intro h1; exact (le4_inj h1).symm
  · intro h1; rw [h1]

theorem feed_set (M : List UInt8) (q r : Nat) (hq : q < M.length) (hr : r < 8) (x : UInt32) :
    feed (M.set q (at8 M q ^^^ UInt8.ofNat (2 ^ r))) x = feed M x ^^^ halves (8 * M.length - (8 * q + r)) 1 := by
  have e1 : M.set q (at8 M q ^^^ UInt8.ofNat (2 ^ r)) = M.take q ++ (at8 M q ^^^ UInt8.ofNat (2 ^ r)) :: M.drop (q + 1) := List.set_eq_take_append_cons_drop.trans (if_pos hq)
  have e2 : M = M.take q ++ at8 M q :: M.drop (q + 1) := by
    have h1 : at8 M q = M[q] := by simp [at8, List.getD_eq_getElem?_getD, List.getElem?_eq_getElem hq]
    rw [h1, List.getElem_cons_drop, List.take_append_drop]
  have e3 : feed M x = feed (M.take q ++ at8 M q :: M.drop (q + 1)) x := congrArg (fun l => feed l x) e2
  rw [e1, e3, feed_flip _ _ _ _ hr]
  congr 2
  rw [List.length_drop]
  omega

/-- Bytes in which the bits of D are turned, from bit a on, in what came of all of them. -/
structure Turned (M0 : List UInt8) (a k : Nat) (t : Bool) (M : List UInt8) : Prop where
  len : M.length = M0.length
  ex : ∃ D : UInt32, feed M ones = feed M0 ones ^^^ halves (8 * M0.length - a) D ∧ D.toNat < 2 ^ k ∧ (t = true ↔ D ≠ 0)
theorem Turned.start (M0 : List UInt8) (a : Nat) : Turned M0 a 0 false M0 :=
  ⟨rfl, 0, by rw [halves_zero, UInt32.xor_zero], by decide, by simp⟩
theorem Turned.skip {M0 M : List UInt8} {a k : Nat} {t : Bool} (h : Turned M0 a k t M) : Turned M0 a (k + 1) t M := by
  obtain ⟨hl, D, h1, h2, h3⟩ := h
  exact ⟨hl, D, h1, Nat.lt_of_lt_of_le h2 (Nat.pow_le_pow_right (by omega) (by omega)), h3⟩
theorem Turned.flip {M0 M : List UInt8} {a k : Nat} {t : Bool} (h : Turned M0 a k t M) (hk : k < 32) (hp : a + k < 8 * M0.length) :
    Turned M0 a (k + 1) true (M.set ((a + k) / 8) (at8 M ((a + k) / 8) ^^^ UInt8.ofNat (2 ^ ((a + k) % 8)))) := by
  obtain ⟨hl, D, h1, h2, h3⟩ := h
  have hb : 2 ^ k < 2 ^ 32 := Nat.pow_lt_pow_right (by omega) hk
  have hn : (UInt32.ofNat (2 ^ k)).toNat = 2 ^ k := by rw [UInt32.toNat_ofNat', Nat.mod_eq_of_lt hb]
  refine ⟨by rw [List.length_set, hl], D ^^^ UInt32.ofNat (2 ^ k), ?_, ?_, ?_⟩
  · rw [feed_set M _ _ (by omega) (by omega), h1, halves_xor, UInt32.xor_assoc, hl]
    congr 2
    rw [← halves_bit k hk, halves_add]
    congr 1
    omega
  · rw [UInt32.toNat_xor, hn]
    exact Nat.xor_lt_two_pow (Nat.lt_of_lt_of_le h2 (Nat.pow_le_pow_right (by omega) (by omega))) (Nat.pow_lt_pow_right (by omega) (by omega))
  · refine ⟨fun _ e => ?_, fun _ => rfl⟩
    have := UInt32.xor_eq_zero_iff.1 e
    rw [this, hn] at h2
    omega
theorem Turned.fits {bs M : List UInt8} {a k : Nat} {t : Bool} (h : Turned (bs ++ le4 (Cr.sum bs)) a k t M) : fitsB M = !t := by
  obtain ⟨hl, D, h1, h2, h3⟩ := h
  have h4 : (bs ++ le4 (Cr.sum bs)).length = bs.length + 4 := List.length_append
  have hf := fitsB_iff M (by omega)
  rw [h1, (fits_iff bs (Cr.sum bs)).1 rfl] at hf
  cases t
  · have hD : D = 0 := Classical.byContradiction fun hd => by simpa using h3.2 hd
    rw [hD, halves_zero, UInt32.xor_zero] at hf
    exact hf.2 rfl
  · have hD : D ≠ 0 := h3.1 rfl
    cases hv : fitsB M
    · rfl
    · exfalso
      have e := hf.1 hv
      have e2 : halves (8 * (bs ++ le4 (Cr.sum bs)).length - a) D = 0 := by
        have h5 := congrArg (fun y => halves 32 ones ^^^ y) e
        simp only [← UInt32.xor_assoc, UInt32.xor_self, UInt32.zero_xor] at h5
        exact h5
      exact hD (halves_ker _ _ e2)
end Go.Proofs.Ytmbhfmipmadjpaa
