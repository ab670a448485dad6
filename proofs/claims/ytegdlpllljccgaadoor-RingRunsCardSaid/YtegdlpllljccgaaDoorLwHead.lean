/-
  The head of a record: what its first ten bytes say, by its number read back.
-/
import Derived.Test.YtegdlpllljccgaaDoorJRg
set_option linter.unusedSimpArgs false
set_option linter.unusedVariables false
namespace Go.Proofs.YtegdlpllljccgaaDoor
open Sh

theorem numFrom_le8 (x : Nat) (h : x < 18446744073709551616) : numFrom (le8 x) 0 = x := by
  simp [numFrom, le8, List.range_succ]; omega
theorem le8_numFrom (bs : List UInt8) (h : bs.length = 8) : le8 (numFrom bs 0) = bs := by
  match bs, h with
  | [a, b, c, d, e, f, g, i], _ =>
    have ha := a.toNat_lt; have hb := b.toNat_lt; have hc := c.toNat_lt; have hd := d.toNat_lt; have he := e.toNat_lt; have hf := f.toNat_lt; have hg := g.toNat_lt; have hi := i.toNat_lt
    have e1 : numFrom [a, b, c, d, e, f, g, i] 0 = a.toNat + 256 * (b.toNat + 256 * (c.toNat + 256 * (d.toNat + 256 * (e.toNat + 256 * (f.toNat + 256 * (g.toNat + 256 * i.toNat)))))) := by simp [numFrom]
    rw [e1]
    have key : ∀ (z : UInt8) (x : Nat), x % 256 = z.toNat → UInt8.ofNat x = z := fun z x hz => by
      apply UInt8.toNat_inj.1
      rw [UInt8.toNat_ofNat']; exact hz
    simp only [le8, List.range_succ, List.range_zero, List.nil_append, List.map_append, List.map_cons, List.map_nil, List.cons_append]
    refine congr (congrArg _ (key a _ (by omega))) (congr (congrArg _ (key b _ (by omega))) (congr (congrArg _ (key c _ (by omega))) (congr (congrArg _ (key d _ (by omega))) (congr (congrArg _ (key e _ (by omega))) (congr (congrArg _ (key f _ (by omega))) (congr (congrArg _ (key g _ (by omega))) (congr (congrArg _ (key i _ (by omega))) rfl)))))))
/-- The first ten bytes are a record's head just if the first is the sign and the next eight are the number. -/
theorem head_iff {p : List UInt8} (h : p.length = 64) {num : Nat} (hn : num < 18446744073709551616) : p.take 10 = head10 num (at8 p 9).toNat ↔ at8 p 0 = 84 ∧ numFrom ((p.drop 1).take 8) 0 = num := by
  have h8 : ((p.drop 1).take 8).length = 8 := by simp [h]
  have e10 : p.take 10 = at8 p 0 :: ((p.drop 1).take 8 ++ [at8 p 9]) := by
    match p, h with
    | a :: b :: c :: d :: e :: f :: g :: i :: j :: k :: r, _ => rfl
  have e9 : UInt8.ofNat (at8 p 9).toNat = at8 p 9 := by simp
  constructor
  · intro e
    rw [e10] at e
    unfold head10 at e
    rw [List.cons.injEq] at e
    refine ⟨e.1, ?_⟩
    have := (List.append_inj e.2 (by rw [h8]; rfl)).1
    rw [this, numFrom_le8 num hn]
  · rintro ⟨h0, h1⟩
    rw [e10, h0]
    unfold head10
    rw [← h1, le8_numFrom _ h8, e9]
end Go.Proofs.YtegdlpllljccgaaDoor
