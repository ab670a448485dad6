/-
  What the laws on forests share: a commit, numbers within limits.
-/
import Derived.Test.YtfagnbjjffjcbaaGreatDoorRxCall
set_option linter.unusedSimpArgs false
set_option linter.unusedVariables false
namespace Go.Proofs.YtfagnbjjffjcbaaGreatDoor
open Go.RowKit Sh Go.Maps Go.Extern.Stop Go.Stop Go.Extern

theorem cntO_le (v : Nat → Nat) (a : Nat) : ∀ k, cntO v a k ≤ k
  | 0 => Nat.le_refl _
  | k + 1 => by have := cntO_le v a k; simp only [cntO]; split <;> omega
theorem takenO_le (v : Nat → Nat) : ∀ k, takenO v k ≤ 17 * k
  | 0 => Nat.le_refl _
  | k + 1 => by have := takenO_le v k; have := cntO_le v k 16; simp only [takenO]; split <;> omega
theorem rx_mod (x : Int) (n : Nat) (h0 : 0 < n) (hn : n ≤ 2000) : ∃ (s : Int) (i r : Nat), x.tmod (n : Int) = s ∧ wrap64 (s + (n : Int)) = (r : Int) ∧ (r : Int).tmod (n : Int) = (i : Int) ∧ i < n := by
  have t1 := Int.tmod_lt_of_pos x (show (0 : Int) < (n : Int) by omega)
  have t2 : -(n : Int) < x.tmod (n : Int) := Int.lt_tmod_of_pos x (by omega)
  obtain ⟨s, hs⟩ : ∃ s : Int, x.tmod (n : Int) = s := ⟨_, rfl⟩
  rw [hs] at t1 t2
  refine ⟨s, (s + n).toNat % n, (s + n).toNat, hs, ?_, ?_, Nat.mod_lt _ h0⟩
  · rw [IntWalk.wrap64_in _ (by omega)]; omega
  · rw [Int.tmod_eq_emod_of_nonneg (by omega), Int.natCast_emod]
section
variable {b : Bk} {gd g first n x D c : Nat} {T : List (Nat × Obj)} {w0 w : World} {v : Nat → Nat}
theorem OwnX.commFo (h : OwnX b gd g T w0 w) (hF : Fo b first n v) (hc : Co b D c) (h9 : c ≤ 1400) (ht : b.txn.length ≤ 4) :
    ∃ b', Fo b' first n v ∧ Co b' D (c + 1) ∧ b'.txn = [] ∧ Calls Tryz.prog 20 #[.pointer (some ⟨g, 0, none⟩)] w (OwnXP b' 0 gd g T w0) := by
  obtain ⟨b', k, hF', hc', ht'⟩ := hF.comm hc h9 ht
  have := hc.ats
  have hx := h.commit hF.ok (by omega)
  rw [k.c] at hx
  exact ⟨b', hF', hc', ht', hx⟩
/-- A book without a transaction. -/
theorem txn_same (h : b.txn = []) : ({ b with txn := [] } : Bk) = b := by
  cases b
  simp only at h
  rw [h]
end
end Go.Proofs.YtfagnbjjffjcbaaGreatDoor
