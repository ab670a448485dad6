/-
  'RadixFull': groups of a unit, plain.
-/
import Derived.Test.YtfagnbjjffjcbaaGreatDoorRxMath
set_option linter.unusedSimpArgs false
set_option linter.unusedVariables false
namespace Go.Proofs.YtfagnbjjffjcbaaGreatDoor
open Go.RowKit Sh

def cntS (S : Nat → Bool) : Nat → Nat
  | 0 => 0
  | k + 1 => cntS S k + if S k then 1 else 0
def insS (g : Nat) (S : Nat → Bool) : Nat → Bool := fun j => j == g || S j
theorem cntS_le (S : Nat → Bool) : ∀ k, cntS S k ≤ k
  | 0 => Nat.le_refl _
  | k + 1 => by have := cntS_le S k; simp only [cntS]; split <;> omega
theorem cntS_ins (S : Nat → Bool) (g : Nat) : ∀ k, cntS (insS g S) k = cntS S k + if g < k ∧ S g = false then 1 else 0
  | 0 => by simp [cntS]
  | k + 1 => by
    simp only [cntS]
    rw [cntS_ins S g k]
    by_cases e : k = g
    · subst e
      have h1 : insS k S k = true := by simp [insS]
      rw [h1, if_neg (show ¬ (k < k ∧ S k = false) from fun h => absurd h.1 (Nat.lt_irrefl _))]
      cases hs : S k <;> simp
    · have h1 : insS g S k = S k := by simp [insS, e]
      rw [h1]
      by_cases h2 : g < k ∧ S g = false
      · rw [if_pos h2, if_pos (show g < k + 1 ∧ S g = false from ⟨by omega, h2.2⟩)]; omega
      · rw [if_neg h2, if_neg (show ¬ (g < k + 1 ∧ S g = false) from fun h => h2 ⟨by omega, h.2⟩)]; omega
theorem cntS_ins_in {S : Nat → Bool} {g : Nat} (h : S g = true) : cntS (insS g S) 16 = cntS S 16 := by rw [cntS_ins, if_neg (by simp [h])]; rfl
theorem cntS_ins_out {S : Nat → Bool} {g : Nat} (hg : g < 16) (h : S g = false) : cntS (insS g S) 16 = cntS S 16 + 1 := by rw [cntS_ins, if_pos ⟨hg, h⟩]
theorem cntS_pos {S : Nat → Bool} {g : Nat} (h : S g = true) : ∀ k, g < k → 1 ≤ cntS S k
  | k + 1, hk => by
    simp only [cntS]
    by_cases e : g = k
    · subst e; rw [h]; simp
    · have := cntS_pos h k (by omega); omega
/-- Just these groups of a unit have numbers. -/
def Grp (S : Nat → Bool) (lun : Nat) (v : Nat → Nat) : Prop := ∀ j, j < 64 → occ v j = (decide (j / 16 = lun) && S (j % 16))
section
variable {S : Nat → Bool} {lun : Nat} {v : Nat → Nat}
theorem Grp.cnt (h : Grp S lun v) (hl : lun < 4) : ∀ k, k ≤ 16 → cntO v lun k = cntS S k
  | 0, _ => rfl
  | k + 1, hk => by
    simp only [cntO, cntS]
    rw [h.cnt hl k (by omega), h (lun * 16 + k) (by omega), show (lun * 16 + k) / 16 = lun by omega, show (lun * 16 + k) % 16 = k by omega]
    simp
theorem Grp.cnt0 (h : Grp S lun v) {a : Nat} (ha : a < 4) (hne : a ≠ lun) : ∀ k, k ≤ 16 → cntO v a k = 0
  | 0, _ => rfl
  | k + 1, hk => by
    simp only [cntO]
    rw [h.cnt0 ha hne k (by omega), h (a * 16 + k) (by omega), show (a * 16 + k) / 16 = a by omega]
    simp [hne]
theorem Grp.taken (h : Grp S lun v) (hl : lun < 4) (hp : 1 ≤ cntS S 16) : takenO v 4 = cntS S 16 + 1 := by
  have h1 := h.cnt hl 16 (Nat.le_refl _)
  have h0 : ∀ a, a < 4 → a ≠ lun → cntO v a 16 = 0 := fun a ha hne => h.cnt0 ha hne 16 (Nat.le_refl _)
  have hT : ∀ a, a < 4 → (if cntO v a 16 = 0 then 0 else 1 + cntO v a 16) = if a = lun then 1 + cntS S 16 else 0 := fun a ha => by
    by_cases e : a = lun
    · subst e; rw [h1, if_neg (by omega), if_pos rfl]
    · rw [h0 a ha e, if_pos rfl, if_neg e]
  simp only [takenO]
  rw [hT 0 (by omega), hT 1 (by omega), hT 2 (by omega), hT 3 (by omega)]
  have : lun = 0 ∨ lun = 1 ∨ lun = 2 ∨ lun = 3 := by omega
  rcases this with rfl | rfl | rfl | rfl <;> simp <;> omega
theorem Grp.none : Grp (fun _ => false) lun (fun _ => 0) := fun j _ => by simp [occ]
theorem Grp.set (h : Grp S lun v) (hl : lun < 4) {g r y : Nat} (hg : g < 16) (hr : r < 16) (hy : y ≠ 0) : Grp (insS g S) lun (setV v (lun * 256 + (16 * g + r)) y) := fun j hj => by
  have hX : (lun * 256 + (16 * g + r)) / 16 = lun * 16 + g := by omega
  have hm : (lun * 256 + (16 * g + r)) % 16 = r := by omega
  by_cases e : j = lun * 16 + g
  · have h1 : occ (setV v (lun * 256 + (16 * g + r)) y) j = true := by
      cases ho : occ (setV v (lun * 256 + (16 * g + r)) y) j with
      | true => rfl
      | false =>
        rw [e, ← hX] at ho
        have := occ_set_eq.1 ho
        rw [hm] at this
        have h2 := congrArg (fun l => l[r]?) this
        simp only [List.getElem?_set, sixteen_len, hr, if_true, noneL, List.getElem?_replicate] at h2
        simp at h2
        exact absurd h2 hy
    rw [h1, e, show (lun * 16 + g) / 16 = lun by omega, show (lun * 16 + g) % 16 = g by omega]
    simp [insS]
  · rw [occ_set_ne (by rw [hX]; exact e), h j hj]
    by_cases e2 : j / 16 = lun
    · have h3 : j % 16 ≠ g := by omega
      have h4 : insS g S (j % 16) = S (j % 16) := by simp [insS, h3]
      rw [h4]
    · simp [e2]
end
end Go.Proofs.YtfagnbjjffjcbaaGreatDoor
