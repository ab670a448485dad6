/-
  bytes that no row names (plain).
-/
import Derived.Test.YtehhhbehclpkbaaCdMath
set_option linter.unusedSimpArgs false
set_option linter.unusedVariables false
namespace Go.Proofs.Ytehhhbehclpkbaa
open Go.RowKit Sh Cd

theorem be_same {B C : List UInt8} (hB : B.length = 16) (hC : C.length = 16) (i n : Nat) (hi : i + n ≤ 16) (h : ∀ j, i ≤ j → j < i + n → at8 B j = at8 C j) : be B i n = be C i n := by
  unfold be
  congr 1
  apply List.ext_getElem (by simp [hB, hC])
  intro k h1 h2
  have hk : k < n := by simp at h1; omega
  have := h (i + k) (by omega) (by omega)
  rw [at8, at8, List.getD_eq_getElem?_getD, List.getD_eq_getElem?_getD, List.getElem?_eq_getElem (by omega), List.getElem?_eq_getElem (by omega)] at this
  simpa using this
theorem b8_same {B C : List UInt8} {i : Nat} (h : at8 B i = at8 C i) : b8 B i = b8 C i := by unfold b8; rw [h]
theorem same_0 {B C : List UInt8} (hB : B.length = 16) (hC : C.length = 16) (ho : b8 B 0 = 0) (h0 : at8 B 0 = at8 C 0) : rowC B = rowC C ∧ decT B = decT C := by
  have ho2 : b8 C 0 = 0 := (b8_same h0).symm.trans ho
  have hc : rowC B = rowC C := by simp [rowC, ho, ho2, inqC, ordC, unmC]
  have ht : rowT B = rowT C := by simp [rowT, ho, ho2, inqT, ordT, unmT]
  exact ⟨hc, by unfold decT; rw [hc, ht]⟩
theorem same_18 {B C : List UInt8} (hB : B.length = 16) (hC : C.length = 16) (ho : b8 B 0 = 18) (h0 : at8 B 0 = at8 C 0) (h1 : at8 B 1 = at8 C 1) (h2 : at8 B 2 = at8 C 2) (h3 : at8 B 3 = at8 C 3) (h4 : at8 B 4 = at8 C 4) : rowC B = rowC C ∧ decT B = decT C := by
  have ho2 : b8 C 0 = 18 := (b8_same h0).symm.trans ho
  have e1 := be_same hB hC 3 2 (by omega) (fun j h1 h2 => by
    rcases (by omega : j = 3 ∨ j = 4) with rfl | rfl
    · exact h3
    · exact h4
    )
  have f1 := b8_same h1
  have f2 := b8_same h2
  have hc : rowC B = rowC C := by simp [rowC, ho, ho2, inqC, ordC, unmC, e1, f1, f2]
  have ht : rowT B = rowT C := by simp [rowT, ho, ho2, inqT, ordT, unmT, e1, f1, f2]
  exact ⟨hc, by unfold decT; rw [hc, ht]⟩
theorem same_37 {B C : List UInt8} (hB : B.length = 16) (hC : C.length = 16) (ho : b8 B 0 = 37) (h0 : at8 B 0 = at8 C 0) : rowC B = rowC C ∧ decT B = decT C := by
  have ho2 : b8 C 0 = 37 := (b8_same h0).symm.trans ho
  have hc : rowC B = rowC C := by simp [rowC, ho, ho2, inqC, ordC, unmC]
  have ht : rowT B = rowT C := by simp [rowT, ho, ho2, inqT, ordT, unmT]
  exact ⟨hc, by unfold decT; rw [hc, ht]⟩
theorem same_158 {B C : List UInt8} (hB : B.length = 16) (hC : C.length = 16) (ho : b8 B 0 = 158) (h0 : at8 B 0 = at8 C 0) (h1 : at8 B 1 = at8 C 1) (h10 : at8 B 10 = at8 C 10) (h11 : at8 B 11 = at8 C 11) (h12 : at8 B 12 = at8 C 12) (h13 : at8 B 13 = at8 C 13) : rowC B = rowC C ∧ decT B = decT C := by
  have ho2 : b8 C 0 = 158 := (b8_same h0).symm.trans ho
  have e1 := be_same hB hC 10 4 (by omega) (fun j h1 h2 => by
    rcases (by omega : j = 10 ∨ j = 11 ∨ j = 12 ∨ j = 13) with rfl | rfl | rfl | rfl
    · exact h10
    · exact h11
    · exact h12
    · exact h13
    )
  have f1 := b8_same h1
  have hc : rowC B = rowC C := by simp [rowC, ho, ho2, inqC, ordC, unmC, e1, f1]
  have ht : rowT B = rowT C := by simp [rowT, ho, ho2, inqT, ordT, unmT, e1, f1]
  exact ⟨hc, by unfold decT; rw [hc, ht]⟩
theorem same_160 {B C : List UInt8} (hB : B.length = 16) (hC : C.length = 16) (ho : b8 B 0 = 160) (h0 : at8 B 0 = at8 C 0) (h2 : at8 B 2 = at8 C 2) (h6 : at8 B 6 = at8 C 6) (h7 : at8 B 7 = at8 C 7) (h8 : at8 B 8 = at8 C 8) (h9 : at8 B 9 = at8 C 9) : rowC B = rowC C ∧ decT B = decT C := by
  have ho2 : b8 C 0 = 160 := (b8_same h0).symm.trans ho
  have e1 := be_same hB hC 6 4 (by omega) (fun j h1 h2 => by
    rcases (by omega : j = 6 ∨ j = 7 ∨ j = 8 ∨ j = 9) with rfl | rfl | rfl | rfl
    · exact h6
    · exact h7
    · exact h8
    · exact h9
    )
  have f2 := b8_same h2
  have hc : rowC B = rowC C := by simp [rowC, ho, ho2, inqC, ordC, unmC, e1, f2]
  have ht : rowT B = rowT C := by simp [rowT, ho, ho2, inqT, ordT, unmT, e1, f2]
  exact ⟨hc, by unfold decT; rw [hc, ht]⟩
theorem same_94 {B C : List UInt8} (hB : B.length = 16) (hC : C.length = 16) (ho : b8 B 0 = 94) (h0 : at8 B 0 = at8 C 0) (h1 : at8 B 1 = at8 C 1) (h7 : at8 B 7 = at8 C 7) (h8 : at8 B 8 = at8 C 8) : rowC B = rowC C ∧ decT B = decT C := by
  have ho2 : b8 C 0 = 94 := (b8_same h0).symm.trans ho
  have e1 := be_same hB hC 7 2 (by omega) (fun j h1 h2 => by
    rcases (by omega : j = 7 ∨ j = 8) with rfl | rfl
    · exact h7
    · exact h8
    )
  have f1 := b8_same h1
  have hc : rowC B = rowC C := by simp [rowC, ho, ho2, inqC, ordC, unmC, e1, f1]
  have ht : rowT B = rowT C := by simp [rowT, ho, ho2, inqT, ordT, unmT, e1, f1]
  exact ⟨hc, by unfold decT; rw [hc, ht]⟩
theorem same_95 {B C : List UInt8} (hB : B.length = 16) (hC : C.length = 16) (ho : b8 B 0 = 95) (h0 : at8 B 0 = at8 C 0) (h1 : at8 B 1 = at8 C 1) (h2 : at8 B 2 = at8 C 2) (h5 : at8 B 5 = at8 C 5) (h6 : at8 B 6 = at8 C 6) (h7 : at8 B 7 = at8 C 7) (h8 : at8 B 8 = at8 C 8) : rowC B = rowC C ∧ decT B = decT C := by
  have ho2 : b8 C 0 = 95 := (b8_same h0).symm.trans ho
  have e1 := be_same hB hC 5 4 (by omega) (fun j h1 h2 => by
    rcases (by omega : j = 5 ∨ j = 6 ∨ j = 7 ∨ j = 8) with rfl | rfl | rfl | rfl
    · exact h5
    · exact h6
    · exact h7
    · exact h8
    )
  have f1 := b8_same h1
  have f2 := b8_same h2
  have hc : rowC B = rowC C := by simp [rowC, ho, ho2, inqC, ordC, unmC, e1, f1, f2]
  have ht : rowT B = rowT C := by simp [rowT, ho, ho2, inqT, ordT, unmT, e1, f1, f2]
  exact ⟨hc, by unfold decT; rw [hc, ht]⟩
theorem same_66 {B C : List UInt8} (hB : B.length = 16) (hC : C.length = 16) (ho : b8 B 0 = 66) (h0 : at8 B 0 = at8 C 0) (h7 : at8 B 7 = at8 C 7) (h8 : at8 B 8 = at8 C 8) : rowC B = rowC C ∧ decT B = decT C := by
  have ho2 : b8 C 0 = 66 := (b8_same h0).symm.trans ho
  have e1 := be_same hB hC 7 2 (by omega) (fun j h1 h2 => by
    rcases (by omega : j = 7 ∨ j = 8) with rfl | rfl
    · exact h7
    · exact h8
    )
  have hc : rowC B = rowC C := by simp [rowC, ho, ho2, inqC, ordC, unmC, e1]
  have ht : rowT B = rowT C := by simp [rowT, ho, ho2, inqT, ordT, unmT, e1]
  exact ⟨hc, by unfold decT; rw [hc, ht]⟩
end Go.Proofs.Ytehhhbehclpkbaa
