/-
  Depot: what is put and dropped, plain.
-/
import Derived.Test.YtjkkbceddbkejaaGreatDoorDpSlice
set_option linter.unusedSimpArgs false
set_option linter.unusedVariables false
namespace Go.Proofs.YtjkkbceddbkejaaGreatDoor
open Go.RowKit Sh Go.Maps Go.Extern.Stop Go.Stop Go.Extern

theorem dp_mod (x : Int) (n : Nat) (h0 : 0 < n) (hn : n ≤ 2000) : ∃ (s : Int) (i r : Nat), x.tmod (n : Int) = s ∧ wrap64 (s + (n : Int)) = (r : Int) ∧ (r : Int).tmod (n : Int) = (i : Int) ∧ i < n := by
  have t1 := Int.tmod_lt_of_pos x (show (0 : Int) < (n : Int) by omega)
  have t2 : -(n : Int) < x.tmod (n : Int) := Int.lt_tmod_of_pos x (by omega)
  obtain ⟨s, hs⟩ : ∃ s : Int, x.tmod (n : Int) = s := ⟨_, rfl⟩
  rw [hs] at t1 t2
  refine ⟨s, (s + n).toNat % n, (s + n).toNat, hs, ?_, ?_, Nat.mod_lt _ h0⟩
  · rw [IntWalk.wrap64_in _ (by omega)]; omega
  · rw [Int.tmod_eq_emod_of_nonneg (by omega), Int.natCast_emod]
theorem txn_same {b : Bk} (h : b.txn = []) : ({ b with txn := [] } : Bk) = b := by
  cases b
  simp only at h
  rw [h]
section
variable {b : Bk} {gd g first n x D c : Nat} {T : List (Nat × Obj)} {w0 w : World} {hs : List (List UInt8)} {bl : Nat → List UInt8}
theorem OwnX.commDe (h : OwnX b gd g T w0 w) (hF : De b first n hs bl) (hc : Co b D c) (h9 : c ≤ 1400) (ht : b.txn.length ≤ 4) :
    ∃ b', De b' first n hs bl ∧ Co b' D (c + 1) ∧ b'.txn = [] ∧ Calls Tryz.prog 20 #[.pointer (some ⟨g, 0, none⟩)] w (OwnXP b' 0 gd g T w0) := by
  obtain ⟨b', k, hF', hc', ht'⟩ := hF.comm hc h9 ht
  have := hc.ats
  have hx := h.commit hF.ok (by omega)
  rw [k.c] at hx
  exact ⟨b', hF', hc', ht', hx⟩
end
/-! Counts of a marked slot. -/
theorem cnt_live {hs : List (List UInt8)} (H : ∀ h ∈ hs, Hd h) {s : Nat} (hs4 : s / 4 < hs.length) (hf : (hs.getD (s / 4) [])[s % 4]? = some 0) : cntA 0 (markL hs s 1) + 1 = cntA 0 hs := by
  have h1 := cntA_set (c := 0) (h' := normH ((hs.getD (s / 4) []).set (s % 4) 1)) (getD_mem hs4).2
  rw [mark_live H hs4] at h1
  have h2 := count_set (c := 0) (a := 1) hf
  simp only [if_pos, show ¬ ((1 : UInt8) = 0) from by decide, if_false] at h2
  unfold markL
  rw [mark_live H hs4]
  omega
theorem cntA_none {hs : List (List UInt8)} (H : ∀ h ∈ hs, Hd h) (h0 : ∀ r, r < 4 * hs.length → stS hs r ≠ 1) : cntA 1 hs = 0 ∧ cntA 2 hs = 0 ∧ cntA 0 hs = 4 * hs.length := by
  have hz : ∀ h ∈ hs, h = z4 := fun h hh => by
    obtain ⟨k, hk⟩ := List.mem_iff_getElem?.1 hh
    have hlt := (List.getElem?_eq_some_iff.1 hk).1
    refine (H h hh).norm ?_
    rw [List.count_eq_zero]
    intro hm
    obtain ⟨i, hi⟩ := List.mem_iff_getElem?.1 hm
    have hi4 : i < 4 := by rw [← (H h hh).len]; exact (List.getElem?_eq_some_iff.1 hi).1
    refine h0 (k * 4 + i) (by omega) ?_
    unfold stS
    rw [show (k * 4 + i) / 4 = k by omega, show (k * 4 + i) % 4 = i by omega, List.getD_eq_getElem?_getD (l := hs), hk, Option.getD_some, List.getD_eq_getElem?_getD, hi]; rfl
  have h1 : cntA 1 hs = 0 := cntA_zero.2 fun h hh => by rw [hz h hh]; decide
  have h2 : cntA 2 hs = 0 := cntA_zero.2 fun h hh => by rw [hz h hh]; decide
  have := cntA_total H
  exact ⟨h1, h2, by omega⟩
/-- What was put, one behind the other. -/
def pg2 (a c : UInt8) : List UInt8 := a :: c :: List.replicate 62 0
theorem pg2_len (a c : UInt8) : (pg2 a c).length = 64 := rfl
theorem pg2_v (a c : UInt8) : pageV (pg2 a c) = .agg (page2 a c).toArray := rfl
end Go.Proofs.YtjkkbceddbkejaaGreatDoor
