/-
  Depot: what is put and dropped, plain.
-/
import Derived.Test.YtjkkbceddbkejaaGreatDoorDpSlice
set_option linter.unusedSimpArgs false
set_option linter.unusedVariables false
namespace Go.Proofs.YtjkkbceddbkejaaGreatDoor
open Go.RowKit Sh Go.Maps Go.Extern.Stop Go.Stop Go.Extern

theorem dp_mod (x : Int) (n : Nat) (h0 : 0 < n) (hn : n ≤ 2000) : ∃ (s : Int) (i r : Nat), x.tmod (n : Int) = s ∧ wrap64 (s + (n : Int)) = (r : Int) ∧ (r : Int).tmod (n : Int) = (i : Int) ∧ i < n := by
  have t1 := Int.tmod_lt_of_pos x (show (0 : Int) < (n : Int) by omega)
  have t2 : -(n : Int) < x.tmod (n : Int) := Int.lt_tmod_of_pos x (by omega)
  obtain ⟨s, hs⟩ : ∃ s : Int, x.tmod (n : Int) = s := ⟨_, rfl⟩
  rw [hs] at t1 t2
  refine ⟨s, (s + n).toNat % n, (s + n).toNat, hs, ?_, ?_, Nat.mod_lt _ h0⟩
  · rw [IntWalk.wrap64_in _ (by omega)]; omega
  · rw [Int.tmod_eq_emod_of_nonneg (by omega), Int.natCast_emod]
theorem txn_same {b : Bk} (h : b.txn = []) : ({ b with txn := [] } : Bk) = b := by
  cases b
  simp only at h
  rw [h]
section
variable {b : Bk} {gd g first n x D c : Nat} {T : List (Nat × Obj)} {w0 w : World} {hs : List (List UInt8)} {bl : Nat → List UInt8}
theorem OwnX.commDe (h : OwnX b gd g T w0 w) (hF : De b first n hs bl) (hc : Co b D c) (h9 : c ≤ 1400) (ht : b.txn.length ≤ 4) :
    ∃ b', De b' first n hs bl ∧ Co b' D (c + 1) ∧ b'.txn = [] ∧ Calls Tryz.prog 20 #[.pointer (some ⟨g, 0, none⟩)] w (OwnXP b' 0 gd g T w0) := by
  obtain ⟨b', k, hF', hc', ht'⟩ := hF.comm hc h9 ht
  have := hc.ats
  have hx := h.commit hF.ok (by omega)
  rw [k.c] at hx
  exact ⟨b', hF', hc', ht', hx⟩
end
/-! Counts of a marked slot. -/
theorem cnt_live {hs : List (List UInt8)} (H : ∀ h ∈ hs, Hd h) {s : Nat} (hs4 : s / 4 < hs.length) (hf : (hs.getD (s / 4) [])[s % 4]? = some 0) : cntA 0 (markL hs s 1) + 1 = cntA 0 hs := by
  have h1 := cntA_set (c := 0) (h' := normH ((hs.getD (s / 4) []).set (s % 4) 1)) (getD_mem hs4).2
  rw [mark_live H hs4] at h1
  have h2 := count_set (c := 0) (a := 1) hf
  simp only [if_pos, show ¬ ((1 : UInt8) = 0) from by decide, if_false] at h2
  unfold markL
  rw [mark_live H hs4]
  omega
theorem cntA_none {hs : List (List UInt8)} (H : ∀ h ∈ hs, Hd h) (h0 : ∀ r, r < 4 * hs.length → stS hs r ≠ 1) : cntA 1 hs = 0 ∧ cntA 2 hs = 0 ∧ cntA 0 hs = 4 * hs.length := by
  have hz : ∀ h ∈ hs, h = z4 := fun h hh => by
    obtain ⟨k, hk⟩ := List.mem_iff_getElem?.1 hh
    have hlt := (List.getElem?_eq_some_iff.1 hk).1
    refine (H h hh).norm ?_
    rw [List.count_eq_zero]
    intro hm
    obtain ⟨i, hi⟩ := List.mem_iff_getElem?.1 hm
    have hi4 : i < 4 := by rw [← (H h hh).len]; exact (List.getElem?_eq_some_iff.1 hi).1
    refine h0 (k * 4 + i) (by omega) ?_
    unfold stS
    rw [show (k * 4 + i) / 4 = k by omega, show (k * 4 + i) % 4 = i by omega, List.getD_eq_getElem?_getD (l := hs), hk, Option.getD_some, List.getD_eq_getElem?_getD, hi]; rfl
  have h1 : cntA 1 hs = 0 := cntA_zero.2 fun h hh => by rw [hz h hh]; decide
  have h2 : cntA 2 hs = 0 := cntA_zero.2 fun h hh => by rw [hz h hh]; decide
  have := cntA_total H
  exact ⟨h1, h2, by omega⟩
/-- What was put, one behind the other. -/
def pg2 (a c : UInt8) : List UInt8 := a :: c :: List.replicate 62 0
theorem pg2_len (a c : UInt8) : (pg2 a c).length = 64 := rfl
theorem pg2_v (a c : UInt8) : pageV (pg2 a c) = .agg (page2 a c).toArray := rfl
structure Fill (hs : List (List UInt8)) (bl : Nat → List UInt8) (n : Nat) (L : List Nat) : Prop where
  hd : ∀ h ∈ hs, Hd h
  len : hs.length = n
  low : ∀ s ∈ L, s < 4 * n
  nodup : L.Nodup
  live : ∀ r, r < 4 * n → (stS hs r = 1 ↔ r ∈ L)
  cnt : cntA 0 hs + L.length = 4 * n
  blk : ∀ k s, L[k]? = some s → bl s = pg2 (UInt8.ofNat k) 1
theorem Fill.zero (n : Nat) (bl : Nat → List UInt8) : Fill (List.replicate n z4) bl n [] := by
  have H : ∀ h ∈ List.replicate n z4, Hd h := fun h hh => by rw [(List.mem_replicate.1 hh).2]; exact z4_hd
  have hst : ∀ r, r < 4 * n → stS (List.replicate n z4) r ≠ 1 := fun r hr => by
    unfold stS
    rw [List.getD_eq_getElem?_getD (l := List.replicate n z4), List.getElem?_replicate, if_pos (by omega), Option.getD_some, getD_z4]
    decide
  have hc := cntA_none H (fun r hr => hst r (by rw [List.length_replicate] at hr; exact hr))
  refine ⟨H, List.length_replicate, fun s hs => by simp at hs, List.nodup_nil, fun r hr => ⟨fun h => absurd h (hst r hr), fun h => by simp at h⟩, ?_, fun k s h => by simp at h⟩
  rw [hc.2.2, List.length_replicate]; simp
theorem Fill.full {hs : List (List UInt8)} {bl : Nat → List UInt8} {n : Nat} {L : List Nat} (h : Fill hs bl n L) : roomL (-1) hs = none ↔ L.length = 4 * n := by
  rw [room_none]; have := h.cnt; omega
theorem Fill.put {hs : List (List UInt8)} {bl : Nat → List UInt8} {n : Nat} {L : List Nat} (h : Fill hs bl n L) {s : Nat} (hr : roomL (-1) hs = some s) : Fill (markL hs s 1) (updP bl s (pg2 (UInt8.ofNat L.length) 1)) n (L ++ [s]) := by
  obtain ⟨h4, _, hf⟩ := room_some h.hd hr
  have hs4 : s < 4 * n := by have := h.len; omega
  have hst : stS hs s = 0 := by
    have := stS_get h.hd h4
    rw [hf] at this
    exact (Option.some.inj this).symm
  have hnot : s ∉ L := fun hm => by
    have := (h.live s hs4).2 hm
    rw [hst] at this
    exact absurd this (by decide)
  refine ⟨markL_hd h.hd h4 (by simp), by rw [markL_len]; exact h.len, fun r hr' => ?_, ?_, fun r hr' => ?_, ?_, fun k r hk => ?_⟩
  · rcases List.mem_append.1 hr' with h1 | h1
    · exact h.low r h1
    · rw [List.mem_singleton.1 h1]; exact hs4
  · rw [List.nodup_append]
    refine ⟨h.nodup, by simp, fun a ha b hb => ?_⟩
    rw [List.mem_singleton.1 hb]
    intro e; subst e; exact hnot ha
  · by_cases e : r = s
    · subst e
      rw [st_live_self h.hd h4]; simp
    · rw [st_live_other h.hd h4 e, h.live r hr']
      simp [e]
  · have := cnt_live h.hd h4 hf
    have := h.cnt
    rw [List.length_append, List.length_singleton]; omega
  · unfold updP
    by_cases hk2 : k < L.length
    · rw [List.getElem?_append_left hk2] at hk
      have hm := List.mem_of_getElem? hk
      rw [if_neg (show ¬ r = s from fun e => hnot (by rw [← e]; exact hm))]
      exact h.blk k r hk
    · rw [List.getElem?_append_right (by omega)] at hk
      have h0 : k - L.length = 0 := by
        have := (List.getElem?_eq_some_iff.1 hk).1
        simp at this; omega
      rw [h0] at hk
      have e : s = r := by simpa using hk
      rw [if_pos e.symm, show k = L.length by omega]
/-- What is left, while all is dropped. -/
structure Drops (hs : List (List UInt8)) (n : Nat) (L : List Nat) (k : Nat) : Prop where
  hd : ∀ h ∈ hs, Hd h
  len : hs.length = n
  live : ∀ r, r < 4 * n → (stS hs r = 1 ↔ r ∈ L.drop k)
theorem Drops.zero {hs : List (List UInt8)} {bl : Nat → List UInt8} {n : Nat} {L : List Nat} (h : Fill hs bl n L) : Drops hs n L 0 := ⟨h.hd, h.len, fun r hr => by rw [List.drop_zero]; exact h.live r hr⟩
theorem Drops.next {hs : List (List UInt8)} {n : Nat} {L : List Nat} {k s : Nat} (h : Drops hs n L k) (hn : L.Nodup) (hl : ∀ s ∈ L, s < 4 * n) (hk : L[k]? = some s) : stS hs s = 1 ∧ s < 4 * n ∧ Drops (markL hs s 2) n L (k + 1) := by
  obtain ⟨hlt, e⟩ := List.getElem?_eq_some_iff.1 hk
  have hm : s ∈ L := List.mem_of_getElem? hk
  have hs4 := hl s hm
  have h4 : s / 4 < hs.length := by have := h.len; omega
  have hd : L.drop k = s :: L.drop (k + 1) := by rw [List.drop_eq_getElem_cons hlt, e]
  have hnd : s ∉ L.drop (k + 1) := by
    have : (L.drop k).Nodup := hn.sublist (List.drop_sublist k L)
    rw [hd] at this
    exact (List.nodup_cons.1 this).1
  refine ⟨(h.live s hs4).2 (by rw [hd]; simp), hs4, markL_hd h.hd h4 (by simp), by rw [markL_len]; exact h.len, fun r hr => ?_⟩
  rw [st_dead h.hd h4, h.live r hr, hd, List.mem_cons]
  constructor
  · rintro ⟨h1, h2⟩; exact h1.resolve_left h2
  · intro h1; exact ⟨.inr h1, fun e => hnd (e ▸ h1)⟩
theorem Drops.done {hs : List (List UInt8)} {n : Nat} {L : List Nat} (h : Drops hs n L L.length) : cntA 1 hs = 0 ∧ cntA 2 hs = 0 ∧ cntA 0 hs = 4 * n := by
  have := cntA_none h.hd (fun r hr => fun e => by
    have := (h.live r (by rw [← h.len]; exact hr)).1 e
    rw [List.drop_length] at this; simp at this)
  rw [h.len] at this
  exact this
end Go.Proofs.YtjkkbceddbkejaaGreatDoor
