/-
  'DepotMoves', plain: what lies in a depot whose blocks are moved.
-/
import Derived.Test.YtmkkooccokifnaaGreatDoorDpFillsM
set_option linter.unusedSimpArgs false
set_option linter.unusedVariables false
namespace Go.Proofs.YtmkkooccokifnaaGreatDoor
open Go.RowKit Sh

theorem norm_count1 (h : List UInt8) : (normH h).count 1 = h.count 1 := by
  unfold normH
  split
  · rename_i h0; rw [h0]; decide
  · rfl
theorem norm_count0 (h : List UInt8) (h0 : h.count 1 ≠ 0) (c : UInt8) : (normH h).count c = h.count c := by
  unfold normH; rw [if_neg h0]
/-- How many slots are live behind a mark. -/
theorem cnt1_mark {hs : List (List UInt8)} (H : ∀ h ∈ hs, Hd h) {s : Nat} (hs4 : s / 4 < hs.length) (st : UInt8) : cntA 1 (markL hs s st) + (if stS hs s = 1 then 1 else 0) = cntA 1 hs + (if st = 1 then 1 else 0) := by
  have h1 := cntA_set (c := 1) (h' := normH ((hs.getD (s / 4) []).set (s % 4) st)) (getD_mem hs4).2
  rw [norm_count1] at h1
  have h2 := count_set (c := 1) (a := st) (stS_get H hs4)
  have e : cntA 1 (markL hs s st) = cntA 1 (hs.set (s / 4) (normH ((hs.getD (s / 4) []).set (s % 4) st))) := rfl
  rw [e]
  omega
/-- A slot that becomes live leaves the dead ones. -/
theorem cnt2_live {hs : List (List UInt8)} (H : ∀ h ∈ hs, Hd h) {s : Nat} (hs4 : s / 4 < hs.length) (hf : (hs.getD (s / 4) [])[s % 4]? = some 0) : cntA 2 (markL hs s 1) = cntA 2 hs := by
  have h1 := cntA_set (c := 2) (h' := normH ((hs.getD (s / 4) []).set (s % 4) 1)) (getD_mem hs4).2
  rw [mark_live H hs4] at h1
  have h2 := count_set (c := 2) (a := 1) hf
  simp only [show ¬ ((0 : UInt8) = 2) from by decide, show ¬ ((1 : UInt8) = 2) from by decide, if_false] at h2
  have e : cntA 2 (markL hs s 1) = cntA 2 (hs.set (s / 4) (normH ((hs.getD (s / 4) []).set (s % 4) 1))) := rfl
  rw [e, mark_live H hs4]
  omega
def updG (f : Nat → Nat) (i p : Nat) : Nat → Nat := fun j => if j = i then p else f j
/-- The blocks 1 to i lie in the slots that f tells, and no other one is live. -/
structure Mv (hs : List (List UInt8)) (bl : Nat → List UInt8) (n i : Nat) (f : Nat → Nat) : Prop where
  hd : ∀ h ∈ hs, Hd h
  len : hs.length = n
  low : ∀ j, j < i → f j < 4 * n
  live : ∀ j, j < i → stS hs (f j) = 1
  blk : ∀ j, j < i → bl (f j) = pg1 (UInt8.ofNat (j + 1))
  inj : ∀ j k, j < i → k < i → f j = f k → j = k
  cnt : cntA 1 hs = i
theorem Mv.zero (n : Nat) (bl : Nat → List UInt8) (f : Nat → Nat) : Mv (List.replicate n z4) bl n 0 f ∧ cntA 2 (List.replicate n z4) = 0 := by
  have H : ∀ h ∈ List.replicate n z4, Hd h := fun h hh => by rw [List.eq_of_mem_replicate hh]; exact z4_hd
  have hc := cntA_none H (fun r hr => by
    have e : (List.replicate n z4).getD (r / 4) [] = z4 := by
      rw [List.getD_eq_getElem?_getD, List.getElem?_replicate, if_pos (by simp at hr; omega), Option.getD_some]
    unfold stS
    rw [e, getD_z4]
    decide)
  exact ⟨⟨H, by simp, fun j h => by omega, fun j h => by omega, fun j h => by omega, fun j k h => by omega, hc.1⟩, hc.2.1⟩
theorem Mv.room {hs : List (List UInt8)} {bl : Nat → List UInt8} {n i : Nat} {f : Nat → Nat} (h : Mv hs bl n i f) (hd : cntA 2 hs = 0) (hi : i < 4 * n) : ∃ s, roomL (-1) hs = some s := by
  cases hr : roomL (-1) hs with
  | some s => exact ⟨s, rfl⟩
  | none =>
    have h0 := room_none.1 hr
    have ht := cntA_total h.hd
    have h1 := h.cnt
    have hl := h.len
    omega
theorem free_not {hs : List (List UInt8)} (H : ∀ h ∈ hs, Hd h) {s : Nat} (hs4 : s / 4 < hs.length) (hf : (hs.getD (s / 4) [])[s % 4]? = some 0) : stS hs s = 0 := by
  have := stS_get H hs4
  rw [hf] at this
  exact (Option.some.inj this).symm
theorem Mv.put {hs : List (List UInt8)} {bl : Nat → List UInt8} {n i s : Nat} {f : Nat → Nat} (h : Mv hs bl n i f) (hd : cntA 2 hs = 0) (hr : roomL (-1) hs = some s) :
    Mv (markL hs s 1) (updP bl s (pg1 (UInt8.ofNat (i + 1)))) n (i + 1) (updG f i s) ∧ cntA 2 (markL hs s 1) = 0 := by
  obtain ⟨hs4, _, hf⟩ := room_some h.hd hr
  have h0 := free_not h.hd hs4 hf
  have hne : ∀ j, j < i → f j ≠ s := fun j hj e => by
    have := h.live j hj
    rw [e, h0] at this
    exact absurd this (by decide)
  have hl := h.len
  refine ⟨⟨markL_hd h.hd hs4 (by simp), by rw [markL_len]; exact h.len, fun j hj => ?_, fun j hj => ?_, fun j hj => ?_, fun j k hj hk => ?_, ?_⟩, by rw [cnt2_live h.hd hs4 hf]; exact hd⟩
  · unfold updG; split
    · omega
    · exact h.low j (by omega)
  · unfold updG; split
    · exact st_live_self h.hd hs4
    · rw [st_live_other h.hd hs4 (hne j (by omega))]; exact h.live j (by omega)
  · unfold updG updP; split
    · rename_i e; rw [if_pos rfl, e]
    · rw [if_neg (hne j (by omega))]; exact h.blk j (by omega)
  · unfold updG
    split
    · split
      · intro _; omega
      · intro e; exact absurd e.symm (hne k (by omega))
    · split
      · intro e; exact absurd e (hne j (by omega))
      · exact h.inj j k (by omega) (by omega)
  · have := cnt1_mark h.hd hs4 1
    rw [h0, h.cnt] at this
    simpa using this
/-- A move: the new slot lies in another container, the old one is live no more. -/
theorem Mv.move {hs : List (List UInt8)} {bl : Nat → List UInt8} {n i j r : Nat} {f : Nat → Nat} (h : Mv hs bl n i f) (hj : j < i) (hr : roomL ((f j / 4 : Nat) : Int) hs = some r) :
    Mv (markL (markL hs r 1) (f j) 2) (updP bl r (bl (f j))) n i (updG f j r) ∧ r / 4 ≠ f j / 4 ∧ stS (markL (markL hs r 1) (f j) 2) (f j) ≠ 1 ∧ r < 4 * n := by
  obtain ⟨hr4, hnb, hf⟩ := room_some h.hd hr
  have h0 := free_not h.hd hr4 hf
  have hne : ∀ k, k < i → f k ≠ r := fun k hk e => by
    have := h.live k hk
    rw [e, h0] at this
    exact absurd this (by decide)
  have hl := h.len
  have hj4 : f j / 4 < (markL hs r 1).length := by rw [markL_len]; have := h.low j hj; omega
  have H1 : ∀ x ∈ markL hs r 1, Hd x := markL_hd h.hd hr4 (by simp)
  have hdd : r / 4 ≠ f j / 4 := by omega
  have hst : ∀ x, stS (markL (markL hs r 1) (f j) 2) x = 1 ↔ stS (markL hs r 1) x = 1 ∧ x ≠ f j := fun x => st_dead H1 hj4 x
  refine ⟨⟨markL_hd H1 hj4 (by simp), by rw [markL_len, markL_len]; exact h.len, fun k hk => ?_, fun k hk => ?_, fun k hk => ?_, fun k q hk hq => ?_, ?_⟩, hdd, fun e => ((hst _).1 e).2 rfl, by omega⟩
  · unfold updG; split
    · omega
    · exact h.low k hk
  · unfold updG; split
    · exact (hst r).2 ⟨st_live_self h.hd hr4, fun e => hne j hj e.symm⟩
    · rename_i hkj
      exact (hst _).2 ⟨by rw [st_live_other h.hd hr4 (hne k hk)]; exact h.live k hk, fun e => hkj (h.inj k j hk hj e)⟩
  · unfold updG updP; split
    · rename_i e; subst e; rw [if_pos rfl]; exact h.blk k hk
    · rw [if_neg (hne k hk)]; exact h.blk k hk
  · unfold updG
    split
    · split
      · intro _; omega
      · intro e; exact absurd e.symm (hne q hq)
    · split
      · intro e; exact absurd e (hne k hk)
      · exact h.inj k q hk hq
  · have c1 := cnt1_mark h.hd hr4 1
    have c2 := cnt1_mark H1 hj4 2
    have hlj : stS (markL hs r 1) (f j) = 1 := by rw [st_live_other h.hd hr4 (hne j hj)]; exact h.live j hj
    rw [h0, h.cnt] at c1
    rw [hlj] at c2
    simp only [show ¬ ((0 : UInt8) = 1) from by decide, show ¬ ((2 : UInt8) = 1) from by decide, if_false, if_true] at c1 c2
    omega
end Go.Proofs.YtmkkooccokifnaaGreatDoor
