/-
  A ring whose elder sectors are no heads, where the transactions are of few low pages: a commit, and a mount behind a crash (plain).
-/
import Derived.Test.YtjkkbceddbkejaaGreatDoorBkOld
import Derived.Test.YtjkkbceddbkejaaGreatDoorDpFillA
set_option linter.unusedSimpArgs false
set_option linter.unusedVariables false
namespace Go.Proofs.YtjkkbceddbkejaaGreatDoor
open Go.RowKit Sh

/-- A transaction of few pages, all of them low, none of them like a head. -/
structure Few (l : List Chg) : Prop where
  le : l.length ≤ 16
  low : ∀ c ∈ l, c.at_ < 256
  nine : N9 l
theorem few_nums {l : List Chg} (h : Few l) : at8 (numsPage l 0) 9 = 0 := by
  match l, h with
  | [], _ => rfl
  | [a], _ => rfl
  | [a, b], _ => rfl
  | a :: b :: c :: r, h =>
    have hc : c.at_ / 256 = 0 := Nat.div_eq_of_lt (h.low c (by simp))
    have : at8 (numsPage (a :: b :: c :: r) 0) 9 = UInt8.ofNat (c.at_ / 256) := by
      unfold numsPage pad64 at8
      simp only [Nat.mul_zero, List.drop_zero, List.take_succ_cons, List.flatMap_cons, le4, List.cons_append, List.nil_append, List.getD_cons_succ, List.getD_cons_zero]
    rw [this, hc]; rfl
theorem old_few {m : Mk} {l : List Chg} (hm : m.num < 256) (h : Few l) : ∀ p ∈ sectors m l, Old (m.num + 1) p := fun p hp => by
  rcases List.mem_cons.1 hp with rfl | hp
  · exact old_first (Nat.lt_succ_self _) hm
  · rcases List.mem_append.1 hp with hp | hp
    · obtain ⟨i, hi, rfl⟩ := List.mem_map.1 hp
      have hi' := List.mem_range.1 hi
      have := h.le
      obtain rfl : i = 0 := by omega
      exact old_of_nine (few_nums h)
    · obtain ⟨c, hc, rfl⟩ := List.mem_map.1 hp
      exact old_of_nine (h.nine c hc)
section
variable {b : Bk} {m0 : Mk} {rs : List (List Chg)}
theorem OldR.adds (h : OldR b) (hd : Dur b m0 rs) {l : List Chg} (hf : Few l) (hl : Fit l) (hw : Within b.pages l) (ht : takes l.length ≤ b.n - b.used) (hp : b.S.ats.length ≤ 10000) (hn : b.m.num + 1 < 256) : OldR (addOf b l).1 ∧ (addOf b l).1.m.num = b.m.num + 1 := by
  obtain ⟨a1, a2, a3, a4, a5, a6, a7, a8, a9⟩ := hd.add hl hw ht hp
  have hr := hd.ok.ring
  have hroom := hd.ok.room
  have em : (addOf b l).1.m.num = b.m.num + 1 := by
    rw [a2.head, a6, lastOf_append, ← hd.head]
    show (b.m.num + 1) % 18446744073709551616 = _
    exact Nat.mod_eq_of_lt (by omega)
  refine ⟨⟨by rw [em]; exact hn, fun i => ?_⟩, em⟩
  rw [em, a6, a3]
  exact put_old (by have := hr.n0; omega) (by rw [img_length]; omega) (by rw [sectors_length]; omega) (old_few h.1 hf) (fun i => (h.2 i).mono (Nat.le_succ _)) i
theorem OldR.txn (h : OldR b) (t : List Chg) : OldR { b with txn := t } := ⟨h.1, h.2⟩
theorem OldR.comm (h : OldR b) (hd : Dur b m0 rs) (hf : Few b.txn) (hg : b.gen + 1 < 18446744073709551616) (ha : b.S.ats.length ≤ 9000) (hn : b.m.num + 1 < 256) {b' : Bk} (e : commitOf b = (b', 0)) : OldR b' ∧ b'.m.num ≤ b.m.num + 1 := by
  have cm : b' = (commitOf b).1 := by rw [e]
  by_cases h0 : b.txn = []
  · have : commitOf b = (b, 0) := by
      unfold commitOf
      rw [if_neg (by simp [hd.unb]), if_pos h0]
    rw [this] at cm
    have cm : b' = b := cm
    rw [cm]
    exact ⟨h, by omega⟩
  have d0 : Dur { b with txn := [] } m0 rs := hd.txn rising_nil (within_nil _) (by simp)
  have hp2 : b.pages ≤ 2048 := Nat.min_le_right _ _
  have hW := hd.ok.txnW; have h60 := hd.ok.txn60
  have hlen : 1 ≤ b.txn.length := by
    rcases Nat.eq_zero_or_pos b.txn.length with e | e
    · exact absurd (List.eq_nil_of_length_eq_zero e) h0
    · exact e
  have fit : Fit b.txn := ⟨hlen, h60, fun c hc => by have := (hW c hc).1; omega, fun c hc => (hW c hc).2⟩
  have tk := takes_60 h60
  have ho : OldR { b with txn := [] } := h.txn []
  have ce : commitOf b = if takes b.txn.length ≤ b.n - b.used then keptOf (addOf { b with txn := [] } b.txn) else if (bringOf { b with txn := [] }).2 ≠ 0 then keptOf (bringOf { b with txn := [] }) else keptOf (addOf (bringOf { b with txn := [] }).1 b.txn) := by
    unfold commitOf
    rw [if_neg (by simp [hd.unb]), if_neg h0]
  by_cases hr : takes b.txn.length ≤ b.n - b.used
  · obtain ⟨a1, _⟩ := d0.add fit hW hr (by show b.S.ats.length ≤ 10000; omega)
    obtain ⟨o1, o2⟩ := ho.adds d0 hf fit hW hr (by show b.S.ats.length ≤ 10000; omega) hn
    rw [if_pos hr, keptOf_ok a1] at ce
    rw [cm, ce]
    exact ⟨o1, Nat.le_of_eq o2⟩
  · obtain ⟨c1, c2, c3, c4, c5, c6, c7, c8, c9, c10, c11, c12⟩ := d0.bring hg
    obtain ⟨q1, q2⟩ := ho.bring d0 hg
    have hw2 : Within (bringOf { b with txn := [] }).1.pages b.txn := by rw [c4]; exact hW
    have hu2 : (bringOf { b with txn := [] }).1.used = 0 := by rw [c2.used]; rfl
    have hr2 : takes b.txn.length ≤ (bringOf { b with txn := [] }).1.n - (bringOf { b with txn := [] }).1.used := by
      rw [c6, hu2]
      have := hd.ok.ring.n0
      show takes b.txn.length ≤ b.n - 0
      omega
    obtain ⟨a1, _⟩ := c2.add fit hw2 hr2 (by rw [c9]; simp)
    obtain ⟨o1, o2⟩ := q1.adds c2 hf fit hw2 hr2 (by rw [c9]; simp) (by rw [q2]; exact hn)
    rw [if_neg hr, if_neg (by rw [c1]; simp), keptOf_ok a1] at ce
    rw [cm, ce]
    exact ⟨o1, by rw [o2, q2]; exact Nat.le_refl _⟩
end
/-- A depot on a book that may be mounted again. -/
structure Dep (b : Bk) (first n D c : Nat) (hs : List (List UInt8)) (bl : Nat → List UInt8) : Prop where
  de : De b first n hs bl
  co : Co b D c
  old : OldR b
  num : b.m.num ≤ c
  bl9 : ∀ s, s < 4 * n → at8 (bl s) 9 = 0
section
variable {b : Bk} {first n D c : Nat} {hs : List (List UInt8)} {bl : Nat → List UInt8}
theorem Dep.comm (h : Dep b first n D c hs bl) {t : List Chg} {hs' : List (List UInt8)} {bl' : Nat → List UInt8} (hD : De { b with txn := t } first n hs' bl') (hf : Few t) (ht : t.length ≤ 4) (h9 : ∀ s, s < 4 * n → at8 (bl' s) 9 = 0) (hc : c ≤ 250) :
    ∃ b', Comm { b with txn := t } b' ∧ Dep b' first n D (c + 1) hs' bl' ∧ b'.txn = [] := by
  obtain ⟨b', k, hD', hC', ht'⟩ := hD.comm (h.co.txn t) (by omega) ht
  obtain ⟨m0, rs, hd⟩ := hD.ex
  have g1 := h.co.gen; have g2 := h.co.ats; have g3 := h.num
  obtain ⟨o1, o2⟩ := (h.old.txn t).comm hd hf (by show b.gen + 1 < _; omega) (by show b.S.ats.length ≤ 9000; omega) (by show b.m.num + 1 < 256; omega) k.c
  exact ⟨b', k, ⟨hD', hC', o1, by have : b'.m.num ≤ b.m.num + 1 := o2; omega, h9⟩, ht'⟩
theorem Dep.sync (h : Dep b first n D c hs bl) : ∃ b', syncOf b = (b', 0) ∧ Dep b' first n D c hs bl ∧ b'.S.ats = [] ∧ b'.txn = b.txn := by
  obtain ⟨m0, rs, hd⟩ := h.de.ex
  obtain ⟨e1, e2, e3, e4⟩ := hd.sync
  have hf : (flushOf b.S).1.firm.length = b.S.firm.length := by rw [← img_length, e4, img_length]
  have hpg : ({ b with S := (flushOf b.S).1 } : Bk).pages = b.pages := pages_of (b := b) (b' := { b with S := (flushOf b.S).1 }) hf rfl
  have hcont : ∀ j, j < b.pages → contB { b with S := (flushOf b.S).1 } j = contB b j := fun j hj => by
    rw [e2.cont (by rw [hpg]; exact hj), hd.cont hj, view_same e4]
  have hroom := h.de.room
  exact ⟨_, e1, ⟨⟨⟨_, _, e2⟩, h.de.len, fun k hk => by rw [hcont _ (by omega)]; exact h.de.head k hk, fun s hs => by rw [hcont _ (by omega)]; exact h.de.blk s hs, by rw [hpg]; exact hroom⟩,
    ⟨h.co.gen, by show (flushOf b.S).1.ats.length ≤ _; rw [e3]; simp, h.co.n, hf.trans h.co.firm⟩, ⟨h.old.1, fun i => by show Old b.m.num (pgOf (imgB (flushOf b.S).1) 2 b.n i); rw [e4]; exact h.old.2 i⟩, h.num, h.bl9⟩, e3, rfl⟩
theorem Dep.remount (h : Dep b first n D c hs bl) (ht : b.txn = []) (ha : b.S.ats = []) (hc : c ≤ 1000) : ∃ b' m0 rs, Remount b b' m0 rs ∧ De b' first n hs bl ∧ b'.txn = [] := by
  obtain ⟨m0, rs, hd⟩ := h.de.ex
  have g1 := h.co.gen
  obtain ⟨b', r⟩ := Go.Proofs.YtjkkbceddbkejaaGreatDoor.remount hd h.old ha (by omega)
  obtain ⟨m1, hd'⟩ := r.ex
  have hroom := h.de.room
  have hcont : ∀ j, j < b.pages → contB b' j = contB b j := fun j hj => by
    rw [hd'.cont (by rw [r.pages]; exact hj), hd.cont hj, r.txn, ht, r.view j hj]
  exact ⟨b', m0, rs, r, ⟨⟨_, _, hd'⟩, h.de.len, fun k hk => by rw [hcont _ (by omega)]; exact h.de.head k hk, fun s hs => by rw [hcont _ (by omega)]; exact h.de.blk s hs, by rw [r.pages]; exact hroom⟩, r.txn⟩
end
/-- Law 07's second book: 300 sectors, four containers from page 0 on. -/
theorem dep_new : Dep (bk1 300 100) 0 4 300 0 (List.replicate 4 z4) (fun _ => List.replicate 64 0) ∧ (bk1 300 100).txn = [] := by
  have f := fr (D := 300) (n := 100) (by omega) (by omega) (by omega) (by omega)
  obtain ⟨hD, hC, ht⟩ := de_new (D := 300) (first := 0) (n := 4) (by omega) (by omega) (by omega)
  have hm : (bk1 300 100).m.num = 0 := by
    have := f.dur.head
    rw [this]; rfl
  exact ⟨⟨hD, hC, old_fresh f (by omega), by rw [hm]; omega, fun s _ => rfl⟩, ht⟩
end Go.Proofs.YtjkkbceddbkejaaGreatDoor
