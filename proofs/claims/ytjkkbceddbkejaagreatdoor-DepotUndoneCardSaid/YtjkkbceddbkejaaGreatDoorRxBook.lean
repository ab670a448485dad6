/-
  A book with fuel without end: pages as they are read; writes, and a commit of some of them.
-/
import Derived.Test.YtjkkbceddbkejaaGreatDoorBkFresh
import Derived.Test.YtjkkbceddbkejaaGreatDoorRxMath
set_option linter.unusedSimpArgs false
set_option linter.unusedVariables false
namespace Go.Proofs.YtjkkbceddbkejaaGreatDoor
open Go.RowKit Sh

theorem get_learn {j : Nat} : ∀ {l m : List Chg}, Rising l → getM (learnM m l) j = (getM l j).or (getM m j)
  | [], _, _ => rfl
  | c :: l, m, h => by
    obtain ⟨h1, h2⟩ := List.pairwise_cons.1 h
    show getM (learnM (putM m c.at_ c.what) l) j = _
    rw [get_learn h2, getM]
    by_cases e : c.at_ = j
    · subst e
      rw [if_pos rfl, get_put_same, rising_none (fun d hd => h1 d hd)]
      rfl
    · rw [if_neg e, get_put_other _ (fun h => e h.symm)]
/-- What a page is read as. -/
def contB (b : Bk) (j : Nat) : List UInt8 := (pageOf b (j : Int)).1
section
variable {b : Bk} {m0 : Mk} {rs : List (List Chg)}
theorem Dur.cont (h : Dur b m0 rs) {i : Nat} (hi : i < b.pages) : contB b i = (getM b.txn i).getD (viewB b i) := by
  unfold contB
  cases ht : getM b.txn i with
  | none => rw [h.page hi ht]; rfl
  | some p => rw [h.page_txn hi ht]; rfl
theorem Dur.reads (h : Dur b m0 rs) {i : Nat} (hi : i < b.pages) : pageOf b (i : Int) = (contB b i, 0) := by
  unfold contB
  cases ht : getM b.txn i with
  | none => rw [h.page hi ht]
  | some p => rw [h.page_txn hi ht]
theorem Dur.cont_len (h : Dur b m0 rs) {i : Nat} (hi : i < b.pages) : (contB b i).length = 64 := by
  rw [h.cont hi]
  cases ht : getM b.txn i with
  | none => exact h.view_len hi
  | some p => exact (h.ok.txnW _ (mem_of_getM ht)).2
/-- A write, where there is room in the transaction. -/
theorem Dur.puts (h : Dur b m0 rs) {i : Nat} (hi : i < b.pages) {p : List UInt8} (hp : p.length = 64) (ht : b.txn.length < 60) :
    ∃ t, bwriteOf b (i : Int) p = ({ b with txn := t }, 0) ∧ Dur { b with txn := t } m0 rs ∧ t.length ≤ b.txn.length + 1 ∧ ∀ j, j < b.pages → contB { b with txn := t } j = upd (contB b) i p j := by
  have hl := length_put (k := i) p h.ok.txnR
  have hput : Dur { b with txn := putM b.txn i p } m0 rs := h.txn (rising_put h.ok.txnR) (within_put h.ok.txnW hi hp) (by have := length_put_le i p b.txn; omega)
  have hc : ∀ j, j < b.pages → contB { b with txn := putM b.txn i p } j = upd (contB b) i p j := fun j hj => by
    rw [hput.cont (i := j) hj]
    show (getM (putM b.txn i p) j).getD (viewB b j) = _
    unfold upd
    by_cases e : j = i
    · subst e; rw [if_pos rfl, get_put_same]; rfl
    · rw [if_neg e, get_put_other _ e, h.cont hj]
  have hle := length_put_le i p b.txn
  unfold bwriteOf
  rw [h.reads hi]
  simp only [Int.toNat_natCast, ne_eq, not_true_eq_false, if_false]
  by_cases hs : (getM b.txn i).isSome = true
  · exact ⟨_, by rw [if_pos hs], hput, hle, hc⟩
  · rw [if_neg hs]
    by_cases e : contB b i = p
    · refine ⟨b.txn, by rw [if_pos e], h, by omega, fun j _ => ?_⟩
      show contB b j = _
      unfold upd
      split
      · rename_i e2; rw [e2]; exact e
      · rfl
    · exact ⟨_, by rw [if_neg e, if_neg (by omega)], hput, hle, hc⟩
theorem takes_60 {k : Nat} (h : k ≤ 60) : takes k ≤ 65 := by unfold takes; omega
/-- What a commit leaves. -/
structure Comm (b b' : Bk) : Prop where
  c : commitOf b = (b', 0)
  ex : ∃ m0 rs, Dur b' m0 rs
  txn : b'.txn = []
  cont : ∀ j, j < b.pages → contB b' j = contB b j
  gen : b'.gen ≤ b.gen + 1
  n : b'.n = b.n
  pages : b'.pages = b.pages
  firm : b'.S.firm.length = b.S.firm.length
  ats : b'.S.ats.length ≤ b.S.ats.length + takes b.txn.length
theorem view_adds (h : Dur b m0 rs) {l : List Chg} (hr' : Rising l) (hl : Fit l) (hw : Within b.pages l) (ht : takes l.length ≤ b.n - b.used) (hp : b.S.ats.length ≤ 10000) (j : Nat) : viewB (addOf b l).1 j = (getM l j).getD (viewB b j) := by
  obtain ⟨a1, a2, a3, a4, a5, a6, a7, a8, a9⟩ := h.add hl hw ht hp
  have hr := h.ok.ring
  unfold viewB
  rw [a4, a6, a3, get_learn hr']
  cases getM l j with
  | some p => rfl
  | none =>
    show (getM b.news j).getD _ = (getM b.news j).getD _
    congr 1
    rw [List.getD_eq_getElem?_getD, put_out 2 b.n (by have := hr.n0; omega) _ _ _ _ (.inr (by omega)), ← List.getD_eq_getElem?_getD]
theorem Dur.comm (h : Dur b m0 rs) (hg : b.gen + 1 < 18446744073709551616) (ha : b.S.ats.length ≤ 9000) : ∃ b', Comm b b' := by
  by_cases h0 : b.txn = []
  · refine ⟨b, ?_, ⟨_, _, h⟩, h0, fun _ _ => rfl, by omega, rfl, rfl, rfl, by omega⟩
    unfold commitOf
    rw [if_neg (by simp [h.unb]), if_pos h0]
  have d0 : Dur { b with txn := [] } m0 rs := h.txn rising_nil (within_nil _) (by simp)
  have hp2 : b.pages ≤ 2048 := Nat.min_le_right _ _
  have hR := h.ok.txnR; have hW := h.ok.txnW; have h60 := h.ok.txn60
  have hlen : 1 ≤ b.txn.length := by
    rcases Nat.eq_zero_or_pos b.txn.length with e | e
    · exact absurd (List.eq_nil_of_length_eq_zero e) h0
    · exact e
  have fit : Fit b.txn := ⟨hlen, h60, fun c hc => by have := (hW c hc).1; omega, fun c hc => (hW c hc).2⟩
  have tk := takes_60 h60
  have cm : commitOf b = if takes b.txn.length ≤ b.n - b.used then keptOf (addOf { b with txn := [] } b.txn) else if (bringOf { b with txn := [] }).2 ≠ 0 then keptOf (bringOf { b with txn := [] }) else keptOf (addOf (bringOf { b with txn := [] }).1 b.txn) := by
    unfold commitOf
    rw [if_neg (by simp [h.unb]), if_neg h0]
  by_cases hr : takes b.txn.length ≤ b.n - b.used
  · obtain ⟨a1, a2, a3, a4, a5, a6, a7, a8, a9⟩ := d0.add fit hW hr (by show b.S.ats.length ≤ 10000; omega)
    rw [if_pos hr, keptOf_ok a1] at cm
    refine ⟨(addOf { b with txn := [] } b.txn).1, ?_, ⟨_, _, a2⟩, a5, fun j hj => ?_, Nat.le_succ_of_le (Nat.le_of_eq a7), a6, pages_of a8 a6, a8, a9⟩
    · rw [cm]; exact Prod.ext rfl a1
    · have ep : (addOf { b with txn := [] } b.txn).1.pages = b.pages := pages_of a8 a6
      rw [a2.cont (by rw [ep]; exact hj), a5, h.cont hj, view_adds d0 hR fit hW hr (by show b.S.ats.length ≤ 10000; omega)]
      rfl
  · obtain ⟨c1, c2, c3, c4, c5, c6, c7, c8, c9, c10, c11, c12⟩ := d0.bring hg
    have hw2 : Within (bringOf { b with txn := [] }).1.pages b.txn := by rw [c4]; exact hW
    have hu2 : (bringOf { b with txn := [] }).1.used = 0 := by rw [c2.used]; rfl
    have hr2 : takes b.txn.length ≤ (bringOf { b with txn := [] }).1.n - (bringOf { b with txn := [] }).1.used := by
      rw [c6, hu2]
      have := h.ok.ring.n0
      show takes b.txn.length ≤ b.n - 0
      omega
    obtain ⟨a1, a2, a3, a4, a5, a6, a7, a8, a9⟩ := c2.add fit hw2 hr2 (by rw [c9]; simp)
    rw [if_neg hr, if_neg (by rw [c1]; simp), keptOf_ok a1] at cm
    have ep : (addOf (bringOf { b with txn := [] }).1 b.txn).1.pages = b.pages := (pages_of a8 a6).trans c4
    refine ⟨(addOf (bringOf { b with txn := [] }).1 b.txn).1, ?_, ⟨_, _, a2⟩, a5.trans c7, fun j hj => ?_, by rw [a7, c5]; exact Nat.le_refl _, a6.trans c6, ep, a8.trans c12, ?_⟩
    · rw [cm]; exact Prod.ext rfl a1
    · rw [a2.cont (by rw [ep]; exact hj), a5, c7, h.cont hj, view_adds c2 hR fit hw2 hr2 (by rw [c9]; simp), c3 j hj]
      rfl
    · rw [c9] at a9
      simp at a9; omega
end
/-- A forest on a book. -/
structure Fo (b : Bk) (first n : Nat) (v : Nat → Nat) : Prop where
  ex : ∃ m0 rs, Dur b m0 rs
  rep : Rep (contB b) first n v
  room : first + n < b.pages
theorem Fo.ok {b : Bk} {first n : Nat} {v : Nat → Nat} (h : Fo b first n v) : b.Ok := by obtain ⟨_, _, hd⟩ := h.ex; exact hd.ok
theorem Fo.reads {b : Bk} {first n : Nat} {v : Nat → Nat} (h : Fo b first n v) {i : Nat} (hi : i ≤ n) : pageOf b ((first + i : Nat) : Int) = (contB b (first + i), 0) := by
  obtain ⟨_, _, hd⟩ := h.ex
  have := h.room
  exact hd.reads (by omega)
theorem Fo.cont_len {b : Bk} {first n : Nat} {v : Nat → Nat} (h : Fo b first n v) {i : Nat} (hi : i ≤ n) : (contB b (first + i)).length = 64 := by
  obtain ⟨_, _, hd⟩ := h.ex
  have := h.room
  exact hd.cont_len (by omega)
/-- How far a law's book has come. -/
structure Co (b : Bk) (D c : Nat) : Prop where
  gen : b.gen ≤ 1 + c
  ats : b.S.ats.length ≤ 6 * c
  n : b.n = 100
  firm : b.S.firm.length = D
theorem Co.txn {b : Bk} {D c : Nat} (h : Co b D c) (t : List Chg) : Co { b with txn := t } D c := ⟨h.gen, h.ats, h.n, h.firm⟩
/-- A commit of a forest's book. -/
theorem Fo.comm {b : Bk} {first n D c : Nat} {v : Nat → Nat} (h : Fo b first n v) (hc : Co b D c) (h9 : c ≤ 1400) (ht : b.txn.length ≤ 4) : ∃ b', Comm b b' ∧ Fo b' first n v ∧ Co b' D (c + 1) ∧ b'.txn = [] := by
  obtain ⟨m0, rs, hd⟩ := h.ex
  have h1 := hc.gen; have h2 := hc.ats; have h3 := h.room
  obtain ⟨b', k⟩ := hd.comm (by omega) (by omega)
  have tk : takes b.txn.length ≤ 6 := by unfold takes; omega
  have k1 := k.gen; have k2 := k.ats
  exact ⟨b', k, ⟨k.ex, h.rep.congr (fun i hi => k.cont _ (by omega)), by rw [k.pages]; exact h.room⟩, ⟨by omega, by omega, k.n.trans hc.n, k.firm.trans hc.firm⟩, k.txn⟩
/-- A forest on a new book. -/
theorem fo_new {D first n : Nat} (h1 : 103 ≤ D) (h2 : D ≤ 4096) (h3 : first + n < min (D - 2 - 100) 2048) : Fo (bk1 D 100) first n (fun _ => 0) ∧ Co (bk1 D 100) D 0 ∧ (bk1 D 100).txn = [] := by
  have f := fr (D := D) (n := 100) (by omega) (by omega) (by omega) h2
  have hp := f.pages
  refine ⟨⟨⟨_, _, f.dur⟩, rep_zero (fun i hi => ?_), by rw [hp]; exact h3⟩, ⟨by rw [f.gen]; omega, by rw [f.ats]; simp, f.len, f.firm⟩, f.txn⟩
  rw [f.dur.cont (by rw [hp]; omega), f.txn]
  exact f.zero _ (by rw [hp]; omega)
end Go.Proofs.YtjkkbceddbkejaaGreatDoor
