/-
  A book whose ring has no head of a later record; one transaction of one page.
-/
import Derived.Test.YtjkkbceddbkejaaGreatDoorBkFresh
set_option linter.unusedSimpArgs false
set_option linter.unusedVariables false
namespace Go.Proofs.YtjkkbceddbkejaaGreatDoor
open Go.RowKit Sh

def OldR (b : Bk) : Prop := b.m.num < 256 ∧ ∀ i, Old b.m.num (pgOf (imgB b.S) 2 b.n i)
section
variable {b : Bk} {m0 : Mk} {rs : List (List Chg)}
theorem OldR.ends (h : OldR b) (hd : Dur b m0 rs) : Ends b m0 rs := by
  unfold Ends
  rw [← hd.head]
  exact old_begins (h.2 _) h.1
theorem old_fresh {D n : Nat} (f : Fr D n) (h1 : 96 ≤ n) : OldR (bk1 D n) := by
  have hm : (bk1 D n).m = nextMk (bk0 D n) := by
    have := f.dur.head
    rw [this]; rfl
  have hnum : (bk1 D n).m.num = 0 := by rw [hm]; rfl
  refine ⟨by rw [hnum]; omega, fun i => ?_⟩
  have hz := f.clean (i % n) (by simp [takesAll]) (Nat.mod_lt _ (by omega))
  have hp : (nextMk (bk0 D n)).place = 0 := rfl
  rw [hp, Nat.zero_add, pgOf_mod] at hz
  rw [f.len, hz]
  exact old_zero _
theorem old_one {m : Mk} {c : Chg} (hm : m.num < 256) (hc : at8 c.what 9 = 0) : ∀ p ∈ sectors m [c], Old (m.num + 1) p := fun p hp => by
  rcases List.mem_cons.1 hp with rfl | hp
  · exact old_first (Nat.lt_succ_self _) hm
  · have hb : body [c] = [numsPage [c] 0, c.what] := by simp [body, List.range_succ]
    rw [hb] at hp
    rcases List.mem_cons.1 hp with rfl | hp
    · exact old_of_nine rfl
    · rw [List.mem_singleton.1 hp]; exact old_of_nine hc
theorem put_old {num n : Nat} (hn : 0 < n) {ps img : List (List UInt8)} {pl : Nat} (hi : 2 + n ≤ img.length) (hl : ps.length ≤ n) (h1 : ∀ p ∈ ps, Old num p) (h2 : ∀ i, Old num (pgOf img 2 n i)) (i : Nat) : Old num (pgOf (putAll 2 n img pl ps) 2 n i) := by
  obtain ⟨d, hd, he⟩ : ∃ d, d < n ∧ (pl + d) % n = i % n := by
    have hm1 := Nat.mod_lt i hn
    have hm2 := Nat.mod_lt pl hn
    refine ⟨(i % n + (n - pl % n)) % n, Nat.mod_lt _ hn, ?_⟩
    rw [Nat.add_mod, Nat.mod_mod, ← Nat.add_mod]
    have e := Nat.div_add_mod pl n
    have : pl + (i % n + (n - pl % n)) = i % n + n * (pl / n + 1) := by rw [Nat.mul_add]; omega
    rw [this, Nat.add_mul_mod_self_left, Nat.mod_mod]
  have hg := put_get 2 n hn ps img pl d hl hi hd
  have e1 : ∀ im : List (List UInt8), pgOf im 2 n i = pgOf im 2 n (pl + d) := fun im => by rw [← pgOf_mod, ← he, pgOf_mod]
  rw [e1, hg]
  split
  · rename_i hlt
    rw [List.getD_eq_getElem?_getD, List.getElem?_eq_getElem hlt]
    exact h1 _ (List.getElem_mem hlt)
  · exact h2 _
theorem OldR.add (h : OldR b) (hd : Dur b m0 rs) {c : Chg} (hl : Fit [c]) (hw : Within b.pages [c]) (ht : takes 1 ≤ b.n - b.used) (hp : b.S.ats.length ≤ 10000) (hn : b.m.num + 1 < 256) (hc : at8 c.what 9 = 0) : OldR (addOf b [c]).1 ∧ (addOf b [c]).1.m.num = b.m.num + 1 := by
  obtain ⟨a1, a2, a3, a4, a5, a6, a7, a8, a9⟩ := hd.add hl hw ht hp
  have hr := hd.ok.ring
  have hroom := hd.ok.room
  have em : (addOf b [c]).1.m.num = b.m.num + 1 := by
    rw [a2.head, a6, lastOf_append, ← hd.head]
    show (b.m.num + 1) % 18446744073709551616 = _
    exact Nat.mod_eq_of_lt (by omega)
  refine ⟨⟨by rw [em]; exact hn, fun i => ?_⟩, em⟩
  rw [em, a6, a3]
  exact put_old (by have := hr.n0; omega) (by rw [img_length]; omega) (by rw [sectors_length]; have : takes [c].length = takes 1 := rfl; omega) (old_one h.1 hc) (fun i => (h.2 i).mono (Nat.le_succ _)) i
theorem OldR.bring (h : OldR b) (hd : Dur b m0 rs) (hg : b.gen + 1 < 18446744073709551616) : OldR (bringOf b).1 ∧ (bringOf b).1.m.num = b.m.num := by
  obtain ⟨a1, a2, a3, a4, a5, a6, a7, a8, a9, a10, a11, a12⟩ := hd.bring hg
  have em : (bringOf b).1.m.num = b.m.num := by rw [a11]; rfl
  have hr := hd.ok.ring
  refine ⟨⟨by rw [em]; exact h.1, fun i => ?_⟩, em⟩
  have hm := Nat.mod_lt i (show 0 < b.n by have := hr.n0; omega)
  have e := a8 (2 + i % b.n) (by omega) (by omega)
  have h2 := h.2 i
  unfold pgOf at h2 ⊢
  rw [em, a6, List.getD_eq_getElem?_getD, e, ← List.getD_eq_getElem?_getD]
  exact h2
theorem OldR.same (h : OldR b) {S : St} (hi : imgB S = imgB b.S) {t : List Chg} : OldR { b with S := S, txn := t } := ⟨h.1, fun i => by show Old b.m.num (pgOf (imgB S) 2 b.n i); rw [hi]; exact h.2 i⟩
theorem view_add (h : Dur b m0 rs) {c : Chg} (hl : Fit [c]) (hw : Within b.pages [c]) (ht : takes 1 ≤ b.n - b.used) (hp : b.S.ats.length ≤ 10000) (j : Nat) : viewB (addOf b [c]).1 j = if j = c.at_ then c.what else viewB b j := by
  obtain ⟨a1, a2, a3, a4, a5, a6, a7, a8, a9⟩ := h.add hl hw ht hp
  have hr := h.ok.ring
  unfold viewB
  rw [a4, a6, a3]
  show (getM (putM b.news c.at_ c.what) j).getD _ = _
  by_cases e : j = c.at_
  · subst e
    rw [if_pos rfl, get_put_same]; rfl
  · rw [if_neg e, get_put_other _ e]
    congr 1
    rw [List.getD_eq_getElem?_getD, put_out 2 b.n (by have := hr.n0; omega) _ _ _ _ (.inr (by omega)), ← List.getD_eq_getElem?_getD]
/-- What a transaction of one page leaves. -/
structure Step (b : Bk) (i : Nat) (p : List UInt8) (bw b' : Bk) : Prop where
  w : bwriteOf b (i : Int) p = (bw, 0)
  okw : bw.Ok
  atw : bw.S.ats.length ≤ 10000
  c : commitOf bw = (b', 0)
  ex : ∃ m0 rs, Dur b' m0 rs
  old : OldR b'
  txn : b'.txn = []
  view : ∀ j, j < b.pages → viewB b' j = if j = i then p else viewB b j
  num : b'.m.num ≤ b.m.num + 1
  gen : b'.gen ≤ b.gen + 1
  n : b'.n = b.n
  pages : b'.pages = b.pages
  firm : b'.S.firm.length = b.S.firm.length
  ats : b'.S.ats.length ≤ b.S.ats.length + 3
theorem step_one (h : Dur b m0 rs) (ho : OldR b) (ht : b.txn = []) (hn : b.m.num + 1 < 256) (hg : b.gen + 1 < 18446744073709551616) (ha : b.S.ats.length ≤ 9000) {i : Nat} (hi : i < b.pages) {p : List UInt8} (hp : p.length = 64) (hp9 : at8 p 9 = 0) :
    ∃ bw b', Step b i p bw b' := by
  have hpg := h.page hi (by rw [ht]; rfl)
  by_cases e : viewB b i = p
  · refine ⟨b, b, ⟨?_, h.ok, by omega, ?_, ⟨_, _, h⟩, ho, ht, fun j _ => ?_, by omega, by omega, rfl, rfl, rfl, by omega⟩⟩
    · unfold bwriteOf
      rw [hpg, Int.toNat_natCast, ht]
      simp [getM, e]
    · unfold commitOf
      rw [if_neg (by simp [h.unb]), if_pos ht]
    · by_cases ej : j = i
      · rw [if_pos ej, ej]; exact e
      · rw [if_neg ej]
  · have hw := write_first h hi (by rw [ht]; rfl) e (by rw [ht]; decide)
    rw [ht] at hw
    have ew : putM [] i p = [⟨i, p⟩] := rfl
    rw [ew] at hw
    have hwi : Within b.pages [⟨i, p⟩] := fun c hc => by rw [List.mem_singleton.1 hc]; exact ⟨hi, hp⟩
    have hri : Rising [(⟨i, p⟩ : Chg)] := by unfold Rising; simp
    have dw := h.txn hri hwi (by simp)
    have hp2 : b.pages ≤ 2048 := Nat.min_le_right _ _
    have fit : Fit [(⟨i, p⟩ : Chg)] := ⟨by simp, by simp, fun c hc => by rw [List.mem_singleton.1 hc]; show i < _; omega, fun c hc => by rw [List.mem_singleton.1 hc]; exact hp⟩
    have e1 : ({ b with txn := [] } : Bk) = b := by
      cases b
      simp only at ht
      rw [ht]
    have cm : commitOf { b with txn := [⟨i, p⟩] } = if takes 1 ≤ b.n - b.used then keptOf (addOf b [⟨i, p⟩]) else if (bringOf b).2 ≠ 0 then keptOf (bringOf b) else keptOf (addOf (bringOf b).1 [⟨i, p⟩]) := by
      unfold commitOf
      rw [if_neg (by simp [h.unb]), if_neg (by simp)]
      simp only
      rw [e1]
      rfl
    by_cases hr : takes 1 ≤ b.n - b.used
    · obtain ⟨a1, a2, a3, a4, a5, a6, a7, a8, a9⟩ := h.add fit hwi hr (by omega)
      obtain ⟨o1, o2⟩ := ho.add h fit hwi hr (by omega) hn hp9
      rw [if_pos hr, keptOf_ok a1] at cm
      refine ⟨_, (addOf b [⟨i, p⟩]).1, ⟨hw, dw.ok, by show b.S.ats.length ≤ 10000; omega, ?_, ⟨_, _, a2⟩, o1, by rw [a5]; exact ht, fun j _ => view_add h fit hwi hr (by omega) j, by rw [o2]; omega, by rw [a7]; omega, a6, pages_of a8 a6, a8, ?_⟩⟩
      · rw [cm]
        exact Prod.ext rfl a1
      · have h9 : (addOf b [⟨i, p⟩]).1.S.ats.length ≤ b.S.ats.length + takes 1 := a9
        have : takes 1 = 3 := by decide
        omega
    · obtain ⟨c1, c2, c3, c4, c5, c6, c7, c8, c9, c10, c11, c12⟩ := h.bring hg
      obtain ⟨q1, q2⟩ := ho.bring h hg
      have hw2 : Within (bringOf b).1.pages [⟨i, p⟩] := by rw [c4]; exact hwi
      have hu2 : (bringOf b).1.used = 0 := by rw [c2.used]; rfl
      have hr2 : takes 1 ≤ (bringOf b).1.n - (bringOf b).1.used := by
        rw [c6, hu2]
        have := h.ok.ring.n0
        have : takes 1 = 3 := by decide
        omega
      obtain ⟨a1, a2, a3, a4, a5, a6, a7, a8, a9⟩ := c2.add fit hw2 hr2 (by rw [c9]; simp)
      obtain ⟨o1, o2⟩ := q1.add c2 fit hw2 hr2 (by rw [c9]; simp) (by rw [q2]; exact hn) hp9
      rw [if_neg hr, if_neg (by rw [c1]; simp), keptOf_ok a1] at cm
      have hv := view_add c2 fit hw2 hr2 (by rw [c9]; simp)
      refine ⟨_, (addOf (bringOf b).1 [⟨i, p⟩]).1, ⟨hw, dw.ok, by show b.S.ats.length ≤ 10000; omega, ?_, ⟨_, _, a2⟩, o1, by rw [a5, c7]; exact ht, fun j hj => ?_, by rw [o2, q2]; omega, by rw [a7, c5]; omega, a6.trans c6, (pages_of a8 a6).trans c4, a8.trans c12, ?_⟩⟩
      · rw [cm]
        exact Prod.ext rfl a1
      · rw [hv j]
        show (if j = i then p else viewB (bringOf b).1 j) = _
        rw [c3 j hj]
      · have h9 : (addOf (bringOf b).1 [⟨i, p⟩]).1.S.ats.length ≤ (bringOf b).1.S.ats.length + takes 1 := a9
        rw [c9] at h9
        have : takes 1 = 3 := by decide
        simp at h9
        omega
/-- A book that was synced, behind a crash and a mount. -/
structure Remount (b b' : Bk) (m0 : Mk) (rs : List (List Chg)) : Prop where
  ag : Again b m0 rs (crashOf b.S [])
  is : (bringOf (newBk (crashOf b.S []) b.n b.gen b.m b.used rs)).1 = b'
  ex : ∃ m1, Dur b' m1 []
  old : OldR b'
  ats : b'.S.ats = []
  gen : b'.gen = b.gen + 1
  n : b'.n = b.n
  pages : b'.pages = b.pages
  txn : b'.txn = []
  view : ∀ j, j < b.pages → viewB b' j = viewB b j
  firm : b'.S.firm.length = b.S.firm.length
  num : b'.m.num = b.m.num
theorem remount (h : Dur b m0 rs) (ho : OldR b) (ha : b.S.ats = []) (hg : b.gen + 1 < 18446744073709551616) : ∃ b', Remount b b' m0 rs := by
  have ag := again h (ho.ends h) ha []
  obtain ⟨c1, c2, c3, c4, c5, c6, c7, c8, c9, c10, c11, c12⟩ := ag.dur.bring (by show b.gen + 1 < _; exact hg)
  have hbk := h.newBk (S := crashOf b.S [])
  have hon : OldR (newBk (crashOf b.S []) b.n b.gen b.m b.used rs) := by rw [hbk]; exact ho.same (crash_flushed ha []).1
  obtain ⟨q1, q2⟩ := hon.bring ag.dur (by show b.gen + 1 < _; exact hg)
  have hp : (newBk (crashOf b.S []) b.n b.gen b.m b.used rs).pages = b.pages := pages_of ag.firm rfl
  exact ⟨_, ag, rfl, ⟨_, c2⟩, q1, c9, c5, c6, c4.trans hp, c7, fun j hj => (c3 j (by rw [hp]; exact hj)).trans (ag.view j), c12.trans ag.firm, q2⟩
end
end Go.Proofs.YtjkkbceddbkejaaGreatDoor
