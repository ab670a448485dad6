/-
  What law 06's stands does to its book.
-/
import Derived.Test.YticdanndfogjfaaGreatDoorBkOwn
set_option linter.unusedSimpArgs false
set_option linter.unusedVariables false
namespace Go.Proofs.YticdanndfogjfaaGreatDoor
open Go.RowKit Sh

attribute [local irreducible] bk1 bk0
def pA (a : UInt8) : List UInt8 := a :: List.replicate 63 0
theorem pA_len (a : UInt8) : (pA a).length = 64 := by simp [pA]
theorem page1_pA (a : UInt8) : page1 a = (pA a).map cu8 := by simp [page1, pA]
theorem pageV_pA (a : UInt8) : pageV (pA a) = .agg (page1 a).toArray := by rw [page1_pA]; rfl
def s6l : List Chg := [⟨5, pA 7⟩, ⟨6, pA 8⟩]
def s6a : Bk := { bk1 120 96 with txn := [⟨5, pA 7⟩] }
def s6b : Bk := { bk1 120 96 with txn := s6l }
def s6c : Bk := (addOf (bk1 120 96) s6l).1
def s6d : Bk := { s6c with S := (flushOf s6c.S).1 }
def s6S : St := crashOf s6d.S []
def s6e : Bk := (bringOf (newBk s6S s6d.n s6d.gen s6d.m s6d.used [s6l])).1
structure S6 : Prop where
  ok1 : (bk1 120 96).Ok
  w5 : bwriteOf (bk1 120 96) 5 (pA 7) = (s6a, 0)
  oka : s6a.Ok
  w6 : bwriteOf s6a 6 (pA 8) = (s6b, 0)
  okb : s6b.Ok
  cm : commitOf s6b = (s6c, 0)
  okc : s6c.Ok
  atc : s6c.S.ats.length ≤ 10000
  sy : syncOf s6c = (s6d, 0)
  okd : s6d.Ok
  atd : s6d.S.ats = []
  ag : Again s6d (nextMk (bk0 120 96)) [s6l] s6S
  nd : s6d.n = 96
  gd : s6d.gen = 1
  fd : s6d.S.firm.length = 120
  oke : s6e.Ok
  r5 : pageOf s6e 5 = (pA 7, 0)
  r6 : pageOf s6e 6 = (pA 8, 0)
  pg : s6e.pages = 22
theorem s6 : S6 := by
  have f := fr (D := 120) (n := 96) (by omega) (by omega) (by omega) (by omega)
  have hpg : (bk1 120 96).pages = 22 := f.pages
  have d1 := f.dur
  have wl : Within 22 s6l := fun c hc => by
    rcases List.mem_cons.1 hc with rfl | hc
    · exact ⟨by decide, pA_len 7⟩
    · rw [List.mem_singleton.1 hc]; exact ⟨by decide, pA_len 8⟩
  have rl : Rising s6l := by unfold s6l Rising; simp
  have da : Dur s6a (nextMk (bk0 120 96)) [] := d1.txn (t := [⟨5, pA 7⟩]) (by unfold Rising; simp) (fun c hc => by rw [List.mem_singleton.1 hc, hpg]; exact ⟨by decide, pA_len 7⟩) (by decide)
  have db : Dur s6b (nextMk (bk0 120 96)) [] := d1.txn (t := s6l) rl (by rw [hpg]; exact wl) (by decide)
  have fitl : Fit s6l := ⟨by decide, by decide, fun c hc => by have := (wl c hc).1; omega, fun c hc => (wl c hc).2⟩
  have hw5 := write_first d1 (i := 5) (by omega) (by rw [f.txn]; rfl) (p := pA 7) (by rw [f.zero 5 (by omega)]; decide) (by rw [f.txn]; decide)
  rw [f.txn] at hw5
  have hw6 := write_first da (i := 6) (by show 6 < (bk1 120 96).pages; omega) (by rfl) (p := pA 8) (by rw [show viewB s6a 6 = viewB (bk1 120 96) 6 from rfl, f.zero 6 (by omega)]; decide) (by decide)
  have e1 : ({ s6b with txn := [] } : Bk) = bk1 120 96 := by
    have := f.txn
    show ({ bk1 120 96 with txn := [] } : Bk) = bk1 120 96
    cases h : bk1 120 96
    rw [h] at this
    simp only at this
    rw [this]
  have htk : takes s6l.length = 4 := by decide
  have ht : takes s6l.length ≤ (bk1 120 96).n - (bk1 120 96).used := by rw [f.len, f.used]; omega
  obtain ⟨a1, a2, a3, a4, a5, a6, a7, a8, a9⟩ := d1.add fitl (by rw [hpg]; exact wl) ht (by rw [f.ats]; simp)
  have hcm : commitOf s6b = (s6c, 0) := by
    rcases db.commit (by decide) ht with h | h
    · rw [h]
      show ((addOf { s6b with txn := [] } s6l).1, (addOf { s6b with txn := [] } s6l).2) = _
      rw [e1, a1]; rfl
    · rw [e1] at h; exact absurd a1 h
  have hatc : s6c.S.ats.length ≤ 10000 := by
    have h9 : s6c.S.ats.length ≤ (bk1 120 96).S.ats.length + takes s6l.length := a9
    rw [f.ats] at h9
    have : takes s6l.length = 4 := by decide
    simp at h9; omega
  have dc : Dur s6c (nextMk (bk0 120 96)) ([] ++ [s6l]) := a2
  rw [List.nil_append] at dc
  obtain ⟨b1, b2, b3, b4⟩ := dc.sync
  have dd : Dur s6d (nextMk (bk0 120 96)) [s6l] := b2
  have hn : s6d.n = 96 := a6.trans f.len
  have hg : s6d.gen = 1 := a7.trans f.gen
  have hf : s6d.S.firm.length = 120 := by
    rw [← img_length, show imgB s6d.S = imgB s6c.S from b4, img_length]
    rw [show s6c.S.firm.length = (bk1 120 96).S.firm.length from a8]
    exact f.firm
  have hends : Ends s6d (nextMk (bk0 120 96)) [s6l] := by
    unfold Ends
    have hc := f.clean
    rw [show imgB s6d.S = imgB s6c.S from b4, show imgB s6c.S = _ from a3, hn]
    rw [f.len]
    have hi : 2 + 96 ≤ (imgB (bk1 120 96).S).length := by
      have := d1.ok.room
      rw [img_length]
      have h := f.len
      omega
    have ht2 : takesAll ([] ++ [s6l]) ≤ 96 := by decide
    have hcl := clean_add (first := 2) (n := 96) (by omega) hi hc ht2
    have hl : lastOf 96 (nextMk (bk0 120 96)) [] = (bk1 120 96).m := by rw [d1.head, f.len]
    rw [hl, List.nil_append] at hcl
    exact clean_ends (pgOf_mod_add _ _ _) hcl (by decide)
  have hag : Again s6d (nextMk (bk0 120 96)) [s6l] s6S := again dd hends b3 []
  have hgen : s6d.gen + 1 < 18446744073709551616 := by rw [hg]; omega
  obtain ⟨c1, c2, c3, c4, c5, c6, c7, _⟩ := hag.dur.bring (by show s6d.gen + 1 < _; exact hgen)
  have c2' : Dur s6e (nextMk (newBk s6S s6d.n s6d.gen s6d.m s6d.used [s6l])) [] := c2
  have hpd : (newBk s6S s6d.n s6d.gen s6d.m s6d.used [s6l]).pages = 22 := by
    show min (s6S.firm.length - 2 - s6d.n) 2048 = 22
    rw [hag.firm, hf, hn]
    decide
  have hpe : s6e.pages = 22 := by rw [show s6e.pages = (newBk s6S s6d.n s6d.gen s6d.m s6d.used [s6l]).pages from c4]; exact hpd
  have hte : s6e.txn = [] := c7
  have hnews : s6d.news = learnAll [] [s6l] := dd.news
  have hv : ∀ i p, getM s6l i = some p → i < 22 → viewB s6e i = p := fun i p hgt hi => by
    have h3 : viewB s6e i = viewB (newBk s6S s6d.n s6d.gen s6d.m s6d.used [s6l]) i := c3 i (by rw [hpd]; exact hi)
    rw [h3, hag.view]
    unfold viewB
    rw [hnews, show learnAll [] [s6l] = s6l from by decide, hgt]
    rfl
  refine ⟨d1.ok, hw5, da.ok, hw6, db.ok, hcm, dc.ok, hatc, b1, dd.ok, b3, hag, hn, hg, hf, c2'.ok, ?_, ?_, hpe⟩
  · have := c2'.page (i := 5) (by rw [hpe]; omega) (by rw [hte]; rfl)
    rw [hv 5 (pA 7) (by decide) (by omega)] at this
    exact this
  · have := c2'.page (i := 6) (by rw [hpe]; omega) (by rw [hte]; rfl)
    rw [hv 6 (pA 8) (by decide) (by omega)] at this
    exact this
end Go.Proofs.YticdanndfogjfaaGreatDoor
