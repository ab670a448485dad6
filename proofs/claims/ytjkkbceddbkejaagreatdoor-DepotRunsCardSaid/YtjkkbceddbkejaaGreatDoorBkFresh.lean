/-
  A book on a new disk; what stands behind a crash.
-/
import Derived.Test.YtjkkbceddbkejaaGreatDoorBkDur
import Derived.Test.YtjkkbceddbkejaaGreatDoorBkWrite
set_option linter.unusedSimpArgs false
set_option linter.unusedVariables false
namespace Go.Proofs.YtjkkbceddbkejaaGreatDoor
open Go.RowKit Sh

def bk0 (D n : Nat) : Bk := newBk (newS D) n 0 m00 0 []
/-- A book as Mount makes it of a new disk. -/
def bk1 (D n : Nat) : Bk := (bringOf (bk0 D n)).1
theorem latest_new (D : Nat) (h : 2 ≤ D) : latestB (imgB (newS D)) = (0, m00) := by
  have e : ∀ i, i < D → (imgB (newS D)).getD i [] = List.replicate 64 0 := fun i hi => by rw [imgB_new, List.getD_eq_getElem?_getD, List.getElem?_replicate, if_pos hi]; rfl
  unfold latestB
  rw [e 0 (by omega), e 1 (by omega), later_zero, later_zero]
  rfl
section
variable {D n : Nat}
theorem fresh (h1 : 96 ≤ n) (h2 : n ≤ 4096) (h3 : 3 + n ≤ D) (h4 : D ≤ 4096) : Dur (bk0 D n) m00 [] ∧ Clean n (pgOf (imgB (newS D)) 2 n) m00 [] := by
  have hok : (bk0 D n).Ok := newBk_ok (good_new D (by omega) h4) (byt_new D) ⟨h1, h2, by omega, by show 0 < n; omega, by decide, Nat.zero_le _⟩ (by decide) (by rw [dnew_len]; exact h3) (by decide) (by simp [newS]) (fun l hl => by simp at hl)
  exact ⟨⟨hok, lit_new D, rfl, latest_new D (by omega), by show 0 < n; omega, by decide, by decide, rfl, rfl, fun l hl => by simp at hl, trivial, rfl, fun l hl => by simp at hl⟩, clean_new m00 (by omega) (by omega)⟩
/-- Behind a mount the ring is as it was. -/
structure Fr (D n : Nat) : Prop where
  err : (bringOf (bk0 D n)).2 = 0
  dur : Dur (bk1 D n) (nextMk (bk0 D n)) []
  clean : Clean n (pgOf (imgB (bk1 D n).S) 2 n) (nextMk (bk0 D n)) []
  zero : ∀ i, i < (bk1 D n).pages → viewB (bk1 D n) i = List.replicate 64 0
  pages : (bk1 D n).pages = min (D - 2 - n) 2048
  gen : (bk1 D n).gen = 1
  len : (bk1 D n).n = n
  txn : (bk1 D n).txn = []
  ats : (bk1 D n).S.ats = []
  used : (bk1 D n).used = 0
  firm : (bk1 D n).S.firm.length = D
  news : (bk1 D n).news = []
theorem fr (h1 : 96 ≤ n) (h2 : n ≤ 4096) (h3 : 3 + n ≤ D) (h4 : D ≤ 4096) : Fr D n := by
  obtain ⟨hd, hc⟩ := fresh h1 h2 h3 h4
  obtain ⟨a1, a2, a3, a4, a5, a6, a7, a8, a9, a10, a11, a12⟩ := hd.bring (by show 0 + 1 < _; omega)
  have hn : (bk1 D n).n = n := a6
  have hp0 : (bk0 D n).pages = min (D - 2 - n) 2048 := by show min ((newS D).firm.length - 2 - n) 2048 = _; rw [dnew_len]
  refine ⟨a1, a2, ?_, ?_, a4.trans hp0, a5, hn, a7, a9, by rw [show (bk1 D n).used = takesAll [] from a2.used]; rfl, (show (bk1 D n).S.firm.length = (bk0 D n).S.firm.length from a12).trans (dnew_len D), a10⟩
  · intro d hd1 hd2
    have e := hc d hd1 hd2
    have hm := Nat.mod_lt ((nextMk (bk0 D n)).place + d) (show 0 < n by omega)
    unfold pgOf at e ⊢
    have e8 := a8 (2 + ((nextMk (bk0 D n)).place + d) % n) (by omega) (by show _ < 2 + n; omega)
    rw [List.getD_eq_getElem?_getD]
    show ((imgB (bringOf (bk0 D n)).1.S)[2 + ((nextMk (bk0 D n)).place + d) % n]?).getD [] = _
    rw [e8, ← List.getD_eq_getElem?_getD]
    exact e
  · intro i hi
    rw [show viewB (bk1 D n) i = viewB (bk0 D n) i from a3 i (by rw [← a4]; exact hi)]
    have hi' : i < (bk0 D n).pages := by rw [← a4]; exact hi
    have hh : 2 + n + i < (newS D).firm.length := hd.ok.home hi'
    rw [dnew_len] at hh
    show (getM [] i).getD ((imgB (newS D)).getD (2 + n + i) []) = _
    rw [imgB_new, List.getD_eq_getElem?_getD, List.getElem?_replicate, if_pos hh]
    rfl
end
/-- A page is written for the first time in a transaction. -/
theorem write_first {b : Bk} {m0 : Mk} {rs : List (List Chg)} (h : Dur b m0 rs) {i : Nat} (hi : i < b.pages) (ht : getM b.txn i = none) {p : List UInt8} (hne : viewB b i ≠ p) (hl : b.txn.length < 60) : bwriteOf b (i : Int) p = ({ b with txn := putM b.txn i p }, 0) := by
  unfold bwriteOf
  rw [h.page hi ht]
  simp only [Int.toNat_natCast, ht, Option.isSome_none]
  rw [if_neg (by simp), if_neg (by simp), if_neg hne, if_neg (by omega)]
/-- What a book that was synced and crashed is, mounted again. -/
structure Again (b : Bk) (m0 : Mk) (rs : List (List Chg)) (S : St) : Prop where
  title : latestB (imgB S) = (b.gen, m0)
  place : m0.place < b.n
  found : openAll b.n (pgOf (imgB S) 2 b.n) b.n b.n m0 = (rs, b.m, b.n - b.used)
  used : b.used ≤ b.n
  with_ : ∀ l ∈ rs, Within (min (S.firm.length - 2 - b.n) 2048) l
  few : rs.length ≤ 100000
  good : Good S
  byt : Byt S
  lit : Lit S
  ats : S.ats = []
  firm : S.firm.length = b.S.firm.length
  dur : Dur (newBk S b.n b.gen b.m b.used rs) m0 rs
  view : ∀ i, viewB (newBk S b.n b.gen b.m b.used rs) i = viewB b i
theorem again {b : Bk} {m0 : Mk} {rs : List (List Chg)} (h : Dur b m0 rs) (he : Ends b m0 rs) (ha : b.S.ats = []) (pick : List Int) : Again b m0 rs (crashOf b.S pick) := by
  obtain ⟨hi, hl⟩ := crash_flushed ha pick
  have hf := crash_firm b.S pick
  have hn := h.used_le
  have hbk := h.newBk (S := crashOf b.S pick)
  have hd := h.same (good_crash h.ok.good pick) (byt_crash h.ok.byt pick) hl hi (by simp [crashOf])
  refine ⟨by rw [hi]; exact h.title, h.m0p, by rw [hi]; exact h.found he, h.ok.ring.used, by rw [hf]; exact h.with_, Nat.le_trans (takes_all_len rs) (by have := h.ok.ring.n1; omega), good_crash h.ok.good pick, byt_crash h.ok.byt pick, hl, rfl, hf, ?_, ?_⟩
  · rw [hbk]
    exact hd.txn rising_nil (within_nil _) (by simp)
  · intro i
    rw [hbk]
    unfold viewB
    show (getM b.news i).getD ((imgB (crashOf b.S pick)).getD (2 + b.n + i) []) = _
    rw [hi]
end Go.Proofs.YtjkkbceddbkejaaGreatDoor
