/-
  What holds of every book; a book on a disk that is on, with fuel without end.
-/
import Derived.Test.YtjkkbceddbkejaaGreatDoorBkState
import Derived.Test.YtjkkbceddbkejaaGreatDoorJLw
set_option linter.unusedSimpArgs false
set_option linter.unusedVariables false
namespace Go.Proofs.YtjkkbceddbkejaaGreatDoor
open Go.RowKit Sh

theorem rising_len : ∀ {D : Nat} {l : List Chg}, Rising l → (∀ c ∈ l, c.at_ < D) → l.length ≤ D := by
  have key : ∀ (l : List Chg) (a D : Nat), Rising l → (∀ c ∈ l, a ≤ c.at_ ∧ c.at_ < D) → l.length ≤ D - a := by
    intro l
    induction l with
    | nil => intro a D _ _; simp
    | cons c l ih =>
      intro a D h hD
      obtain ⟨h1, h2⟩ := List.pairwise_cons.1 h
      have hc := hD c (by simp)
      have := ih (c.at_ + 1) D h2 (fun d hd => ⟨h1 d hd, (hD d (by simp [hd])).2⟩)
      simp only [List.length_cons]; omega
  intro D l h hD
  have := key l 0 D h (fun c hc => ⟨Nat.zero_le _, hD c hc⟩)
  omega
theorem within_learn {D : Nat} : ∀ {l m : List Chg}, Within D m → Within D l → Within D (learnM m l)
  | [], _, h, _ => h
  | c :: l, m, h, hl => within_learn (l := l) (within_put h (hl c (by simp)).1 (hl c (by simp)).2) (fun d hd => hl d (by simp [hd]))
theorem rising_learn : ∀ {l m : List Chg}, Rising m → Rising (learnM m l)
  | [], _, h => h
  | _ :: l, _, h => rising_learn (l := l) (rising_put h)
theorem within_nil (D : Nat) : Within D [] := fun c hc => by simp at hc
theorem rising_nil : Rising [] := List.Pairwise.nil

/-! Homes. -/
theorem homes_firm (first : Nat) : ∀ (l : List Chg) (S : St), (homesOf first S l).1.firm = S.firm
  | [], _ => rfl
  | c :: l, S => by
    unfold homesOf
    split
    · rw [homes_firm first l, write_firm]
    · exact write_firm _ _ _
theorem homes_good (first : Nat) : ∀ (l : List Chg) (S : St), Good S → Good (homesOf first S l).1
  | [], _, h => h
  | c :: l, S, h => by
    unfold homesOf
    split
    · exact homes_good first l _ (good_write h _ _)
    · exact good_write h _ _
theorem homes_byt (first : Nat) : ∀ (l : List Chg) (S : St), (∀ c ∈ l, c.what.length = 64) → Byt S → Byt (homesOf first S l).1
  | [], _, _, h => h
  | c :: l, S, hl, h => by
    have hb := byt_write h ((first + c.at_ : Nat) : Int) (p := c.what.map cu8) ⟨c.what, hl c (by simp), rfl⟩
    unfold homesOf
    split
    · exact homes_byt first l _ (fun d hd => hl d (by simp [hd])) hb
    · exact hb
theorem homes_count (first : Nat) : ∀ (l : List Chg) (S : St), (homesOf first S l).1.ats.length ≤ S.ats.length + l.length
  | [], _ => by simp [homesOf]
  | c :: l, S => by
    have := write_count S ((first + c.at_ : Nat) : Int) (c.what.map cu8)
    unfold homesOf
    rw [List.length_cons]
    split
    · have := homes_count first l (writeOf S ((first + c.at_ : Nat) : Int) (c.what.map cu8)).1; omega
    · omega
def homesB (first : Nat) (img : List (List UInt8)) (l : List Chg) : List (List UInt8) := l.foldl (fun img c => img.set (first + c.at_) c.what) img
theorem homes_lit {first D : Nat} : ∀ (l : List Chg) (S : St), Lit S → Good S → (∀ c ∈ l, c.at_ < D) → first + D ≤ S.firm.length →
    (homesOf first S l).2 = 0 ∧ Lit (homesOf first S l).1 ∧ imgB (homesOf first S l).1 = homesB first (imgB S) l
  | [], S, h, _, _, _ => ⟨rfl, h, rfl⟩
  | c :: l, S, h, hG, hD, hf => by
    have hc := hD c (by simp)
    obtain ⟨e, hl⟩ := h.write (i := first + c.at_) (by omega) (c.what.map cu8)
    have hG' := good_write hG ((first + c.at_ : Nat) : Int) (c.what.map cu8)
    rw [e] at hl hG'
    unfold homesOf
    rw [e, if_pos rfl]
    obtain ⟨h1, h2, h3⟩ := homes_lit l _ hl hG' (fun d hd => hD d (by simp [hd])) hf
    exact ⟨h1, h2, by rw [h3, imgB_write hG]; rfl⟩

/-! All brought home. -/
section
variable {b : Bk}
theorem Bk.Ok.le (h : b.Ok) : b.S.firm.length ≤ 4096 := h.good.le
theorem Bk.Ok.news_len (h : b.Ok) : b.news.length ≤ 2048 := Nat.le_trans (rising_len h.newsR (fun c hc => (h.newsW c hc).1)) (by unfold Bk.pages; omega)
theorem Bk.Ok.home (h : b.Ok) {i : Nat} (hi : i < b.pages) : 2 + b.n + i < b.S.firm.length := by have := h.room; unfold Bk.pages at hi; omega
theorem nextGen_lt (b : Bk) : nextGen b < 18446744073709551616 := Nat.mod_lt _ (by omega)
theorem nextMk_last (b : Bk) : (nextMk b).last.length = 32 := dig_len _
theorem title_len (b : Bk) : (titleB (nextGen b) (nextMk b)).length = 64 := titleB_len (nextMk_last b)
/-- The five states are good. -/
structure Steps (b : Bk) : Prop where
  g1 : Good (st1 b).1
  g2 : Good (st2 b).1
  g3 : Good (st3 b).1
  g4 : Good (st4 b).1
  g5 : Good (st5 b).1
  b1 : Byt (st1 b).1
  b2 : Byt (st2 b).1
  b3 : Byt (st3 b).1
  b4 : Byt (st4 b).1
  b5 : Byt (st5 b).1
  f1 : (st1 b).1.firm.length = b.S.firm.length
  f2 : (st2 b).1.firm.length = b.S.firm.length
  f3 : (st3 b).1.firm.length = b.S.firm.length
  f4 : (st4 b).1.firm.length = b.S.firm.length
  f5 : (st5 b).1.firm.length = b.S.firm.length
  c1 : (st1 b).1.ats.length ≤ b.S.ats.length
  c2 : (st2 b).1.ats.length ≤ b.S.ats.length + 2048
  c3 : (st3 b).1.ats.length ≤ b.S.ats.length + 2048
  c4 : (st4 b).1.ats.length ≤ b.S.ats.length + 2049
  c5 : (st5 b).1.ats.length ≤ b.S.ats.length + 2049
theorem steps (h : b.Ok) : Steps b := by
  have g1 := good_flush h.good
  have b1 := byt_flush h.byt
  have f1 := flush_firm b.S
  have c1 := flush_count b.S
  have g2 := homes_good (2 + b.n) b.news _ g1
  have b2 := homes_byt (2 + b.n) b.news _ (fun c hc => (h.newsW c hc).2) b1
  have f2 : (st2 b).1.firm.length = b.S.firm.length := by unfold st2; rw [homes_firm]; exact f1
  have c2 : (st2 b).1.ats.length ≤ b.S.ats.length + 2048 := by have := homes_count (2 + b.n) b.news (st1 b).1; have := h.news_len; unfold st2; unfold st1 at *; omega
  have g3 := good_flush g2
  have b3 := byt_flush b2
  have f3 : (st3 b).1.firm.length = b.S.firm.length := (flush_firm _).trans f2
  have c3 : (st3 b).1.ats.length ≤ b.S.ats.length + 2048 := Nat.le_trans (flush_count _) c2
  have g4 := good_write g3 ((nextGen b % 2 : Nat) : Int) ((titleB (nextGen b) (nextMk b)).map cu8)
  have b4 := byt_write b3 ((nextGen b % 2 : Nat) : Int) (p := (titleB (nextGen b) (nextMk b)).map cu8) ⟨_, title_len b, rfl⟩
  have f4 : (st4 b).1.firm.length = b.S.firm.length := (congrArg List.length (write_firm _ _ _)).trans f3
  have c4 : (st4 b).1.ats.length ≤ b.S.ats.length + 2049 := by have := write_count (st3 b).1 ((nextGen b % 2 : Nat) : Int) ((titleB (nextGen b) (nextMk b)).map cu8); unfold st4; omega
  exact ⟨g1, g2, g3, g4, good_flush g4, b1, b2, b3, b4, byt_flush b4, f1, f2, f3, f4, (flush_firm _).trans f4, c1, c2, c3, c4, Nat.le_trans (flush_count _) c4⟩
theorem pages_of {b b' : Bk} (hf : b'.S.firm.length = b.S.firm.length) (hn : b'.n = b.n) : b'.pages = b.pages := by unfold Bk.pages; rw [hf, hn]
/-- A book whose disk alone has turned. -/
theorem Bk.Ok.turn (h : b.Ok) {S : St} (hG : Good S) (hB : Byt S) (hf : S.firm.length = b.S.firm.length) (hc : S.ats.length ≤ 20000) : ({ b with S := S } : Bk).Ok := by
  have e : ({ b with S := S } : Bk).pages = b.pages := pages_of hf rfl
  refine ⟨hG, hB, h.ring, h.last, ?_, h.gen, hc, h.newsR, ?_, h.txnR, ?_, h.txn60⟩
  · show 3 + b.n ≤ S.firm.length; rw [hf]; exact h.room
  · rw [e]; exact h.newsW
  · rw [e]; exact h.txnW
/-- .. and is as it was but for the disk, on an error; else there are no news, and nothing is pending. -/
theorem bring_same (b : Bk) : (bringOf b).1.n = b.n ∧ (bringOf b).1.txn = b.txn ∧ (bringOf b).1.broken = b.broken := by
  unfold bringOf
  repeat' split
  all_goals exact ⟨rfl, rfl, rfl⟩
theorem flush_zero {S : St} (h : (flushOf S).2 = 0) : (flushOf S).1.ats = [] := by
  unfold flushOf at h ⊢
  split
  · rename_i hc; rw [if_pos hc] at h; simp at h
  · rfl
theorem bring_ok (h : b.Ok) (hp : b.S.ats.length ≤ 10000) : (bringOf b).1.Ok ∧ (bringOf b).1.S.firm.length = b.S.firm.length ∧ ((bringOf b).2 = 0 → (bringOf b).1.S.ats = [] ∧ (bringOf b).1.used = 0 ∧ (bringOf b).1.news = []) := by
  have s := steps h
  unfold bringOf
  split
  · exact ⟨h.turn s.g1 s.b1 s.f1 (by have := s.c1; omega), s.f1, fun e => absurd e (by assumption)⟩
  · split
    · exact ⟨h.turn s.g2 s.b2 s.f2 (by have := s.c2; omega), s.f2, fun e => absurd e (by assumption)⟩
    · split
      · exact ⟨h.turn s.g3 s.b3 s.f3 (by have := s.c3; omega), s.f3, fun e => absurd e (by assumption)⟩
      · split
        · exact ⟨h.turn s.g4 s.b4 s.f4 (by have := s.c4; omega), s.f4, fun e => absurd e (by assumption)⟩
        · split
          · exact ⟨h.turn s.g5 s.b5 s.f5 (by have := s.c5; omega), s.f5, fun e => absurd e (by assumption)⟩
          · rename_i e5
            have e5' : (st5 b).2 = 0 := by omega
            have t := h.turn s.g5 s.b5 s.f5 (by have := s.c5; omega)
            have hr := h.ring
            have ep : ({ b with S := (st5 b).1, gen := nextGen b, m := nextMk b, used := 0, news := [] } : Bk).pages = b.pages := pages_of s.f5 rfl
            refine ⟨⟨t.good, t.byt, ⟨hr.n0, hr.n1, hr.first, hr.place, hr.num, Nat.zero_le _⟩, nextMk_last b, t.room, nextGen_lt b, t.pend, rising_nil, within_nil _, h.txnR, by rw [ep]; exact h.txnW, h.txn60⟩, s.f5, fun _ => ⟨flush_zero e5', rfl, rfl⟩⟩
/-- On a disk that is on. -/
theorem bring_lit (h : b.Ok) (hL : Lit b.S) : (bringOf b).2 = 0 ∧ Lit (bringOf b).1.S ∧ (bringOf b).1 = { b with S := (bringOf b).1.S, gen := nextGen b, m := nextMk b, used := 0, news := [] } ∧
    imgB (bringOf b).1.S = (homesB (2 + b.n) (imgB b.S) b.news).set (nextGen b % 2) (titleB (nextGen b) (nextMk b)) := by
  have s := steps h
  obtain ⟨a1, l1, i1, _⟩ := flush_lit hL
  have hr := h.room
  obtain ⟨a2, l2, i2⟩ := homes_lit (first := 2 + b.n) (D := b.pages) b.news (st1 b).1 l1 s.g1 (fun c hc => (h.newsW c hc).1) (by rw [s.f1]; unfold Bk.pages; omega)
  obtain ⟨a3, l3, i3, _⟩ := flush_lit l2
  have h2 := Nat.mod_lt (nextGen b) (show 0 < 2 by omega)
  obtain ⟨e4, l4⟩ := l3.write (i := nextGen b % 2) (by show _ < (st3 b).1.firm.length; rw [s.f3]; omega) ((titleB (nextGen b) (nextMk b)).map cu8)
  have a4 : (st4 b).2 = 0 := by unfold st4; exact congrArg Prod.snd e4
  have i4 : imgB (st4 b).1 = (imgB (st3 b).1).set (nextGen b % 2) (titleB (nextGen b) (nextMk b)) := by
    have : (st4 b).1 = { (st3 b).1 with ats := (st3 b).1.ats ++ [((nextGen b % 2 : Nat) : Int)], what := (st3 b).1.what ++ [(titleB (nextGen b) (nextMk b)).map cu8] } := by unfold st4; exact congrArg Prod.fst e4
    rw [this]; exact imgB_write s.g3 _
  obtain ⟨a5, l5, i5, _⟩ := flush_lit l4
  have e : bringOf b = ({ b with S := (st5 b).1, gen := nextGen b, m := nextMk b, used := 0, news := [] }, 0) := by
    unfold bringOf
    rw [if_neg (by rw [show (st1 b).2 = 0 from a1]; simp), if_neg (by rw [show (st2 b).2 = 0 from a2]; simp), if_neg (by rw [show (st3 b).2 = 0 from a3]; simp), if_neg (by rw [a4]; simp), if_neg (by rw [show (st5 b).2 = 0 from a5]; simp)]
  rw [e]
  refine ⟨rfl, l5, rfl, ?_⟩
  show imgB (st5 b).1 = _
  rw [show imgB (st5 b).1 = imgB (st4 b).1 from i5, i4, show imgB (st3 b).1 = imgB (st2 b).1 from i3, show imgB (st2 b).1 = _ from i2, show imgB (st1 b).1 = imgB b.S from i1]
end
end Go.Proofs.YtjkkbceddbkejaaGreatDoor
