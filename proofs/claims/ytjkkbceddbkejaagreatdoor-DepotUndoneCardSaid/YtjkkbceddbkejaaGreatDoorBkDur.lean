/-
  A book on a disk with fuel without end, and what a mount finds of it.
-/
import Derived.Test.YtjkkbceddbkejaaGreatDoorBkCommit
import Derived.Test.YtjkkbceddbkejaaGreatDoorBkMount
set_option linter.unusedSimpArgs false
set_option linter.unusedVariables false
namespace Go.Proofs.YtjkkbceddbkejaaGreatDoor
open Go.RowKit Sh

theorem dnew_len (n : Nat) : (newS n).firm.length = n := List.length_replicate
theorem img_length (S : St) : (imgB S).length = S.firm.length := imgB_length S
/-! The title is turned. -/
theorem later_mono (p : List UInt8) (r : Nat × Mk) : r.1 ≤ (laterB p r).1 := by
  unfold laterB
  split
  · rename_i h; exact Nat.le_of_lt h.1
  · exact Nat.le_refl _
theorem later_over {p : List UInt8} {r : Nat × Mk} {g : Nat} {m : Mk} (h : (laterB p r).1 < g) : laterB p (g, m) = (g, m) := by
  unfold laterB at h ⊢
  split at h
  · rename_i hc
    rw [if_neg (fun hh => by have := hh.1; simp only at this; omega)]
  · rename_i hc
    refine if_neg (fun hh => hc ⟨?_, hh.2⟩)
    have := hh.1
    simp only at this
    omega
theorem latest_set {img : List (List UInt8)} (hl : 2 ≤ img.length) {g : Nat} (h : (latestB img).1 < g) (hg : g < 18446744073709551616) {m : Mk} (hn : m.num < 18446744073709551616) (hp : m.place < 65536) (h3 : m.last.length = 32) {j : Nat} (hj : j < 2) :
    latestB (img.set j (titleB g m)) = (g, m) := by
  have h0 : (0 : Nat) < g := by omega
  rcases Nat.lt_or_ge j 1 with h1 | h1
  · obtain rfl : j = 0 := by omega
    have e0 : (img.set 0 (titleB g m)).getD 0 [] = titleB g m := by rw [List.getD_eq_getElem?_getD, List.getElem?_set_self (by omega)]; rfl
    have e1 : (img.set 0 (titleB g m)).getD 1 [] = img.getD 1 [] := by rw [List.getD_eq_getElem?_getD, List.getElem?_set_ne (by omega)]; rfl
    unfold latestB at h ⊢
    rw [e0, e1, later_title hg hn hp h3, if_pos h0]
    exact later_over h
  · obtain rfl : j = 1 := by omega
    have e0 : (img.set 1 (titleB g m)).getD 0 [] = img.getD 0 [] := by rw [List.getD_eq_getElem?_getD, List.getElem?_set_ne (by omega)]; rfl
    have e1 : (img.set 1 (titleB g m)).getD 1 [] = titleB g m := by rw [List.getD_eq_getElem?_getD, List.getElem?_set_self (by omega)]; rfl
    unfold latestB at h ⊢
    rw [e0, e1, later_title hg hn hp h3]
    exact if_pos (Nat.lt_of_le_of_lt (later_mono _ _) h)
theorem latest_same {a b : List (List UInt8)} (h0 : a[0]? = b[0]?) (h1 : a[1]? = b[1]?) : latestB a = latestB b := by
  unfold latestB
  simp only [List.getD_eq_getElem?_getD, h0, h1]
theorem homes_get {first : Nat} : ∀ {l : List Chg} {img : List (List UInt8)} {i : Nat}, Rising l → first + i < img.length → (homesB first img l)[first + i]? = some ((getM l i).getD (img.getD (first + i) []))
  | [], img, i, _, hi => by simp [homesB, getM, List.getElem?_eq_getElem hi]
  | c :: l, img, i, hr, hi => by
    obtain ⟨h1, h2⟩ := List.pairwise_cons.1 hr
    have ih := homes_get (l := l) (img := img.set (first + c.at_) c.what) (i := i) h2 (by simpa using hi)
    show (homesB first (img.set (first + c.at_) c.what) l)[first + i]? = _
    rw [ih, getM]
    by_cases e : c.at_ = i
    · subst e
      rw [if_pos rfl, rising_none (fun d hd => h1 d hd)]
      simp [hi]
    · rw [if_neg e]
      congr 2
      rw [List.getD_eq_getElem?_getD, List.getElem?_set_ne (by omega), List.getD_eq_getElem?_getD]
theorem homes_below {first : Nat} : ∀ (l : List Chg) (img : List (List UInt8)) (i : Nat), i < first → (homesB first img l)[i]? = img[i]?
  | [], _, _, _ => rfl
  | c :: l, img, i, hi => by
    show (homesB first (img.set (first + c.at_) c.what) l)[i]? = _
    rw [homes_below l _ i hi, List.getElem?_set_ne (by omega)]
theorem homes_len {first : Nat} : ∀ (l : List Chg) (img : List (List UInt8)), (homesB first img l).length = img.length
  | [], _ => rfl
  | c :: l, img => by
    show (homesB first (img.set (first + c.at_) c.what) l).length = _
    rw [homes_len l, List.length_set]

/-! What a book has. -/
def viewB (b : Bk) (i : Nat) : List UInt8 := (getM b.news i).getD ((imgB b.S).getD (2 + b.n + i) [])
structure Dur (b : Bk) (m0 : Mk) (rs : List (List Chg)) : Prop where
  ok : b.Ok
  lit : Lit b.S
  unb : b.broken = false
  title : latestB (imgB b.S) = (b.gen, m0)
  m0p : m0.place < b.n
  m0n : m0.num < 18446744073709551616
  m0l : m0.last.length = 32
  head : b.m = lastOf b.n m0 rs
  used : b.used = takesAll rs
  fit : ∀ l ∈ rs, Fit l
  laid : LaidR b.n (pgOf (imgB b.S) 2 b.n) m0 rs
  news : b.news = learnAll [] rs
  with_ : ∀ l ∈ rs, Within b.pages l
/-- Behind the records nothing begins. -/
def Ends (b : Bk) (m0 : Mk) (rs : List (List Chg)) : Prop := ¬ begins (pgOf (imgB b.S) 2 b.n) (b.n - takesAll rs) (lastOf b.n m0 rs)
section
variable {b : Bk} {m0 : Mk} {rs : List (List Chg)}
theorem Dur.txn (h : Dur b m0 rs) {t : List Chg} (h1 : Rising t) (h2 : Within b.pages t) (h3 : t.length ≤ 60) : Dur { b with txn := t } m0 rs :=
  ⟨h.ok.setTxn h1 h2 h3, h.lit, h.unb, h.title, h.m0p, h.m0n, h.m0l, h.head, h.used, h.fit, h.laid, h.news, h.with_⟩
/-- Page i, where nothing is under way on it. -/
theorem Dur.page (h : Dur b m0 rs) {i : Nat} (hi : i < b.pages) (ht : getM b.txn i = none) : pageOf b (i : Int) = (viewB b i, 0) := by
  have hhome := h.ok.home hi
  unfold pageOf viewB
  rw [if_neg (by simp [h.unb]), if_neg (by omega), Int.toNat_natCast, ht]
  cases hg : getM b.news i with
  | some p => rfl
  | none =>
    simp only [Option.getD_none]
    have e : (2 + (b.n : Int) + (i : Int)) = ((2 + b.n + i : Nat) : Int) := by omega
    rw [e, img_read h.ok.byt h.lit.on hhome]
    simp [bytesOf_cu8]
theorem Dur.page_txn (h : Dur b m0 rs) {i : Nat} (hi : i < b.pages) {p : List UInt8} (ht : getM b.txn i = some p) : pageOf b (i : Int) = (p, 0) := by
  unfold pageOf
  rw [if_neg (by simp [h.unb]), if_neg (by omega), Int.toNat_natCast, ht]
theorem Dur.view_len (h : Dur b m0 rs) {i : Nat} (hi : i < b.pages) : (viewB b i).length = 64 := by
  unfold viewB
  cases hg : getM b.news i with
  | some p => exact (h.ok.newsW _ (mem_of_getM hg)).2
  | none => exact (imgB_get h.ok.byt (h.ok.home hi)).2
/-- The disk alone turned, and has what it had. -/
theorem Dur.same (h : Dur b m0 rs) {S : St} (hG : Good S) (hB : Byt S) (hL : Lit S) (hi : imgB S = imgB b.S) (hc : S.ats.length ≤ 20000) : Dur { b with S := S } m0 rs := by
  have hf : S.firm.length = b.S.firm.length := by rw [← img_length, hi, img_length]
  have ep : ({ b with S := S } : Bk).pages = b.pages := pages_of hf rfl
  exact ⟨h.ok.turn hG hB hf hc, hL, h.unb, by show latestB (imgB S) = _; rw [hi]; exact h.title, h.m0p, h.m0n, h.m0l, h.head, h.used, h.fit, by show LaidR b.n (pgOf (imgB S) 2 b.n) m0 rs; rw [hi]; exact h.laid, h.news, by rw [ep]; exact h.with_⟩
theorem view_same {S : St} (hi : imgB S = imgB b.S) (i : Nat) : viewB { b with S := S } i = viewB b i := by unfold viewB; rw [hi]
/-- Sync. -/
theorem Dur.sync (h : Dur b m0 rs) : syncOf b = ({ b with S := (flushOf b.S).1 }, 0) ∧ Dur { b with S := (flushOf b.S).1 } m0 rs ∧ (flushOf b.S).1.ats = [] ∧ imgB (flushOf b.S).1 = imgB b.S := by
  obtain ⟨e, hl, hi, ha⟩ := flush_lit h.lit
  refine ⟨?_, h.same (good_flush h.ok.good) (byt_flush h.ok.byt) hl hi (by rw [ha]; simp), ha, hi⟩
  unfold syncOf
  rw [if_neg (by simp [h.unb]), keptOf_ok (by exact e)]
  simp [e]
/-- A record is added. -/
theorem add_learn {l : List Chg} : learnAll [] (rs ++ [l]) = learnM (learnAll [] rs) l := by simp [learnAll, List.foldl_append]
theorem Dur.add (h : Dur b m0 rs) {l : List Chg} (hl : Fit l) (hw : Within b.pages l) (ht : takes l.length ≤ b.n - b.used) (hp : b.S.ats.length ≤ 10000) :
    (addOf b l).2 = 0 ∧ Dur (addOf b l).1 m0 (rs ++ [l]) ∧ imgB (addOf b l).1.S = putAll 2 b.n (imgB b.S) b.m.place (sectors b.m l) ∧ (addOf b l).1.news = learnM b.news l ∧ (addOf b l).1.txn = b.txn ∧ (addOf b l).1.n = b.n ∧ (addOf b l).1.gen = b.gen ∧ (addOf b l).1.S.firm.length = b.S.firm.length ∧
    (addOf b l).1.S.ats.length ≤ b.S.ats.length + takes l.length := by
  have hr := h.ok.ring
  have hn0 : 0 < b.n := by have := hr.n0; omega
  have hroom := h.ok.room
  obtain ⟨h1, h2, h3, _⟩ := writes_lit (first := 2) (n := b.n) hn0 (sectors b.m l) b.S b.m.place h.lit h.ok.good (by omega)
  obtain ⟨ok', hf, hc, _⟩ := add_ok h.ok hp hl hw ht
  have e : addOf b l = ({ b with S := (writesOf 2 b.n b.S b.m.place (sectors b.m l)).1, m := endM b.n b.m l, used := b.used + takes l.length, news := learnM b.news l }, 0) := by
    unfold addOf
    simp only
    rw [if_pos h1]
  have hi : 2 + b.n ≤ (imgB b.S).length := by rw [img_length]; omega
  have ht2 : takesAll (rs ++ [l]) ≤ b.n := by
    have := h.used; have := hr.used
    rw [takesAll_append, takesAll_cons]; simp [takesAll] at *; omega
  rw [e] at ok' hf hc ⊢
  have hlaid := laid_add hn0 hi h.laid ht2
  have hclean : ∀ i, i < 2 → (putAll 2 b.n (imgB b.S) b.m.place (sectors b.m l))[i]? = (imgB b.S)[i]? := fun i hi => put_out 2 b.n hn0 _ _ _ i (.inl hi)
  have ep : ({ b with S := (writesOf 2 b.n b.S b.m.place (sectors b.m l)).1, m := endM b.n b.m l, used := b.used + takes l.length, news := learnM b.news l } : Bk).pages = b.pages := pages_of hf rfl
  refine ⟨rfl, ⟨ok', h2, h.unb, ?_, h.m0p, h.m0n, h.m0l, ?_, ?_, ?_, ?_, ?_, ?_⟩, h3, rfl, rfl, rfl, rfl, hf, hc⟩
  · show latestB (imgB (writesOf 2 b.n b.S b.m.place (sectors b.m l)).1) = _
    rw [h3, latest_same (hclean 0 (by omega)) (hclean 1 (by omega))]
    exact h.title
  · show endM b.n b.m l = _
    rw [lastOf_append, ← h.head]; rfl
  · show b.used + takes l.length = _
    rw [takesAll_append, takesAll_cons, ← h.used]; simp [takesAll]
  · intro x hx
    rcases List.mem_append.1 hx with hx | hx
    · exact h.fit x hx
    · rw [List.mem_singleton.1 hx]; exact hl
  · show LaidR b.n (pgOf (imgB (writesOf 2 b.n b.S b.m.place (sectors b.m l)).1) 2 b.n) m0 (rs ++ [l])
    rw [h3, h.head]; exact hlaid
  · show learnM b.news l = _
    rw [add_learn, ← h.news]
  · intro x hx
    rw [ep]
    rcases List.mem_append.1 hx with hx | hx
    · exact h.with_ x hx
    · rw [List.mem_singleton.1 hx]; exact hw
/-- Commit, where there is room. -/
theorem Dur.commit (h : Dur b m0 rs) (hne : b.txn ≠ []) (ht : takes b.txn.length ≤ b.n - b.used) : commitOf b = ((addOf { b with txn := [] } b.txn).1, (addOf { b with txn := [] } b.txn).2) ∨ (addOf { b with txn := [] } b.txn).2 ≠ 0 := by
  by_cases h0 : (addOf { b with txn := [] } b.txn).2 = 0
  · left
    unfold commitOf
    rw [if_neg (by simp [h.unb]), if_neg hne]
    simp only
    rw [if_pos ht, keptOf_ok h0]
  · exact .inr h0

/-! What a mount finds. -/
theorem takes_all_len : ∀ rs : List (List Chg), rs.length ≤ takesAll rs
  | [] => by simp
  | l :: rs => by
    have := takes_all_len rs
    have := takes_pos l.length
    rw [takesAll_cons, List.length_cons]; omega
theorem Dur.used_le (h : Dur b m0 rs) : takesAll rs ≤ b.n := by rw [← h.used]; exact h.ok.ring.used
theorem Dur.found (h : Dur b m0 rs) (he : Ends b m0 rs) : openAll b.n (pgOf (imgB b.S) 2 b.n) b.n b.n m0 = (rs, b.m, b.n - b.used) := by
  have := open_laid (n := b.n) (pg := pgOf (imgB b.S) 2 b.n) (pgOf_mod_add _ _ _) h.laid h.fit h.used_le he
  rw [this, h.used, ← h.head]
theorem Dur.newBk (h : Dur b m0 rs) {S : St} : newBk S b.n b.gen b.m b.used rs = { b with S := S, txn := [] } := by
  unfold Go.Proofs.YtjkkbceddbkejaaGreatDoor.newBk
  rw [← h.news]
  have := h.unb
  cases b; simp_all
/-- All is brought home. -/
theorem Dur.bring (h : Dur b m0 rs) (hg : b.gen + 1 < 18446744073709551616) : (bringOf b).2 = 0 ∧ Dur (bringOf b).1 (nextMk b) [] ∧ (∀ i, i < b.pages → viewB (bringOf b).1 i = viewB b i) ∧ (bringOf b).1.pages = b.pages ∧ (bringOf b).1.gen = b.gen + 1 ∧ (bringOf b).1.n = b.n ∧ (bringOf b).1.txn = b.txn ∧
    (∀ i, 2 ≤ i → i < 2 + b.n → (imgB (bringOf b).1.S)[i]? = (imgB b.S)[i]?) ∧ (bringOf b).1.S.ats = [] ∧ (bringOf b).1.news = [] ∧ (bringOf b).1.m = nextMk b ∧ (bringOf b).1.S.firm.length = b.S.firm.length := by
  have hpend : b.S.ats.length ≤ 20000 := h.ok.pend
  obtain ⟨e2, hl, eb, hi⟩ := bring_lit h.ok h.lit
  have hroom := h.ok.room
  have s := steps h.ok
  have hfl : (bringOf b).1.S.firm.length = b.S.firm.length := by
    rw [← img_length, hi, List.length_set, homes_len, img_length]
  have hats : (bringOf b).1.S.ats = [] := by
    have e5 : (st5 b).2 = 0 ∧ (bringOf b).1.S = (st5 b).1 := by
      unfold bringOf at e2 ⊢
      split at e2
      · rename_i hh; exact absurd e2 hh
      · rename_i g1
        split at e2
        · rename_i hh; exact absurd e2 hh
        · rename_i g2
          split at e2
          · rename_i hh; exact absurd e2 hh
          · rename_i g3
            split at e2
            · rename_i hh; exact absurd e2 hh
            · rename_i g4
              split at e2
              · rename_i hh; exact absurd e2 hh
              · rename_i g5
                refine ⟨by simpa using g5, ?_⟩
                rw [if_neg g1, if_neg g2, if_neg g3, if_neg g4, if_neg g5]
    rw [e5.2]; exact flush_zero e5.1
  have hG5 : Good (bringOf b).1.S ∧ Byt (bringOf b).1.S := by
    unfold bringOf
    repeat' split
    · exact ⟨s.g1, s.b1⟩
    · exact ⟨s.g2, s.b2⟩
    · exact ⟨s.g3, s.b3⟩
    · exact ⟨s.g4, s.b4⟩
    · exact ⟨s.g5, s.b5⟩
    · exact ⟨s.g5, s.b5⟩
  have hgen : nextGen b = b.gen + 1 := Nat.mod_eq_of_lt hg
  have hn : (bringOf b).1.n = b.n := by rw [eb]
  have ep : (bringOf b).1.pages = b.pages := pages_of hfl hn
  have hr := h.ok.ring
  have h2 := Nat.mod_lt (nextGen b) (show 0 < 2 by omega)
  have hok : (bringOf b).1.Ok := by
    refine ⟨hG5.1, hG5.2, ?_, ?_, ?_, ?_, by rw [hats]; simp, ?_, ?_, ?_, ?_, ?_⟩
    · rw [eb]; exact ⟨hr.n0, hr.n1, hr.first, hr.place, hr.num, Nat.zero_le _⟩
    · rw [eb]; exact nextMk_last b
    · rw [hfl, hn]; exact hroom
    · rw [eb]; exact nextGen_lt b
    · rw [eb]; exact rising_nil
    · rw [ep, eb]; exact within_nil _
    · rw [eb]; exact h.ok.txnR
    · rw [ep, eb]; exact h.ok.txnW
    · rw [eb]; exact h.ok.txn60
  have hhb : ∀ i, i < 2 + b.n → (homesB (2 + b.n) (imgB b.S) b.news)[i]? = (imgB b.S)[i]? := fun i hi => homes_below _ _ i hi
  have htl : latestB (imgB (bringOf b).1.S) = (nextGen b, nextMk b) := by
    rw [hi]
    refine latest_set (by rw [homes_len, img_length]; omega) ?_ (nextGen_lt b) (by exact hr.num) (by have := hr.place; have := hr.n1; show b.m.place < 65536; omega) (nextMk_last b) h2
    rw [latest_same (hhb 0 (by omega)) (hhb 1 (by omega)), h.title, hgen]
    exact Nat.lt_succ_self _
  refine ⟨e2, ⟨hok, hl, ?_, ?_, ?_, hr.num, nextMk_last b, ?_, ?_, fun l hl => by simp at hl, trivial, ?_, fun l hl => by simp at hl⟩, ?_, ep, ?_, hn, by rw [eb], ?_, hats, by rw [eb], by rw [eb], hfl⟩
  · rw [eb]; exact h.unb
  · rw [htl]; rw [eb]
  · rw [hn]; exact hr.place
  · rw [eb]; rfl
  · rw [eb]; rfl
  · rw [eb]; rfl
  · intro i hi'
    have hhome := h.ok.home hi'
    unfold viewB
    have en : (bringOf b).1.news = [] := by rw [eb]
    rw [en, hn, hi]
    show ((homesB (2 + b.n) (imgB b.S) b.news).set (nextGen b % 2) (titleB (nextGen b) (nextMk b))).getD (2 + b.n + i) [] = _
    rw [List.getD_eq_getElem?_getD, List.getElem?_set_ne (by omega), homes_get h.ok.newsR (by rw [img_length]; omega)]
    rfl
  · rw [eb]; exact hgen
  · intro i h2i hin
    rw [hi, List.getElem?_set_ne (by omega), hhb i (by omega)]
end
end Go.Proofs.YtjkkbceddbkejaaGreatDoor
