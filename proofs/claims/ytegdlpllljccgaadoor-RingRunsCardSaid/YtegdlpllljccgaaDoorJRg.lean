import Derived.Test.YtegdlpllljccgaaDoorJSha
import Derived.Test.YtegdlpllljccgaaDoorProg
import Derived.WalkKit
import Derived.IntWalk
import Derived.Deep.LoopGhost
set_option linter.unusedSimpArgs false
set_option linter.unusedVariables false
/-
  Layer 5's records as plain lists of bytes: how a record is laid on pages, what stands at a mark, what is found behind it; and: what is found where pages were lost is a first part of what was laid, or two unlike texts have one digest.
-/
namespace Go.Proofs.YtegdlpllljccgaaDoor
open Sh

def le8 (x : Nat) : List UInt8 := (List.range 8).map fun i => UInt8.ofNat (x / 2 ^ (8 * i))
def le4 (x : Nat) : List UInt8 := [UInt8.ofNat x, UInt8.ofNat (x / 256), UInt8.ofNat (x / 65536), UInt8.ofNat (x / 16777216)]
def takes (k : Nat) : Nat := 1 + (k + 15) / 16 + k
structure Chg where
  at_ : Nat
  what : List UInt8
structure Mk where
  place : Nat
  num : Nat
  last : List UInt8
def head10 (num k : Nat) : List UInt8 := 84 :: (le8 num ++ [UInt8.ofNat k])
def pad64 (l : List UInt8) : List UInt8 := l ++ List.replicate (64 - l.length) 0
def numsPage (l : List Chg) (i : Nat) : List UInt8 := pad64 (((l.drop (16 * i)).take 16).flatMap fun c => le4 c.at_)
def body (l : List Chg) : List (List UInt8) := (List.range ((l.length + 15) / 16)).map (numsPage l) ++ l.map (·.what)
def textOf (m : Mk) (l : List Chg) : List UInt8 := m.last ++ (head10 m.num l.length ++ (body l).flatten)
def firstOf (m : Mk) (l : List Chg) : List UInt8 := head10 m.num l.length ++ (dig (textOf m l) ++ List.replicate 22 0)
def sectors (m : Mk) (l : List Chg) : List (List UInt8) := firstOf m l :: body l
def behind (n : Nat) (m : Mk) (k : Nat) (d : List UInt8) : Mk := ⟨(m.place + takes k) % n, (m.num + 1) % 18446744073709551616, d⟩

-- what stands at a mark: pg: the page of a place
def kOf (pg : Nat → List UInt8) (m : Mk) : Nat := (at8 (pg m.place) 9).toNat
def begins (pg : Nat → List UInt8) (free : Nat) (m : Mk) : Prop := (pg m.place).take 10 = head10 m.num (kOf pg m) ∧ 1 ≤ kOf pg m ∧ kOf pg m ≤ 60 ∧ takes (kOf pg m) ≤ free
instance (pg : Nat → List UInt8) (free : Nat) (m : Mk) : Decidable (begins pg free m) := inferInstanceAs (Decidable (_ ∧ _))
def rest (pg : Nat → List UInt8) (p k : Nat) : List (List UInt8) := (List.range (takes k - 1)).map fun i => pg (p + (1 + i))
def rawText (pg : Nat → List UInt8) (m : Mk) : List UInt8 := m.last ++ ((pg m.place).take 10 ++ (rest pg m.place (kOf pg m)).flatten)
def num4 (p : List UInt8) (o : Nat) : Nat := (at8 p o).toNat + 256 * (at8 p (o + 1)).toNat + 65536 * (at8 p (o + 2)).toNat + 16777216 * (at8 p (o + 3)).toNat
def decode (rs : List (List UInt8)) (k : Nat) : List Chg := (List.range k).map fun c => ⟨num4 (rs.getD (c / 16) []) (4 * (c % 16)), rs.getD ((k + 15) / 16 + c) []⟩
def holds (pg : Nat → List UInt8) (free : Nat) (m : Mk) : Prop := begins pg free m ∧ dig (rawText pg m) = ((pg m.place).drop 10).take 32
instance (pg : Nat → List UInt8) (free : Nat) (m : Mk) : Decidable (holds pg free m) := inferInstanceAs (Decidable (_ ∧ _))
def found (pg : Nat → List UInt8) (m : Mk) : List Chg := decode (rest pg m.place (kOf pg m)) (kOf pg m)

/-- What is found from a mark on, and the mark behind it, and what is free there. The first number only bounds the rounds. -/
def openAll (n : Nat) (pg : Nat → List UInt8) : Nat → Nat → Mk → List (List Chg) × Mk × Nat
  | 0, free, m => ([], m, free)
  | f + 1, free, m =>
    if holds pg free m then
      let r := openAll n pg f (free - takes (kOf pg m)) (behind n m (kOf pg m) (dig (rawText pg m)))
      (found pg m :: r.1, r.2)
    else ([], m, free)
/-- What is summed on that way. -/
def chainAll (n : Nat) (pg : Nat → List UInt8) : Nat → Nat → Mk → List (List UInt8) × Mk
  | 0, _, m => ([], m)
  | f + 1, free, m =>
    if begins pg free m then
      if holds pg free m then
        let r := chainAll n pg f (free - takes (kOf pg m)) (behind n m (kOf pg m) (dig (rawText pg m)))
        (rawText pg m :: r.1, r.2)
      else ([rawText pg m], m)
    else ([], m)

theorem takes_pos (k : Nat) : 1 ≤ takes k := by unfold takes; omega
theorem holds_free {pg : Nat → List UInt8} {free : Nat} {m : Mk} (h : holds pg free m) : 3 ≤ free ∧ takes (kOf pg m) ≤ free := by
  have h1 := h.1.2.1; have h2 := h.1.2.2.2
  have h3 : 3 ≤ takes (kOf pg m) := by unfold takes; omega
  exact ⟨by omega, h2⟩
/-- Rounds beyond what is free change nothing. -/
theorem openAll_rounds (n : Nat) (pg : Nat → List UInt8) : ∀ (f g free : Nat) (m : Mk), free ≤ f → free ≤ g → openAll n pg f free m = openAll n pg g free m
  | 0, 0, _, _, _, _ => rfl
  | 0, g + 1, free, m, h, _ => by
    have : ¬ holds pg free m := fun hh => by have := holds_free hh; omega
    simp [openAll, this]
  | f + 1, 0, free, m, _, h => by
    have : ¬ holds pg free m := fun hh => by have := holds_free hh; omega
    simp [openAll, this]
  | f + 1, g + 1, free, m, h1, h2 => by
    unfold openAll
    by_cases hh : holds pg free m
    · have := holds_free hh
      have := takes_pos (kOf pg m)
      rw [if_pos hh, if_pos hh, openAll_rounds n pg f g _ _ (by omega) (by omega)]
    · rw [if_neg hh, if_neg hh]
theorem chainAll_rounds (n : Nat) (pg : Nat → List UInt8) : ∀ (f g free : Nat) (m : Mk), free ≤ f → free ≤ g → chainAll n pg f free m = chainAll n pg g free m
  | 0, 0, _, _, _, _ => rfl
  | 0, g + 1, free, m, h, _ => by
    have : ¬ begins pg free m := fun hh => by have := hh.2.2.2; have := takes_pos (kOf pg m); omega
    simp [chainAll, this]
  | f + 1, 0, free, m, _, h => by
    have : ¬ begins pg free m := fun hh => by have := hh.2.2.2; have := takes_pos (kOf pg m); omega
    simp [chainAll, this]
  | f + 1, g + 1, free, m, h1, h2 => by
    unfold chainAll
    by_cases hb : begins pg free m
    · rw [if_pos hb, if_pos hb]
      by_cases hh : holds pg free m
      · have := holds_free hh
        have := takes_pos (kOf pg m)
        rw [if_pos hh, if_pos hh, chainAll_rounds n pg f g _ _ (by omega) (by omega)]
      · rw [if_neg hh, if_neg hh]
    · rw [if_neg hb, if_neg hb]

-- lengths
theorem head10_length (num k : Nat) : (head10 num k).length = 10 := by simp [head10, le8]
theorem dig_len (m : List UInt8) : (dig m).length = 32 := rfl
theorem at8_head10 (num k : Nat) (l : List UInt8) : at8 (head10 num k ++ l) 9 = UInt8.ofNat k := by
  simp [head10, le8, at8, List.range_succ]
theorem at8_head10_0 (num k : Nat) (l : List UInt8) : at8 (head10 num k ++ l) 0 = 84 := by simp [head10, at8]
theorem flatMap_le4_length (l : List Chg) : (l.flatMap fun c => le4 c.at_).length = 4 * l.length := by
  induction l with
  | nil => rfl
  | cons c l ih => rw [List.flatMap_cons, List.length_append, ih, List.length_cons]; simp [le4]; omega
theorem numsPage_length (l : List Chg) (i : Nat) : (numsPage l i).length = 64 := by
  unfold numsPage pad64
  have := flatMap_le4_length ((l.drop (16 * i)).take 16)
  have h2 : ((l.drop (16 * i)).take 16).length ≤ 16 := by simp; omega
  simp only [List.length_append, List.length_replicate, this]; omega
/-- A record's changes are such as can be laid. -/
structure Fit (l : List Chg) : Prop where
  one : 1 ≤ l.length
  le : l.length ≤ 60
  at_ : ∀ c ∈ l, c.at_ < 4294967296
  what : ∀ c ∈ l, c.what.length = 64
theorem body_length (l : List Chg) : (body l).length = takes l.length - 1 := by simp [body, takes]; omega
theorem body_pages {l : List Chg} (h : Fit l) : ∀ p ∈ body l, p.length = 64 := by
  intro p hp
  rcases List.mem_append.1 hp with hp | hp
  · obtain ⟨i, _, rfl⟩ := List.mem_map.1 hp
    exact numsPage_length l i
  · obtain ⟨c, hc, rfl⟩ := List.mem_map.1 hp
    exact h.what c hc
theorem flatten_pages : ∀ (a b : List (List UInt8)), a.length = b.length → (∀ p ∈ a, p.length = 64) → (∀ p ∈ b, p.length = 64) → a.flatten = b.flatten → a = b
  | [], [], _, _, _, _ => rfl
  | [], _ :: _, h, _, _, _ => by simp at h
  | _ :: _, [], h, _, _, _ => by simp at h
  | p :: a, q :: b, h, ha, hb, e => by
    have hp := ha p (by simp)
    have hq := hb q (by simp)
    rw [List.flatten_cons, List.flatten_cons] at e
    obtain ⟨e1, e2⟩ := List.append_inj e (by omega)
    rw [e1, flatten_pages a b (by simpa using h) (fun x hx => ha x (by simp [hx])) (fun x hx => hb x (by simp [hx])) e2]

-- what was laid is read again
theorem num4_le4 (x : Nat) (h : x < 4294967296) (l : List UInt8) : num4 (le4 x ++ l) 0 = x := by
  simp [num4, le4, at8]; omega
theorem num4_drop (p : List UInt8) (o : Nat) : num4 p o = num4 (p.drop o) 0 := by
  simp [num4, at8, List.getElem?_drop, Nat.add_comm]
theorem drop_flatMap_le4 : ∀ (l : List Chg) (i : Nat), (l.flatMap fun c => le4 c.at_).drop (4 * i) = (l.drop i).flatMap fun c => le4 c.at_
  | _, 0 => by simp
  | [], i + 1 => by simp
  | c :: l, i + 1 => by
    rw [List.flatMap_cons, show 4 * (i + 1) = (le4 c.at_).length + 4 * i from by simp [le4]; omega, List.drop_length_add_append, List.drop_succ_cons]
    exact drop_flatMap_le4 l i
theorem num4_numsPage {l : List Chg} (h : Fit l) (c : Nat) (hc : c < l.length) : num4 (numsPage l (c / 16)) (4 * (c % 16)) = (l[c]).at_ := by
  rw [num4_drop]
  unfold numsPage pad64
  have hlen := flatMap_le4_length ((l.drop (16 * (c / 16))).take 16)
  have h2 : c % 16 < ((l.drop (16 * (c / 16))).take 16).length := by simp; omega
  rw [List.drop_append_of_le_length (by omega), drop_flatMap_le4, List.drop_eq_getElem_cons h2, List.flatMap_cons, List.append_assoc, num4_le4]
  · simp only [List.getElem_take, List.getElem_drop]
    congr 2; omega
  · apply h.at_
    simp only [List.getElem_take, List.getElem_drop]
    exact List.getElem_mem _
theorem decode_body {l : List Chg} (h : Fit l) : decode (body l) l.length = l := by
  apply List.ext_getElem (by simp [decode])
  intro c h1 h2
  have hj : (l.length + 15) / 16 = ((List.range ((l.length + 15) / 16)).map (numsPage l)).length := by simp
  simp only [decode, List.getElem_map, List.getElem_range]
  have e1 : (body l).getD (c / 16) [] = numsPage l (c / 16) := by
    unfold body
    rw [List.getD_eq_getElem?_getD, List.getElem?_append_left (by simp; omega)]
    simp [show c / 16 < (l.length + 15) / 16 from by omega]
  have e2 : (body l).getD ((l.length + 15) / 16 + c) [] = (l[c]).what := by
    unfold body
    rw [List.getD_eq_getElem?_getD, List.getElem?_append_right (by simp)]
    simp [h2]
  rw [e1, e2, num4_numsPage h c h2]

/-- The record's pages stand at the mark. -/
def Stands (pg : Nat → List UInt8) (m : Mk) (l : List Chg) : Prop := ∀ i, i < takes l.length → pg (m.place + i) = (sectors m l).getD i []
theorem Stands.first {pg : Nat → List UInt8} {m : Mk} {l : List Chg} (h : Stands pg m l) : pg m.place = firstOf m l := by
  have := h 0 (by have := takes_pos l.length; omega)
  simpa [sectors] using this
theorem Stands.rest {pg : Nat → List UInt8} {m : Mk} {l : List Chg} (h : Stands pg m l) : rest pg m.place l.length = body l := by
  apply List.ext_getElem (by simp [Proofs.YtegdlpllljccgaaDoor.rest, body_length])
  intro i h1 h2
  have := h (1 + i) (by simp [Proofs.YtegdlpllljccgaaDoor.rest] at h1; omega)
  simp only [Proofs.YtegdlpllljccgaaDoor.rest, List.getElem_map, List.getElem_range]
  rw [this]
  simp [sectors, List.getD_eq_getElem?_getD, Nat.add_comm 1 i, List.getElem?_eq_getElem h2]
theorem firstOf_take (m : Mk) (l : List Chg) : (firstOf m l).take 10 = head10 m.num l.length := by
  unfold firstOf
  rw [List.take_left' (head10_length _ _)]
theorem firstOf_dig (m : Mk) (l : List Chg) : ((firstOf m l).drop 10).take 32 = dig (textOf m l) := by
  unfold firstOf
  rw [List.drop_left' (head10_length _ _), List.take_left' (dig_len _)]
theorem firstOf_k {l : List Chg} (m : Mk) (h : l.length ≤ 60) : (at8 (firstOf m l) 9).toNat = l.length := by
  unfold firstOf
  rw [at8_head10]
  simp; omega
theorem kOf_first {pg : Nat → List UInt8} {m : Mk} {l : List Chg} (h : pg m.place = firstOf m l) (hl : l.length ≤ 60) : kOf pg m = l.length := by
  unfold kOf; rw [h, firstOf_k m hl]
theorem begins_first {pg : Nat → List UInt8} {m : Mk} {l : List Chg} {free : Nat} (h : pg m.place = firstOf m l) (hl : Fit l) (hf : takes l.length ≤ free) : begins pg free m := by
  unfold begins
  rw [kOf_first h hl.le, h, firstOf_take]
  exact ⟨rfl, hl.one, hl.le, hf⟩
/-- Where a record's pages stand, it is found. -/
theorem Stands.holds {pg : Nat → List UInt8} {m : Mk} {l : List Chg} {free : Nat} (h : Stands pg m l) (hl : Fit l) (hf : takes l.length ≤ free) :
    holds pg free m ∧ kOf pg m = l.length ∧ rawText pg m = textOf m l ∧ found pg m = l := by
  have hk := kOf_first h.first hl.le
  have hr : rawText pg m = textOf m l := by
    unfold rawText textOf
    rw [hk, h.rest, h.first, firstOf_take]
  refine ⟨⟨begins_first h.first hl hf, ?_⟩, hk, hr, ?_⟩
  · rw [hr, h.first, firstOf_dig]
  · unfold found; rw [hk, h.rest, decode_body hl]
/-- Where its first page stands, what is found is it, or two unlike texts have one digest. -/
theorem first_or_clash {pg : Nat → List UInt8} {m : Mk} {l : List Chg} {free : Nat} (h : pg m.place = firstOf m l) (hl : Fit l) (hp : ∀ i, (pg i).length = 64) (hh : Proofs.YtegdlpllljccgaaDoor.holds pg free m) :
    (rawText pg m = textOf m l ∧ found pg m = l) ∨ (rawText pg m ≠ textOf m l ∧ dig (rawText pg m) = dig (textOf m l)) := by
  have hk := kOf_first h hl.le
  by_cases e : rawText pg m = textOf m l
  · refine .inl ⟨e, ?_⟩
    have e' := e
    unfold rawText textOf at e'
    rw [hk, h, firstOf_take] at e'
    have e2 := List.append_cancel_left (List.append_cancel_left e')
    have e3 := flatten_pages _ _ (by simp [Proofs.YtegdlpllljccgaaDoor.rest, body_length]) (fun p hp' => by obtain ⟨i, _, rfl⟩ := List.mem_map.1 hp'; exact hp _) (body_pages hl) e2
    unfold found
    rw [hk, e3, decode_body hl]
  · refine .inr ⟨e, ?_⟩
    rw [hh.2, h, firstOf_dig]
end Go.Proofs.YtegdlpllljccgaaDoor

/-
  What is found behind a mark: all records that were laid there; a first part of them where pages were lost, or two unlike texts have one digest.
-/
namespace Go.Proofs.YtegdlpllljccgaaDoor
open Sh

def endM (n : Nat) (m : Mk) (l : List Chg) : Mk := behind n m l.length (dig (textOf m l))
def lastOf (n : Nat) : Mk → List (List Chg) → Mk
  | m, [] => m
  | m, l :: ls => lastOf n (endM n m l) ls
def textsOf (n : Nat) : Mk → List (List Chg) → List (List UInt8)
  | _, [] => []
  | m, l :: ls => textOf m l :: textsOf n (endM n m l) ls
def takesAll (ls : List (List Chg)) : Nat := (ls.map fun l => takes l.length).sum
theorem takesAll_cons (l : List Chg) (ls : List (List Chg)) : takesAll (l :: ls) = takes l.length + takesAll ls := by simp [takesAll]
theorem takesAll_append (a b : List (List Chg)) : takesAll (a ++ b) = takesAll a + takesAll b := by simp [takesAll]
theorem lastOf_append (n : Nat) : ∀ (a b : List (List Chg)) (m : Mk), lastOf n m (a ++ b) = lastOf n (lastOf n m a) b
  | [], _, _ => rfl
  | l :: a, b, m => by rw [List.cons_append, lastOf, lastOf, lastOf_append n a b]
theorem textsOf_append (n : Nat) : ∀ (a b : List (List Chg)) (m : Mk), textsOf n m (a ++ b) = textsOf n m a ++ textsOf n (lastOf n m a) b
  | [], _, _ => rfl
  | l :: a, b, m => by rw [List.cons_append, textsOf, textsOf, lastOf, textsOf_append n a b, List.cons_append]
/-- The records stand one behind the other. -/
def LaidR (n : Nat) (pg : Nat → List UInt8) : Mk → List (List Chg) → Prop
  | _, [] => True
  | m, l :: ls => Stands pg m l ∧ LaidR n pg (endM n m l) ls
theorem LaidR.append {n : Nat} {pg : Nat → List UInt8} : ∀ {a : List (List Chg)} {b : List (List Chg)} {m : Mk}, LaidR n pg m a → LaidR n pg (lastOf n m a) b → LaidR n pg m (a ++ b)
  | [], _, _, _, h => h
  | _ :: _, _, _, ⟨h1, h2⟩, h => ⟨h1, LaidR.append h2 h⟩
theorem LaidR.left {n : Nat} {pg : Nat → List UInt8} : ∀ {a : List (List Chg)} {b : List (List Chg)} {m : Mk}, LaidR n pg m (a ++ b) → LaidR n pg m a
  | [], _, _, _ => trivial
  | _ :: _, _, _, ⟨h1, h2⟩ => ⟨h1, LaidR.left h2⟩

/-- Records that stand are found, and then what is behind them. -/
theorem openAll_laid {n : Nat} {pg : Nat → List UInt8} : ∀ {a : List (List Chg)} {m : Mk} {f free : Nat}, LaidR n pg m a → (∀ l ∈ a, Fit l) → takesAll a ≤ free → free ≤ f →
    openAll n pg f free m = (a ++ (openAll n pg f (free - takesAll a) (lastOf n m a)).1, (openAll n pg f (free - takesAll a) (lastOf n m a)).2)
  | [], m, f, free, _, _, _, _ => by simp [takesAll, lastOf]
  | l :: a, m, f, free, ⟨h1, h2⟩, hf, ht, hff => by
    rw [takesAll_cons] at ht ⊢
    have hl := hf l (by simp)
    obtain ⟨hh, hk, hr, he⟩ := h1.holds (free := free) hl (by omega)
    have hp := takes_pos l.length
    obtain ⟨f, rfl⟩ : ∃ g, f = g + 1 := ⟨f - 1, by omega⟩
    rw [openAll, if_pos hh, hk, hr, he]
    have ih := openAll_laid (f := f + 1) (free := free - takes l.length) h2 (fun x hx => hf x (by simp [hx])) (by omega) (by omega)
    have e : openAll n pg f (free - takes l.length) (behind n m l.length (dig (textOf m l))) = openAll n pg (f + 1) (free - takes l.length) (endM n m l) := openAll_rounds n pg _ _ _ _ (by omega) (by omega)
    rw [e, ih, show free - takes l.length - takesAll a = free - (takes l.length + takesAll a) from by omega]
    rfl
theorem chainAll_laid {n : Nat} {pg : Nat → List UInt8} : ∀ {a : List (List Chg)} {m : Mk} {f free : Nat}, LaidR n pg m a → (∀ l ∈ a, Fit l) → takesAll a ≤ free → free ≤ f →
    chainAll n pg f free m = (textsOf n m a ++ (chainAll n pg f (free - takesAll a) (lastOf n m a)).1, (chainAll n pg f (free - takesAll a) (lastOf n m a)).2)
  | [], m, f, free, _, _, _, _ => by simp [takesAll, lastOf, textsOf]
  | l :: a, m, f, free, ⟨h1, h2⟩, hf, ht, hff => by
    rw [takesAll_cons] at ht ⊢
    have hl := hf l (by simp)
    obtain ⟨hh, hk, hr, he⟩ := h1.holds (free := free) hl (by omega)
    have hp := takes_pos l.length
    obtain ⟨f, rfl⟩ : ∃ g, f = g + 1 := ⟨f - 1, by omega⟩
    rw [chainAll, if_pos hh.1, if_pos hh, hk, hr]
    have ih := chainAll_laid (f := f + 1) (free := free - takes l.length) h2 (fun x hx => hf x (by simp [hx])) (by omega) (by omega)
    have e : chainAll n pg f (free - takes l.length) (behind n m l.length (dig (textOf m l))) = chainAll n pg (f + 1) (free - takes l.length) (endM n m l) := chainAll_rounds n pg _ _ _ _ (by omega) (by omega)
    rw [e, ih, show free - takes l.length - takesAll a = free - (takes l.length + takesAll a) from by omega]
    rfl
theorem openAll_stop {n : Nat} {pg : Nat → List UInt8} {f free : Nat} {m : Mk} (h : ¬ holds pg free m) : openAll n pg f free m = ([], m, free) := by
  cases f with
  | zero => rfl
  | succ f => rw [openAll, if_neg h]
theorem chainAll_stop {n : Nat} {pg : Nat → List UInt8} {f free : Nat} {m : Mk} (h : ¬ begins pg free m) : chainAll n pg f free m = ([], m) := by
  cases f with
  | zero => rfl
  | succ f => rw [chainAll, if_neg h]
theorem chainAll_head {n : Nat} {pg : Nat → List UInt8} {f free : Nat} {m : Mk} (h : begins pg free m) (hf : free ≤ f) : rawText pg m ∈ (chainAll n pg f free m).1 := by
  have h1 := h.2.2.2
  have h2 := takes_pos (kOf pg m)
  obtain ⟨f, rfl⟩ : ∃ g, f = g + 1 := ⟨f - 1, by omega⟩
  rw [chainAll, if_pos h]
  split <;> simp

/-- Two unlike texts of one digest, one of either. -/
def Clashes (a b : List (List UInt8)) : Prop := ∃ t ∈ a, ∃ u ∈ b, t ≠ u ∧ dig t = dig u
theorem begins_T {pg : Nat → List UInt8} {free : Nat} {m : Mk} (h : begins pg free m) : at8 (pg m.place) 0 = 84 := by
  have e := h.1
  have e2 : at8 ((pg m.place).take 10) 0 = at8 (pg m.place) 0 := by simp [at8, List.getElem?_take]
  rw [← e2, e]; rfl
/-- Of each record the first page stands, or none that begins so. -/
def Heads (n : Nat) (pg : Nat → List UInt8) : Mk → List (List Chg) → Prop
  | _, [] => True
  | m, l :: ls => (pg m.place = firstOf m l ∨ at8 (pg m.place) 0 ≠ 84) ∧ Heads n pg (endM n m l) ls
/-- What is found where the heads are those of records is a first part of these, or there are two unlike texts of one digest. -/
theorem open_heads {n : Nat} {pg : Nat → List UInt8} (hp : ∀ i, (pg i).length = 64) : ∀ {a : List (List Chg)} {m : Mk} {f free : Nat}, Heads n pg m a → (∀ l ∈ a, Fit l) → takesAll a ≤ free → free ≤ f →
    ¬ begins pg (free - takesAll a) (lastOf n m a) →
    (∃ j, j ≤ a.length ∧ (openAll n pg f free m).1 = a.take j) ∨ Clashes (textsOf n m a) (chainAll n pg f free m).1
  | [], m, f, free, _, _, _, _, he => by
    refine .inl ⟨0, by simp, ?_⟩
    rw [openAll_stop (fun h => he (by simpa [takesAll, lastOf] using h.1))]
    rfl
  | l :: a, m, f, free, ⟨h1, h2⟩, hf, ht, hff, he => by
    rw [takesAll_cons] at ht he
    have hl := hf l (by simp)
    have hp1 := takes_pos l.length
    rcases h1 with h1 | h1
    · by_cases hh : holds pg free m
      · have hk := kOf_first h1 hl.le
        rcases first_or_clash h1 hl hp hh with ⟨hr, hd⟩ | ⟨hr, hd⟩
        · obtain ⟨f, rfl⟩ : ∃ g, f = g + 1 := ⟨f - 1, by omega⟩
          have ih := open_heads hp (f := f) (free := free - takes l.length) h2 (fun x hx => hf x (by simp [hx])) (by omega) (by omega)
            (by rw [show free - takes l.length - takesAll a = free - (takes l.length + takesAll a) from by omega]; exact he)
          rw [openAll, chainAll, if_pos hh, if_pos hh.1, if_pos hh, hk, hr, hd]
          rcases ih with ⟨j, hj, e⟩ | ⟨t, ht1, u, hu1, hne⟩
          · refine .inl ⟨j + 1, by simpa using hj, ?_⟩
            show l :: (openAll n pg f (free - takes l.length) (endM n m l)).1 = _
            rw [e]; rfl
          · exact .inr ⟨t, by rw [textsOf]; exact List.mem_cons_of_mem _ ht1, u, List.mem_cons_of_mem _ hu1, hne⟩
        · exact .inr ⟨textOf m l, by simp [textsOf], rawText pg m, chainAll_head hh.1 hff, fun e => hr e.symm, hd.symm⟩
      · exact .inl ⟨0, by simp, by rw [openAll_stop hh]; rfl⟩
    · exact .inl ⟨0, by simp, by rw [openAll_stop (fun h => h1 (begins_T h.1))]; rfl⟩
/-- What of the first ones stands wholly is there, in either way. -/
theorem open_lasts {n : Nat} {pg : Nat → List UInt8} (hp : ∀ i, (pg i).length = 64) {a b : List (List Chg)} {m : Mk} {f free : Nat} (ha : LaidR n pg m a) (hb : Heads n pg (lastOf n m a) b)
    (hf : ∀ l ∈ a ++ b, Fit l) (ht : takesAll (a ++ b) ≤ free) (hff : free ≤ f) (he : ¬ begins pg (free - takesAll (a ++ b)) (lastOf n m (a ++ b))) :
    (∃ j, a.length ≤ j ∧ j ≤ (a ++ b).length ∧ (openAll n pg f free m).1 = (a ++ b).take j) ∨ Clashes (textsOf n m (a ++ b)) (chainAll n pg f free m).1 := by
  rw [takesAll_append] at ht he
  rw [openAll_laid ha (fun l hl => hf l (by simp [hl])) (by omega) hff, chainAll_laid ha (fun l hl => hf l (by simp [hl])) (by omega) hff, textsOf_append]
  rcases open_heads hp (f := f) (free := free - takesAll a) hb (fun l hl => hf l (by simp [hl])) (by omega) (by omega)
      (by rw [show free - takesAll a - takesAll b = free - (takesAll a + takesAll b) from by omega, ← lastOf_append]; exact he) with ⟨j, hj, e⟩ | ⟨t, ht1, u, hu1, hne⟩
  · refine .inl ⟨a.length + j, by omega, by simp; omega, ?_⟩
    simp only [e, List.take_length_add_append]
  · exact .inr ⟨t, by simp [ht1], u, by simp [hu1], hne⟩
end Go.Proofs.YtegdlpllljccgaaDoor

/-
  Records laid on an image, around: what was laid ahead of them still stands, what is behind them is as it was.
-/
namespace Go.Proofs.YtegdlpllljccgaaDoor
open Sh

/-- The page of a place of the ring of n sectors from first on. -/
def pgOf (img : List (List UInt8)) (first n : Nat) : Nat → List UInt8 := fun i => img.getD (first + i % n) []
theorem pgOf_mod (img : List (List UInt8)) (first n i : Nat) : pgOf img first n (i % n) = pgOf img first n i := by simp [pgOf]
theorem pgOf_mod_add (img : List (List UInt8)) (first n i d : Nat) : pgOf img first n (i % n + d) = pgOf img first n (i + d) := by simp [pgOf]
/-- Pages written from a place on, around. -/
def putAll (first n : Nat) : List (List UInt8) → Nat → List (List UInt8) → List (List UInt8)
  | img, _, [] => img
  | img, pl, p :: ps => putAll first n (img.set (first + pl % n) p) (pl + 1) ps
theorem putAll_length (first n : Nat) : ∀ (ps : List (List UInt8)) (img : List (List UInt8)) (pl : Nat), (putAll first n img pl ps).length = img.length
  | [], _, _ => rfl
  | p :: ps, img, pl => by rw [putAll, putAll_length first n ps, List.length_set]
theorem mod_ne {n pl d : Nat} (h0 : 0 < d) (h : d < n) : (pl + d) % n ≠ pl % n := by
  intro e
  have h1 := Nat.div_add_mod (pl + d) n
  have h2 := Nat.div_add_mod pl n
  have h3 : n * ((pl + d) / n) = n * (pl / n) + d := by omega
  have h4 : n * ((pl + d) / n) - n * (pl / n) = d := by omega
  rw [← Nat.mul_sub] at h4
  have h5 : n ∣ d := ⟨_, h4.symm⟩
  have := Nat.le_of_dvd h0 h5
  omega
theorem put_get (first n : Nat) (hn : 0 < n) : ∀ (ps : List (List UInt8)) (img : List (List UInt8)) (pl d : Nat), ps.length ≤ n → first + n ≤ img.length → d < n →
    pgOf (putAll first n img pl ps) first n (pl + d) = if d < ps.length then ps.getD d [] else pgOf img first n (pl + d)
  | [], img, pl, d, _, _, _ => by simp [putAll]
  | p :: ps, img, pl, d, hl, hi, hd => by
    have hm := Nat.mod_lt pl hn
    rw [List.length_cons] at hl ⊢
    rw [putAll]
    cases d with
    | zero =>
      have h := put_get first n hn ps (img.set (first + pl % n) p) (pl + 1) (n - 1) (by omega) (by simpa using hi) (by omega)
      rw [if_neg (by omega), show pl + 1 + (n - 1) = pl + n from by omega] at h
      have e : ∀ im : List (List UInt8), pgOf im first n (pl + n) = pgOf im first n (pl + 0) := fun im => by simp [pgOf]
      rw [e, e] at h
      rw [h, if_pos (by omega)]
      simp only [pgOf, Nat.add_zero, List.getD_eq_getElem?_getD, List.getElem?_cons_zero, Option.getD_some]
      rw [List.getElem?_set_self (by omega)]; rfl
    | succ d =>
      have h := put_get first n hn ps (img.set (first + pl % n) p) (pl + 1) d (by omega) (by simpa using hi) (by omega)
      rw [show pl + 1 + d = pl + (d + 1) from by omega] at h
      rw [h]
      have hne := mod_ne (pl := pl) (d := d + 1) (by omega) hd
      by_cases hlt : d < ps.length
      · rw [if_pos hlt, if_pos (by omega)]; simp
      · rw [if_neg hlt, if_neg (by omega)]
        simp only [pgOf, List.getD_eq_getElem?_getD]
        rw [List.getElem?_set_ne (by omega)]
theorem put_out (first n : Nat) (hn : 0 < n) : ∀ (ps : List (List UInt8)) (img : List (List UInt8)) (pl i : Nat), (i < first ∨ first + n ≤ i) → (putAll first n img pl ps)[i]? = img[i]?
  | [], _, _, _, _ => rfl
  | p :: ps, img, pl, i, h => by
    have hm := Nat.mod_lt pl hn
    rw [putAll, put_out first n hn ps _ _ i h, List.getElem?_set_ne (by omega)]

/-- Pages that don't turn leave what stands. -/
theorem Stands.congr {pg pg' : Nat → List UInt8} {m : Mk} {l : List Chg} (h : Stands pg m l) (e : ∀ d, d < takes l.length → pg' (m.place + d) = pg (m.place + d)) : Stands pg' m l :=
  fun i hi => (e i hi).trans (h i hi)
theorem LaidR.congr {n : Nat} {pg pg' : Nat → List UInt8} (hp : ∀ i d, pg (i % n + d) = pg (i + d)) (hp' : ∀ i d, pg' (i % n + d) = pg' (i + d)) : ∀ {a : List (List Chg)} {m : Mk}, LaidR n pg m a → (∀ d, d < takesAll a → pg' (m.place + d) = pg (m.place + d)) → LaidR n pg' m a
  | [], _, _, _ => trivial
  | l :: a, m, ⟨h1, h2⟩, e => by
    rw [takesAll_cons] at e
    refine ⟨h1.congr fun d hd => e d (by omega), LaidR.congr hp hp' h2 fun d hd => ?_⟩
    show pg' ((m.place + takes l.length) % n + d) = pg ((m.place + takes l.length) % n + d)
    rw [hp, hp', Nat.add_assoc]
    exact e _ (by omega)
theorem lastOf_place (n : Nat) : ∀ (a : List (List Chg)) (m : Mk), (lastOf n m a).place % n = (m.place + takesAll a) % n
  | [], m => by simp [lastOf, takesAll]
  | l :: a, m => by
    rw [lastOf, lastOf_place n a, takesAll_cons, ← Nat.add_assoc]
    show ((m.place + takes l.length) % n + takesAll a) % n = _
    simp
theorem lastOf_num (n : Nat) : ∀ (a : List (List Chg)) (m : Mk), m.num + a.length < 18446744073709551616 → (lastOf n m a).num = m.num + a.length
  | [], m, _ => by simp [lastOf]
  | l :: a, m, h => by
    rw [List.length_cons] at h ⊢
    have e : (endM n m l).num = m.num + 1 := Nat.mod_eq_of_lt (by omega)
    rw [lastOf, lastOf_num n a _ (by omega), e]; omega
theorem sectors_length (m : Mk) (l : List Chg) : (sectors m l).length = takes l.length := by
  have := takes_pos l.length
  simp [sectors, body_length]; omega
/-- A record that is laid at the head stands behind those that stood. -/
theorem laid_add {first n : Nat} (hn : 0 < n) {img : List (List UInt8)} (hi : first + n ≤ img.length) {m : Mk} {a : List (List Chg)} {l : List Chg} (h : LaidR n (pgOf img first n) m a) (ht : takesAll (a ++ [l]) ≤ n) :
    LaidR n (pgOf (putAll first n img (lastOf n m a).place (sectors (lastOf n m a) l)) first n) m (a ++ [l]) := by
  have hta : takesAll (a ++ [l]) = takesAll a + takes l.length := by rw [takesAll_append, takesAll_cons]; simp [takesAll]
  rw [hta] at ht
  have hp := takes_pos l.length
  have hpl := lastOf_place n a m
  refine LaidR.append (h.congr (pgOf_mod_add _ _ _) (pgOf_mod_add _ _ _) fun d hd => ?_) ⟨fun i hi' => ?_, trivial⟩
  · -- place m.place + d = head + (n - takesAll a + d), around
    have hg := put_get first n hn (sectors (lastOf n m a) l) img (lastOf n m a).place (n - takesAll a + d) (by rw [sectors_length]; omega) hi (by omega)
    rw [if_neg (by rw [sectors_length]; omega)] at hg
    have e : ∀ im : List (List UInt8), pgOf im first n ((lastOf n m a).place + (n - takesAll a + d)) = pgOf im first n (m.place + d) := fun im => by
      rw [← pgOf_mod_add, hpl, pgOf_mod_add, show m.place + takesAll a + (n - takesAll a + d) = m.place + d + n from by omega]
      simp [pgOf]
    rwa [e, e] at hg
  · have hg := put_get first n hn (sectors (lastOf n m a) l) img (lastOf n m a).place i (by rw [sectors_length]; omega) hi (by omega)
    rw [if_pos (by rw [sectors_length]; exact hi')] at hg
    exact hg
/-- What lies behind the head is as it was. -/
theorem behind_add {first n : Nat} (hn : 0 < n) {img : List (List UInt8)} (hi : first + n ≤ img.length) {m : Mk} {a : List (List Chg)} {l : List Chg} (ht : takesAll (a ++ [l]) ≤ n) (d : Nat) (h1 : takesAll (a ++ [l]) ≤ d) (h2 : d < n) :
    pgOf (putAll first n img (lastOf n m a).place (sectors (lastOf n m a) l)) first n (m.place + d) = pgOf img first n (m.place + d) := by
  have hta : takesAll (a ++ [l]) = takesAll a + takes l.length := by rw [takesAll_append, takesAll_cons]; simp [takesAll]
  rw [hta] at ht h1
  have hpl := lastOf_place n a m
  have hg := put_get first n hn (sectors (lastOf n m a) l) img (lastOf n m a).place (d - takesAll a) (by rw [sectors_length]; omega) hi (by omega)
  rw [if_neg (by rw [sectors_length]; omega)] at hg
  have e : ∀ im : List (List UInt8), pgOf im first n ((lastOf n m a).place + (d - takesAll a)) = pgOf im first n (m.place + d) := fun im => by
    rw [← pgOf_mod_add, hpl, pgOf_mod_add, show m.place + takesAll a + (d - takesAll a) = m.place + d from by omega]
  rwa [e, e] at hg

/-- Behind the records nothing was written. -/
def Clean (n : Nat) (pg : Nat → List UInt8) (m : Mk) (a : List (List Chg)) : Prop := ∀ d, takesAll a ≤ d → d < n → pg (m.place + d) = List.replicate 64 0
theorem clean_add {first n : Nat} (hn : 0 < n) {img : List (List UInt8)} (hi : first + n ≤ img.length) {m : Mk} {a : List (List Chg)} {l : List Chg} (h : Clean n (pgOf img first n) m a) (ht : takesAll (a ++ [l]) ≤ n) :
    Clean n (pgOf (putAll first n img (lastOf n m a).place (sectors (lastOf n m a) l)) first n) m (a ++ [l]) := fun d h1 h2 => by
  rw [behind_add hn hi ht d h1 h2]
  exact h d (by rw [takesAll_append] at h1; omega) h2
/-- Where what is behind is clean nothing begins. -/
theorem clean_ends {n : Nat} {pg : Nat → List UInt8} (hp : ∀ i d, pg (i % n + d) = pg (i + d)) {m : Mk} {a : List (List Chg)} (h : Clean n pg m a) (ht : takesAll a ≤ n) : ¬ begins pg (n - takesAll a) (lastOf n m a) := by
  intro hb
  have h3 := hb.2.2.2
  have h4 := takes_pos (kOf pg (lastOf n m a))
  have hT := begins_T hb
  have e := h (takesAll a) (Nat.le_refl _) (by omega)
  have hq : pg (lastOf n m a).place = pg (m.place + takesAll a) := by
    have h1 := hp (lastOf n m a).place 0
    have h2 := hp (m.place + takesAll a) 0
    rw [lastOf_place] at h1
    simp only [Nat.add_zero] at h1 h2
    rw [← h1, h2]
  rw [hq, e] at hT
  revert hT; decide
end Go.Proofs.YtegdlpllljccgaaDoor

/-
  The reference's number: of eight bytes, the lowest first.
-/
namespace Go.Proofs.YtegdlpllljccgaaDoor
open Go.RowKit Sh

/-- The number of the bytes from place k on, below place 8. -/
def numFrom (bs : List UInt8) (k : Nat) : Nat := (bs.drop k).foldr (fun b n => b.toNat + 256 * n) 0
theorem numFrom_step {bs : List UInt8} {k : Nat} (h : k < bs.length) : numFrom bs k = (at8 bs k).toNat + 256 * numFrom bs (k + 1) := by
  unfold numFrom
  rw [List.drop_eq_getElem_cons h, List.foldr_cons]
  simp [at8, h]
theorem numFrom_lt : ∀ (bs : List UInt8) (k : Nat), numFrom bs k < 256 ^ (bs.length - k) := fun bs k => by
  unfold numFrom
  have : ∀ l : List UInt8, l.foldr (fun b n => b.toNat + 256 * n) 0 < 256 ^ l.length := by
    intro l
    induction l with
    | nil => simp
    | cons b l ih =>
      have := b.toNat_lt
      rw [List.foldr_cons, List.length_cons, Nat.pow_succ]
      omega
  have h := this (bs.drop k)
  rwa [List.length_drop] at h
set_option maxRecDepth 100000 in
theorem rnumber_any (bs : List UInt8) (h8 : bs.length = 8) (N : Nat) (w : World) (bp : Option Addr) (cap : Nat) (hB : Bytes N w bp 8 cap bs) :
    Calls Tryd.prog 67 #[.slice bp 8 cap] w fun e w' => e = .returned (.int .u64 (numFrom bs 0)) ∧ w' = w := by
  obtain ⟨b, o, rfl, hbN, hcell⟩ : ∃ b o, bp = some ⟨b, o, none⟩ ∧ b < N ∧ ∀ i, i < 8 → w.cell? ⟨b, o + i, none⟩ = some (.int .u8 (bz (at8 bs i))) := by
    rcases hB.lies with h | h
    · omega
    · exact h
  go_enter Tryd.func67, Tryd.ntmps67
  go_wp2
  go_loopg [3, 4] 8 (fun g n i wx => ∃ k : Nat, k = g ∧ k ≤ 8 ∧ n = .int .u64 (numFrom bs k) ∧ i = .int .i64 ((k : Int) - 1) ∧ wx = w)
  case atStart => exact ⟨8, rfl, by omega, by rw [show numFrom bs 8 = 0 from by simp [numFrom, ← h8]]; rfl, rfl, rfl⟩
  case round =>
    obtain ⟨k, rfl, hk, rfl, rfl, rfl⟩ := hrel
    rcases k with _ | k
    · go_wp2
      go_ret
      exact ⟨rfl, rfl⟩
    · have hk8 : k < 8 := by omega
      have c := hcell k hk8
      have hs := numFrom_step (bs := bs) (k := k) (by omega)
      have hlt := numFrom_lt bs (k + 1)
      have hlt2 : numFrom bs (k + 1) < 256 ^ 7 := Nat.lt_of_lt_of_le hlt (Nat.pow_le_pow_right (by omega) (by omega))
      have hb := (at8 bs k).toNat_lt
      have v0 : bz (at8 bs k) = ((at8 bs k).toNat : Int) := rfl
      have v1 : IntKind.u64.wrap ((numFrom bs (k + 1) : Int) * 256) = ((256 * numFrom bs (k + 1) : Nat) : Int) := by rw [IntKind.wrap_u64]; omega
      have v2 : IntKind.u64.wrap (bz (at8 bs k)) = bz (at8 bs k) := by rw [v0, IntKind.wrap_u64]; omega
      have v3 : IntKind.u64.wrap ((256 * numFrom bs (k + 1) : Nat) + bz (at8 bs k)) = (numFrom bs k : Nat) := by rw [v0, hs, IntKind.wrap_u64]; omega
      have i1 : IntKind.i64.wrap ((k : Int) - 1) = (k : Int) - 1 := IntWalk.i64_in _ (by omega)
      have hkk : ((k + 1 : Nat) : Int) - 1 = (k : Int) := by omega
      rw [hkk]
      go_wp2
      go_roundg k
      case measure => omega
      case rel => exact ⟨k, rfl, by omega, by rw [hs, Int.natCast_add, Int.natCast_mul, Int.add_comm]; rfl, rfl, rfl⟩
end Go.Proofs.YtegdlpllljccgaaDoor

/-
  A page that was written for an elder record is no head of a later one: the changes that the laws add.
-/
namespace Go.Proofs.YtegdlpllljccgaaDoor
open Sh

/-- The laws' changes: n of them, of a number x. -/
def chgs (n x : Nat) : List Chg := (List.range n).map fun i => ⟨x + 3 * i, UInt8.ofNat x :: UInt8.ofNat i :: UInt8.ofNat n :: List.replicate 61 0⟩
theorem chgs_length (n x : Nat) : (chgs n x).length = n := by simp [chgs]
theorem chgs_fit (n x : Nat) (h1 : 1 ≤ n) (h2 : n ≤ 60) (hx : x < 16777216) : Fit (chgs n x) := by
  refine ⟨by rw [chgs_length]; exact h1, by rw [chgs_length]; exact h2, fun c hc => ?_, fun c hc => ?_⟩
  · obtain ⟨i, hi, rfl⟩ := List.mem_map.1 hc
    have := List.mem_range.1 hi
    show x + 3 * i < _; omega
  · obtain ⟨i, hi, rfl⟩ := List.mem_map.1 hc
    simp
/-- No head of a record numbered num or later (below 256). -/
def Old (num : Nat) (p : List UInt8) : Prop := ∀ N k, num ≤ N → N < 256 → 1 ≤ k → k ≤ 60 → p.take 10 ≠ head10 N k
theorem Old.mono {a b : Nat} {p : List UInt8} (h : Old a p) (hab : a ≤ b) : Old b p := fun N k h1 h2 h3 h4 => h N k (by omega) h2 h3 h4
theorem at8_take {p : List UInt8} {i n : Nat} (h : i < n) : at8 (p.take n) i = at8 p i := by
  simp only [at8, List.getD_eq_getElem?_getD, List.getElem?_take_of_lt h]
theorem head_bytes (N k : Nat) : at8 (head10 N k) 0 = 84 ∧ at8 (head10 N k) 1 = UInt8.ofNat N ∧ at8 (head10 N k) 4 = UInt8.ofNat (N / 16777216) ∧ at8 (head10 N k) 9 = UInt8.ofNat k := by
  simp [head10, le8, at8, List.range_succ]
/-- What a page that begins so has in its places. -/
theorem old_bytes {p : List UInt8} {N k : Nat} (h : p.take 10 = head10 N k) : at8 p 0 = 84 ∧ at8 p 1 = UInt8.ofNat N ∧ at8 p 4 = UInt8.ofNat (N / 16777216) ∧ at8 p 9 = UInt8.ofNat k := by
  obtain ⟨h0, h1, h4, h9⟩ := head_bytes N k
  rw [← h] at h0 h1 h4 h9
  rw [at8_take (by omega)] at h0 h1 h4 h9
  exact ⟨h0, h1, h4, h9⟩
theorem ofNat_ne_zero {k : Nat} (h1 : 1 ≤ k) (h2 : k ≤ 60) : UInt8.ofNat k ≠ 0 := fun e => by
  have := congrArg UInt8.toNat e
  simp at this; omega
theorem old_of_nine {num : Nat} {p : List UInt8} (h : at8 p 9 = 0) : Old num p := fun N k _ _ h3 h4 e => ofNat_ne_zero h3 h4 ((old_bytes e).2.2.2 ▸ h)
theorem old_zero (num : Nat) : Old num (List.replicate 64 0) := old_of_nine rfl
theorem old_what {num n x : Nat} : ∀ c ∈ chgs n x, Old num c.what := fun c hc => by
  obtain ⟨i, _, rfl⟩ := List.mem_map.1 hc
  exact old_of_nine rfl
theorem old_first {num : Nat} {m : Mk} {l : List Chg} (h : m.num < num) (hm : m.num < 256) : Old num (firstOf m l) := fun N k h1 h2 _ _ e => by
  rw [firstOf_take] at e
  have e2 := (head_bytes m.num l.length).2.1
  rw [e, (head_bytes N k).2.1] at e2
  have := congrArg UInt8.toNat e2
  simp at this; omega
/-- The bytes of a page of numbers: its second number begins with one that isn't 0, if its first begins with 84. -/
theorem old_nums {num n x i : Nat} (hx : x < 16777216) (hn : n ≤ 60) : Old num (numsPage (chgs n x) i) := fun N k h1 h2 h3 h4 e => by
  obtain ⟨b0, b1, b4, b9⟩ := old_bytes e
  have hq : UInt8.ofNat (N / 16777216) = 0 := by rw [Nat.div_eq_of_lt (by omega)]; rfl
  rw [hq] at b4
  have hk := ofNat_ne_zero h3 h4
  rw [← b9] at hk
  unfold numsPage pad64 at b0 b4 hk
  have hd : ((chgs n x).drop (16 * i)).take 16 = (List.range (min 16 (n - 16 * i))).map fun j => (⟨x + 3 * (16 * i + j), UInt8.ofNat x :: UInt8.ofNat (16 * i + j) :: UInt8.ofNat n :: List.replicate 61 0⟩ : Chg) := by
    apply List.ext_getElem (by simp [chgs])
    intro j _ _
    simp [chgs]
  rw [hd] at b0 b4 hk
  match hc : min 16 (n - 16 * i) with
  | 0 => rw [hc] at hk; exact hk (by simp [at8])
  | 1 => rw [hc] at hk; exact hk (by simp [at8, le4])
  | 2 => rw [hc] at hk; exact hk (by simp [at8, le4, List.range_succ])
  | r + 3 =>
    rw [hc] at b0 b4
    rw [show r.succ.succ.succ = 2 + (r + 1) from by omega, List.range_add] at b0 b4
    simp only [List.range_succ, List.range_zero, List.nil_append, List.map_append, List.map_cons, List.map_nil, List.flatMap_append, List.flatMap_cons, List.flatMap_nil, List.append_assoc, List.cons_append, le4] at b0 b4
    simp only [at8, List.getD_eq_getElem?_getD, List.getElem?_cons_zero, List.getElem?_cons_succ, Option.getD_some] at b0 b4
    have c0 := congrArg UInt8.toNat b0
    have c4 := congrArg UInt8.toNat b4
    simp at c0 c4
    omega
/-- Nothing begins on such a page. -/
theorem old_begins {pg : Nat → List UInt8} {free : Nat} {m : Mk} (h : Old m.num (pg m.place)) (hm : m.num < 256) : ¬ begins pg free m := fun hb => h m.num (kOf pg m) (Nat.le_refl _) hm hb.2.1 hb.2.2.1 hb.1
/-- All pages of a record that the laws add are such. -/
theorem old_sectors {num n x : Nat} {m : Mk} (h : m.num < num) (hm : m.num < 256) (hx : x < 16777216) (hn : n ≤ 60) : ∀ p ∈ sectors m (chgs n x), Old num p := fun p hp => by
  rcases List.mem_cons.1 hp with rfl | hp
  · exact old_first h hm
  · rcases List.mem_append.1 hp with hp | hp
    · obtain ⟨i, _, rfl⟩ := List.mem_map.1 hp
      exact old_nums hx hn
    · obtain ⟨c, hc, rfl⟩ := List.mem_map.1 hp
      exact old_what c hc
end Go.Proofs.YtegdlpllljccgaaDoor
