import Derived.Test.YtjkkbceddbkejaaGreatDoorJSha
import Derived.Test.YtjkkbceddbkejaaGreatDoorProg
import Derived.WalkKit
import Derived.IntWalk
import Derived.Deep.LoopGhost
import Derived.Test.YtjkkbceddbkejaaGreatDoorJDk
import Derived.StillTail
import Derived.Deep.RegionHeld
set_option linter.unusedSimpArgs false
set_option linter.unusedVariables false
/-
  Layer 5's records as plain lists of bytes: how a record is laid on pages, what stands at a mark, what is found behind it; and: what is found where pages were lost is a first part of what was laid, or two unlike texts have one digest.
-/
namespace Go.Proofs.YtjkkbceddbkejaaGreatDoor
open Sh

def le8 (x : Nat) : List UInt8 := (List.range 8).map fun i => UInt8.ofNat (x / 2 ^ (8 * i))
def le4 (x : Nat) : List UInt8 := [UInt8.ofNat x, UInt8.ofNat (x / 256), UInt8.ofNat (x / 65536), UInt8.ofNat (x / 16777216)]
def takes (k : Nat) : Nat := 1 + (k + 15) / 16 + k
structure Chg where
  at_ : Nat
  what : List UInt8
structure Mk where
  place : Nat
  num : Nat
  last : List UInt8
def head10 (num k : Nat) : List UInt8 := 84 :: (le8 num ++ [UInt8.ofNat k])
def pad64 (l : List UInt8) : List UInt8 := l ++ List.replicate (64 - l.length) 0
def numsPage (l : List Chg) (i : Nat) : List UInt8 := pad64 (((l.drop (16 * i)).take 16).flatMap fun c => le4 c.at_)
def body (l : List Chg) : List (List UInt8) := (List.range ((l.length + 15) / 16)).map (numsPage l) ++ l.map (·.what)
def textOf (m : Mk) (l : List Chg) : List UInt8 := m.last ++ (head10 m.num l.length ++ (body l).flatten)
def firstOf (m : Mk) (l : List Chg) : List UInt8 := head10 m.num l.length ++ (dig (textOf m l) ++ List.replicate 22 0)
def sectors (m : Mk) (l : List Chg) : List (List UInt8) := firstOf m l :: body l
def behind (n : Nat) (m : Mk) (k : Nat) (d : List UInt8) : Mk := ⟨(m.place + takes k) % n, (m.num + 1) % 18446744073709551616, d⟩

-- what stands at a mark: pg: the page of a place
def kOf (pg : Nat → List UInt8) (m : Mk) : Nat := (at8 (pg m.place) 9).toNat
def begins (pg : Nat → List UInt8) (free : Nat) (m : Mk) : Prop := (pg m.place).take 10 = head10 m.num (kOf pg m) ∧ 1 ≤ kOf pg m ∧ kOf pg m ≤ 60 ∧ takes (kOf pg m) ≤ free
instance (pg : Nat → List UInt8) (free : Nat) (m : Mk) : Decidable (begins pg free m) := inferInstanceAs (Decidable (_ ∧ _))
def rest (pg : Nat → List UInt8) (p k : Nat) : List (List UInt8) := (List.range (takes k - 1)).map fun i => pg (p + (1 + i))
def rawText (pg : Nat → List UInt8) (m : Mk) : List UInt8 := m.last ++ ((pg m.place).take 10 ++ (rest pg m.place (kOf pg m)).flatten)
def num4 (p : List UInt8) (o : Nat) : Nat := (at8 p o).toNat + 256 * (at8 p (o + 1)).toNat + 65536 * (at8 p (o + 2)).toNat + 16777216 * (at8 p (o + 3)).toNat
def decode (rs : List (List UInt8)) (k : Nat) : List Chg := (List.range k).map fun c => ⟨num4 (rs.getD (c / 16) []) (4 * (c % 16)), rs.getD ((k + 15) / 16 + c) []⟩
def holds (pg : Nat → List UInt8) (free : Nat) (m : Mk) : Prop := begins pg free m ∧ dig (rawText pg m) = ((pg m.place).drop 10).take 32
instance (pg : Nat → List UInt8) (free : Nat) (m : Mk) : Decidable (holds pg free m) := inferInstanceAs (Decidable (_ ∧ _))
def found (pg : Nat → List UInt8) (m : Mk) : List Chg := decode (rest pg m.place (kOf pg m)) (kOf pg m)

/-- What is found from a mark on, and the mark behind it, and what is free there. The first number only bounds the rounds. -/
def openAll (n : Nat) (pg : Nat → List UInt8) : Nat → Nat → Mk → List (List Chg) × Mk × Nat
  | 0, free, m => ([], m, free)
  | f + 1, free, m =>
    if holds pg free m then
      let r := openAll n pg f (free - takes (kOf pg m)) (behind n m (kOf pg m) (dig (rawText pg m)))
      (found pg m :: r.1, r.2)
    else ([], m, free)
/-- What is summed on that way. -/
def chainAll (n : Nat) (pg : Nat → List UInt8) : Nat → Nat → Mk → List (List UInt8) × Mk
  | 0, _, m => ([], m)
  | f + 1, free, m =>
    if begins pg free m then
      if holds pg free m then
        let r := chainAll n pg f (free - takes (kOf pg m)) (behind n m (kOf pg m) (dig (rawText pg m)))
        (rawText pg m :: r.1, r.2)
      else ([rawText pg m], m)
    else ([], m)

theorem takes_pos (k : Nat) : 1 ≤ takes k := by unfold takes; omega
theorem holds_free {pg : Nat → List UInt8} {free : Nat} {m : Mk} (h : holds pg free m) : 3 ≤ free ∧ takes (kOf pg m) ≤ free := by
  have h1 := h.1.2.1; have h2 := h.1.2.2.2
  have h3 : 3 ≤ takes (kOf pg m) := by unfold takes; omega
  exact ⟨by omega, h2⟩
/-- Rounds beyond what is free change nothing. -/
theorem openAll_rounds (n : Nat) (pg : Nat → List UInt8) : ∀ (f g free : Nat) (m : Mk), free ≤ f → free ≤ g → openAll n pg f free m = openAll n pg g free m
  | 0, 0, _, _, _, _ => rfl
  | 0, g + 1, free, m, h, _ => by
    have : ¬ holds pg free m := fun hh => by have := holds_free hh; omega
    simp [openAll, this]
  | f + 1, 0, free, m, _, h => by
    have : ¬ holds pg free m := fun hh => by have := holds_free hh; omega
    simp [openAll, this]
  | f + 1, g + 1, free, m, h1, h2 => by
    unfold openAll
    by_cases hh : holds pg free m
    · have := holds_free hh
      have := takes_pos (kOf pg m)
      rw [if_pos hh, if_pos hh, openAll_rounds n pg f g _ _ (by omega) (by omega)]
    · rw [if_neg hh, if_neg hh]
theorem chainAll_rounds (n : Nat) (pg : Nat → List UInt8) : ∀ (f g free : Nat) (m : Mk), free ≤ f → free ≤ g → chainAll n pg f free m = chainAll n pg g free m
  | 0, 0, _, _, _, _ => rfl
  | 0, g + 1, free, m, h, _ => by
    have : ¬ begins pg free m := fun hh => by have := hh.2.2.2; have := takes_pos (kOf pg m); omega
    simp [chainAll, this]
  | f + 1, 0, free, m, _, h => by
    have : ¬ begins pg free m := fun hh => by have := hh.2.2.2; have := takes_pos (kOf pg m); omega
    simp [chainAll, this]
  | f + 1, g + 1, free, m, h1, h2 => by
    unfold chainAll
    by_cases hb : begins pg free m
    · rw [if_pos hb, if_pos hb]
      by_cases hh : holds pg free m
      · have := holds_free hh
        have := takes_pos (kOf pg m)
        rw [if_pos hh, if_pos hh, chainAll_rounds n pg f g _ _ (by omega) (by omega)]
      · rw [if_neg hh, if_neg hh]
    · rw [if_neg hb, if_neg hb]

-- lengths
theorem head10_length (num k : Nat) : (head10 num k).length = 10 := by simp [head10, le8]
theorem dig_len (m : List UInt8) : (dig m).length = 32 := rfl
theorem at8_head10 (num k : Nat) (l : List UInt8) : at8 (head10 num k ++ l) 9 = UInt8.ofNat k := by
  simp [head10, le8, at8, List.range_succ]
theorem at8_head10_0 (num k : Nat) (l : List UInt8) : at8 (head10 num k ++ l) 0 = 84 := by simp [head10, at8]
theorem flatMap_le4_length (l : List Chg) : (l.flatMap fun c => le4 c.at_).length = 4 * l.length := by
  induction l with
  | nil => rfl
  | cons c l ih => rw [List.flatMap_cons, List.length_append, ih, List.length_cons]; simp [le4]; omega
theorem numsPage_length (l : List Chg) (i : Nat) : (numsPage l i).length = 64 := by
  unfold numsPage pad64
  have := flatMap_le4_length ((l.drop (16 * i)).take 16)
  have h2 : ((l.drop (16 * i)).take 16).length ≤ 16 := by simp; omega
  simp only [List.length_append, List.length_replicate, this]; omega
/-- A record's changes are such as can be laid. -/
structure Fit (l : List Chg) : Prop where
  one : 1 ≤ l.length
  le : l.length ≤ 60
  at_ : ∀ c ∈ l, c.at_ < 4294967296
  what : ∀ c ∈ l, c.what.length = 64
theorem body_length (l : List Chg) : (body l).length = takes l.length - 1 := by simp [body, takes]; omega
theorem body_pages {l : List Chg} (h : Fit l) : ∀ p ∈ body l, p.length = 64 := by
  intro p hp
  rcases List.mem_append.1 hp with hp | hp
  · obtain ⟨i, _, rfl⟩ := List.mem_map.1 hp
    exact numsPage_length l i
  · obtain ⟨c, hc, rfl⟩ := List.mem_map.1 hp
    exact h.what c hc
theorem flatten_pages : ∀ (a b : List (List UInt8)), a.length = b.length → (∀ p ∈ a, p.length = 64) → (∀ p ∈ b, p.length = 64) → a.flatten = b.flatten → a = b
  | [], [], _, _, _, _ => rfl
  | [], _ :: _, h, _, _, _ => by simp at h
  | _ :: _, [], h, _, _, _ => by simp at h
  | p :: a, q :: b, h, ha, hb, e => by
    have hp := ha p (by simp)
    have hq := hb q (by simp)
    rw [List.flatten_cons, List.flatten_cons] at e
    obtain ⟨e1, e2⟩ := List.append_inj e (by omega)
    rw [e1, flatten_pages a b (by simpa using h) (fun x hx => ha x (by simp [hx])) (fun x hx => hb x (by simp [hx])) e2]

-- what was laid is read again
theorem num4_le4 (x : Nat) (h : x < 4294967296) (l : List UInt8) : num4 (le4 x ++ l) 0 = x := by
  simp [num4, le4, at8]; omega
theorem num4_drop (p : List UInt8) (o : Nat) : num4 p o = num4 (p.drop o) 0 := by
  simp [num4, at8, List.getElem?_drop, Nat.add_comm]
theorem drop_flatMap_le4 : ∀ (l : List Chg) (i : Nat), (l.flatMap fun c => le4 c.at_).drop (4 * i) = (l.drop i).flatMap fun c => le4 c.at_
  | _, 0 => by simp
  | [], i + 1 => by simp
  | c :: l, i + 1 => by
    rw [List.flatMap_cons, show 4 * (i + 1) = (le4 c.at_).length + 4 * i from by simp [le4]; omega, List.drop_length_add_append, List.drop_succ_cons]
    exact drop_flatMap_le4 l i
theorem num4_numsPage {l : List Chg} (h : Fit l) (c : Nat) (hc : c < l.length) : num4 (numsPage l (c / 16)) (4 * (c % 16)) = (l[c]).at_ := by
  rw [num4_drop]
  unfold numsPage pad64
  have hlen := flatMap_le4_length ((l.drop (16 * (c / 16))).take 16)
  have h2 : c % 16 < ((l.drop (16 * (c / 16))).take 16).length := by simp; omega
  rw [List.drop_append_of_le_length (by omega), drop_flatMap_le4, List.drop_eq_getElem_cons h2, List.flatMap_cons, List.append_assoc, num4_le4]
  · simp only [List.getElem_take, List.getElem_drop]
    congr 2; omega
  · apply h.at_
    simp only [List.getElem_take, List.getElem_drop]
    exact List.getElem_mem _
theorem decode_body {l : List Chg} (h : Fit l) : decode (body l) l.length = l := by
  apply List.ext_getElem (by simp [decode])
  intro c h1 h2
  have hj : (l.length + 15) / 16 = ((List.range ((l.length + 15) / 16)).map (numsPage l)).length := by simp
  simp only [decode, List.getElem_map, List.getElem_range]
  have e1 : (body l).getD (c / 16) [] = numsPage l (c / 16) := by
    unfold body
    rw [List.getD_eq_getElem?_getD, List.getElem?_append_left (by simp; omega)]
    simp [show c / 16 < (l.length + 15) / 16 from by omega]
  have e2 : (body l).getD ((l.length + 15) / 16 + c) [] = (l[c]).what := by
    unfold body
    rw [List.getD_eq_getElem?_getD, List.getElem?_append_right (by simp)]
    simp [h2]
  rw [e1, e2, num4_numsPage h c h2]

/-- The record's pages stand at the mark. -/
def Stands (pg : Nat → List UInt8) (m : Mk) (l : List Chg) : Prop := ∀ i, i < takes l.length → pg (m.place + i) = (sectors m l).getD i []
theorem Stands.first {pg : Nat → List UInt8} {m : Mk} {l : List Chg} (h : Stands pg m l) : pg m.place = firstOf m l := by
  have := h 0 (by have := takes_pos l.length; omega)
  simpa [sectors] using this
theorem Stands.rest {pg : Nat → List UInt8} {m : Mk} {l : List Chg} (h : Stands pg m l) : rest pg m.place l.length = body l := by
  apply List.ext_getElem (by simp [Proofs.YtjkkbceddbkejaaGreatDoor.rest, body_length])
  intro i h1 h2
  have := h (1 + i) (by simp [Proofs.YtjkkbceddbkejaaGreatDoor.rest] at h1; omega)
  simp only [Proofs.YtjkkbceddbkejaaGreatDoor.rest, List.getElem_map, List.getElem_range]
  rw [this]
  simp [sectors, List.getD_eq_getElem?_getD, Nat.add_comm 1 i, List.getElem?_eq_getElem h2]
theorem firstOf_take (m : Mk) (l : List Chg) : (firstOf m l).take 10 = head10 m.num l.length := by
  unfold firstOf
  rw [List.take_left' (head10_length _ _)]
theorem firstOf_dig (m : Mk) (l : List Chg) : ((firstOf m l).drop 10).take 32 = dig (textOf m l) := by
  unfold firstOf
  rw [List.drop_left' (head10_length _ _), List.take_left' (dig_len _)]
theorem firstOf_k {l : List Chg} (m : Mk) (h : l.length ≤ 60) : (at8 (firstOf m l) 9).toNat = l.length := by
  unfold firstOf
  rw [at8_head10]
  simp; omega
theorem kOf_first {pg : Nat → List UInt8} {m : Mk} {l : List Chg} (h : pg m.place = firstOf m l) (hl : l.length ≤ 60) : kOf pg m = l.length := by
  unfold kOf; rw [h, firstOf_k m hl]
theorem begins_first {pg : Nat → List UInt8} {m : Mk} {l : List Chg} {free : Nat} (h : pg m.place = firstOf m l) (hl : Fit l) (hf : takes l.length ≤ free) : begins pg free m := by
  unfold begins
  rw [kOf_first h hl.le, h, firstOf_take]
  exact ⟨rfl, hl.one, hl.le, hf⟩
/-- Where a record's pages stand, it is found. -/
theorem Stands.holds {pg : Nat → List UInt8} {m : Mk} {l : List Chg} {free : Nat} (h : Stands pg m l) (hl : Fit l) (hf : takes l.length ≤ free) :
    holds pg free m ∧ kOf pg m = l.length ∧ rawText pg m = textOf m l ∧ found pg m = l := by
  have hk := kOf_first h.first hl.le
  have hr : rawText pg m = textOf m l := by
    unfold rawText textOf
    rw [hk, h.rest, h.first, firstOf_take]
  refine ⟨⟨begins_first h.first hl hf, ?_⟩, hk, hr, ?_⟩
  · rw [hr, h.first, firstOf_dig]
  · unfold found; rw [hk, h.rest, decode_body hl]
/-- Where its first page stands, what is found is it, or two unlike texts have one digest. -/
theorem first_or_clash {pg : Nat → List UInt8} {m : Mk} {l : List Chg} {free : Nat} (h : pg m.place = firstOf m l) (hl : Fit l) (hp : ∀ i, (pg i).length = 64) (hh : Proofs.YtjkkbceddbkejaaGreatDoor.holds pg free m) :
    (rawText pg m = textOf m l ∧ found pg m = l) ∨ (rawText pg m ≠ textOf m l ∧ dig (rawText pg m) = dig (textOf m l)) := by
  have hk := kOf_first h hl.le
  by_cases e : rawText pg m = textOf m l
  · refine .inl ⟨e, ?_⟩
    have e' := e
    unfold rawText textOf at e'
    rw [hk, h, firstOf_take] at e'
    have e2 := List.append_cancel_left (List.append_cancel_left e')
    have e3 := flatten_pages _ _ (by simp [Proofs.YtjkkbceddbkejaaGreatDoor.rest, body_length]) (fun p hp' => by obtain ⟨i, _, rfl⟩ := List.mem_map.1 hp'; exact hp _) (body_pages hl) e2
    unfold found
    rw [hk, e3, decode_body hl]
  · refine .inr ⟨e, ?_⟩
    rw [hh.2, h, firstOf_dig]
end Go.Proofs.YtjkkbceddbkejaaGreatDoor

/-
  What is found behind a mark: all records that were laid there; a first part of them where pages were lost, or two unlike texts have one digest.
-/
namespace Go.Proofs.YtjkkbceddbkejaaGreatDoor
open Sh

def endM (n : Nat) (m : Mk) (l : List Chg) : Mk := behind n m l.length (dig (textOf m l))
def lastOf (n : Nat) : Mk → List (List Chg) → Mk
  | m, [] => m
  | m, l :: ls => lastOf n (endM n m l) ls
def textsOf (n : Nat) : Mk → List (List Chg) → List (List UInt8)
  | _, [] => []
  | m, l :: ls => textOf m l :: textsOf n (endM n m l) ls
def takesAll (ls : List (List Chg)) : Nat := (ls.map fun l => takes l.length).sum
theorem takesAll_cons (l : List Chg) (ls : List (List Chg)) : takesAll (l :: ls) = takes l.length + takesAll ls := by simp [takesAll]
theorem takesAll_append (a b : List (List Chg)) : takesAll (a ++ b) = takesAll a + takesAll b := by simp [takesAll]
theorem lastOf_append (n : Nat) : ∀ (a b : List (List Chg)) (m : Mk), lastOf n m (a ++ b) = lastOf n (lastOf n m a) b
  | [], _, _ => rfl
  | l :: a, b, m => by rw [List.cons_append, lastOf, lastOf, lastOf_append n a b]
theorem textsOf_append (n : Nat) : ∀ (a b : List (List Chg)) (m : Mk), textsOf n m (a ++ b) = textsOf n m a ++ textsOf n (lastOf n m a) b
  | [], _, _ => rfl
  | l :: a, b, m => by rw [List.cons_append, textsOf, textsOf, lastOf, textsOf_append n a b, List.cons_append]
/-- The records stand one behind the other. -/
def LaidR (n : Nat) (pg : Nat → List UInt8) : Mk → List (List Chg) → Prop
  | _, [] => True
  | m, l :: ls => Stands pg m l ∧ LaidR n pg (endM n m l) ls
theorem LaidR.append {n : Nat} {pg : Nat → List UInt8} : ∀ {a : List (List Chg)} {b : List (List Chg)} {m : Mk}, LaidR n pg m a → LaidR n pg (lastOf n m a) b → LaidR n pg m (a ++ b)
  | [], _, _, _, h => h
  | _ :: _, _, _, ⟨h1, h2⟩, h => ⟨h1, LaidR.append h2 h⟩
theorem LaidR.left {n : Nat} {pg : Nat → List UInt8} : ∀ {a : List (List Chg)} {b : List (List Chg)} {m : Mk}, LaidR n pg m (a ++ b) → LaidR n pg m a
  | [], _, _, _ => trivial
  | _ :: _, _, _, ⟨h1, h2⟩ => ⟨h1, LaidR.left h2⟩

/-- Records that stand are found, and then what is behind them. -/
theorem openAll_laid {n : Nat} {pg : Nat → List UInt8} : ∀ {a : List (List Chg)} {m : Mk} {f free : Nat}, LaidR n pg m a → (∀ l ∈ a, Fit l) → takesAll a ≤ free → free ≤ f →
    openAll n pg f free m = (a ++ (openAll n pg f (free - takesAll a) (lastOf n m a)).1, (openAll n pg f (free - takesAll a) (lastOf n m a)).2)
  | [], m, f, free, _, _, _, _ => by simp [takesAll, lastOf]
  | l :: a, m, f, free, ⟨h1, h2⟩, hf, ht, hff => by
    rw [takesAll_cons] at ht ⊢
    have hl := hf l (by simp)
    obtain ⟨hh, hk, hr, he⟩ := h1.holds (free := free) hl (by omega)
    have hp := takes_pos l.length
    obtain ⟨f, rfl⟩ : ∃ g, f = g + 1 := ⟨f - 1, by omega⟩
    rw [openAll, if_pos hh, hk, hr, he]
    have ih := openAll_laid (f := f + 1) (free := free - takes l.length) h2 (fun x hx => hf x (by simp [hx])) (by omega) (by omega)
    have e : openAll n pg f (free - takes l.length) (behind n m l.length (dig (textOf m l))) = openAll n pg (f + 1) (free - takes l.length) (endM n m l) := openAll_rounds n pg _ _ _ _ (by omega) (by omega)
    rw [e, ih, show free - takes l.length - takesAll a = free - (takes l.length + takesAll a) from by omega]
    rfl
theorem chainAll_laid {n : Nat} {pg : Nat → List UInt8} : ∀ {a : List (List Chg)} {m : Mk} {f free : Nat}, LaidR n pg m a → (∀ l ∈ a, Fit l) → takesAll a ≤ free → free ≤ f →
    chainAll n pg f free m = (textsOf n m a ++ (chainAll n pg f (free - takesAll a) (lastOf n m a)).1, (chainAll n pg f (free - takesAll a) (lastOf n m a)).2)
  | [], m, f, free, _, _, _, _ => by simp [takesAll, lastOf, textsOf]
  | l :: a, m, f, free, ⟨h1, h2⟩, hf, ht, hff => by
    rw [takesAll_cons] at ht ⊢
    have hl := hf l (by simp)
    obtain ⟨hh, hk, hr, he⟩ := h1.holds (free := free) hl (by omega)
    have hp := takes_pos l.length
    obtain ⟨f, rfl⟩ : ∃ g, f = g + 1 := ⟨f - 1, by omega⟩
    rw [chainAll, if_pos hh.1, if_pos hh, hk, hr]
    have ih := chainAll_laid (f := f + 1) (free := free - takes l.length) h2 (fun x hx => hf x (by simp [hx])) (by omega) (by omega)
    have e : chainAll n pg f (free - takes l.length) (behind n m l.length (dig (textOf m l))) = chainAll n pg (f + 1) (free - takes l.length) (endM n m l) := chainAll_rounds n pg _ _ _ _ (by omega) (by omega)
    rw [e, ih, show free - takes l.length - takesAll a = free - (takes l.length + takesAll a) from by omega]
    rfl
theorem openAll_stop {n : Nat} {pg : Nat → List UInt8} {f free : Nat} {m : Mk} (h : ¬ holds pg free m) : openAll n pg f free m = ([], m, free) := by
  cases f with
  | zero => rfl
  | succ f => rw [openAll, if_neg h]
theorem chainAll_stop {n : Nat} {pg : Nat → List UInt8} {f free : Nat} {m : Mk} (h : ¬ begins pg free m) : chainAll n pg f free m = ([], m) := by
  cases f with
  | zero => rfl
  | succ f => rw [chainAll, if_neg h]
theorem chainAll_head {n : Nat} {pg : Nat → List UInt8} {f free : Nat} {m : Mk} (h : begins pg free m) (hf : free ≤ f) : rawText pg m ∈ (chainAll n pg f free m).1 := by
  have h1 := h.2.2.2
  have h2 := takes_pos (kOf pg m)
  obtain ⟨f, rfl⟩ : ∃ g, f = g + 1 := ⟨f - 1, by omega⟩
  rw [chainAll, if_pos h]
  split <;> simp

/-- Two unlike texts of one digest, one of either. -/
def Clashes (a b : List (List UInt8)) : Prop := ∃ t ∈ a, ∃ u ∈ b, t ≠ u ∧ dig t = dig u
theorem begins_T {pg : Nat → List UInt8} {free : Nat} {m : Mk} (h : begins pg free m) : at8 (pg m.place) 0 = 84 := by
  have e := h.1
  have e2 : at8 ((pg m.place).take 10) 0 = at8 (pg m.place) 0 := by simp [at8, List.getElem?_take]
  rw [← e2, e]; rfl
/-- Of each record the first page stands, or none that begins so. -/
def Heads (n : Nat) (pg : Nat → List UInt8) : Mk → List (List Chg) → Prop
  | _, [] => True
  | m, l :: ls => (pg m.place = firstOf m l ∨ at8 (pg m.place) 0 ≠ 84) ∧ Heads n pg (endM n m l) ls
/-- What is found where the heads are those of records is a first part of these, or there are two unlike texts of one digest. -/
theorem open_heads {n : Nat} {pg : Nat → List UInt8} (hp : ∀ i, (pg i).length = 64) : ∀ {a : List (List Chg)} {m : Mk} {f free : Nat}, Heads n pg m a → (∀ l ∈ a, Fit l) → takesAll a ≤ free → free ≤ f →
    ¬ begins pg (free - takesAll a) (lastOf n m a) →
    (∃ j, j ≤ a.length ∧ (openAll n pg f free m).1 = a.take j) ∨ Clashes (textsOf n m a) (chainAll n pg f free m).1
  | [], m, f, free, _, _, _, _, he => by
    refine .inl ⟨0, by simp, ?_⟩
    rw [openAll_stop (fun h => he (by simpa [takesAll, lastOf] using h.1))]
    rfl
  | l :: a, m, f, free, ⟨h1, h2⟩, hf, ht, hff, he => by
    rw [takesAll_cons] at ht he
    have hl := hf l (by simp)
    have hp1 := takes_pos l.length
    rcases h1 with h1 | h1
    · by_cases hh : holds pg free m
      · have hk := kOf_first h1 hl.le
        rcases first_or_clash h1 hl hp hh with ⟨hr, hd⟩ | ⟨hr, hd⟩
        · obtain ⟨f, rfl⟩ : ∃ g, f = g + 1 := ⟨f - 1, by omega⟩
          have ih := open_heads hp (f := f) (free := free - takes l.length) h2 (fun x hx => hf x (by simp [hx])) (by omega) (by omega)
            (by rw [show free - takes l.length - takesAll a = free - (takes l.length + takesAll a) from by omega]; exact he)
          rw [openAll, chainAll, if_pos hh, if_pos hh.1, if_pos hh, hk, hr, hd]
          rcases ih with ⟨j, hj, e⟩ | ⟨t, ht1, u, hu1, hne⟩
          · refine .inl ⟨j + 1, by simpa using hj, ?_⟩
            show l :: (openAll n pg f (free - takes l.length) (endM n m l)).1 = _
            rw [e]; rfl
          · exact .inr ⟨t, by rw [textsOf]; exact List.mem_cons_of_mem _ ht1, u, List.mem_cons_of_mem _ hu1, hne⟩
        · exact .inr ⟨textOf m l, by simp [textsOf], rawText pg m, chainAll_head hh.1 hff, fun e => hr e.symm, hd.symm⟩
      · exact .inl ⟨0, by simp, by rw [openAll_stop hh]; rfl⟩
    · exact .inl ⟨0, by simp, by rw [openAll_stop (fun h => h1 (begins_T h.1))]; rfl⟩
/-- What of the first ones stands wholly is there, in either way. -/
theorem open_lasts {n : Nat} {pg : Nat → List UInt8} (hp : ∀ i, (pg i).length = 64) {a b : List (List Chg)} {m : Mk} {f free : Nat} (ha : LaidR n pg m a) (hb : Heads n pg (lastOf n m a) b)
    (hf : ∀ l ∈ a ++ b, Fit l) (ht : takesAll (a ++ b) ≤ free) (hff : free ≤ f) (he : ¬ begins pg (free - takesAll (a ++ b)) (lastOf n m (a ++ b))) :
    (∃ j, a.length ≤ j ∧ j ≤ (a ++ b).length ∧ (openAll n pg f free m).1 = (a ++ b).take j) ∨ Clashes (textsOf n m (a ++ b)) (chainAll n pg f free m).1 := by
  rw [takesAll_append] at ht he
  rw [openAll_laid ha (fun l hl => hf l (by simp [hl])) (by omega) hff, chainAll_laid ha (fun l hl => hf l (by simp [hl])) (by omega) hff, textsOf_append]
  rcases open_heads hp (f := f) (free := free - takesAll a) hb (fun l hl => hf l (by simp [hl])) (by omega) (by omega)
      (by rw [show free - takesAll a - takesAll b = free - (takesAll a + takesAll b) from by omega, ← lastOf_append]; exact he) with ⟨j, hj, e⟩ | ⟨t, ht1, u, hu1, hne⟩
  · refine .inl ⟨a.length + j, by omega, by simp; omega, ?_⟩
    simp only [e, List.take_length_add_append]
  · exact .inr ⟨t, by simp [ht1], u, by simp [hu1], hne⟩
end Go.Proofs.YtjkkbceddbkejaaGreatDoor

/-
  Records laid on an image, around: what was laid ahead of them still stands, what is behind them is as it was.
-/
namespace Go.Proofs.YtjkkbceddbkejaaGreatDoor
open Sh

/-- The page of a place of the ring of n sectors from first on. -/
def pgOf (img : List (List UInt8)) (first n : Nat) : Nat → List UInt8 := fun i => img.getD (first + i % n) []
theorem pgOf_mod (img : List (List UInt8)) (first n i : Nat) : pgOf img first n (i % n) = pgOf img first n i := by simp [pgOf]
theorem pgOf_mod_add (img : List (List UInt8)) (first n i d : Nat) : pgOf img first n (i % n + d) = pgOf img first n (i + d) := by simp [pgOf]
/-- Pages written from a place on, around. -/
def putAll (first n : Nat) : List (List UInt8) → Nat → List (List UInt8) → List (List UInt8)
  | img, _, [] => img
  | img, pl, p :: ps => putAll first n (img.set (first + pl % n) p) (pl + 1) ps
theorem putAll_length (first n : Nat) : ∀ (ps : List (List UInt8)) (img : List (List UInt8)) (pl : Nat), (putAll first n img pl ps).length = img.length
  | [], _, _ => rfl
  | p :: ps, img, pl => by rw [putAll, putAll_length first n ps, List.length_set]
theorem mod_ne {n pl d : Nat} (h0 : 0 < d) (h : d < n) : (pl + d) % n ≠ pl % n := by
  intro e
  have h1 := Nat.div_add_mod (pl + d) n
  have h2 := Nat.div_add_mod pl n
  have h3 : n * ((pl + d) / n) = n * (pl / n) + d := by omega
  have h4 : n * ((pl + d) / n) - n * (pl / n) = d := by omega
  rw [← Nat.mul_sub] at h4
  have h5 : n ∣ d := ⟨_, h4.symm⟩
  have := Nat.le_of_dvd h0 h5
  omega
theorem put_get (first n : Nat) (hn : 0 < n) : ∀ (ps : List (List UInt8)) (img : List (List UInt8)) (pl d : Nat), ps.length ≤ n → first + n ≤ img.length → d < n →
    pgOf (putAll first n img pl ps) first n (pl + d) = if d < ps.length then ps.getD d [] else pgOf img first n (pl + d)
  | [], img, pl, d, _, _, _ => by simp [putAll]
  | p :: ps, img, pl, d, hl, hi, hd => by
    have hm := Nat.mod_lt pl hn
    rw [List.length_cons] at hl ⊢
    rw [putAll]
    cases d with
    | zero =>
      have h := put_get first n hn ps (img.set (first + pl % n) p) (pl + 1) (n - 1) (by omega) (by simpa using hi) (by omega)
      rw [if_neg (by omega), show pl + 1 + (n - 1) = pl + n from by omega] at h
      have e : ∀ im : List (List UInt8), pgOf im first n (pl + n) = pgOf im first n (pl + 0) := fun im => by simp [pgOf]
      rw [e, e] at h
      rw [h, if_pos (by omega)]
      simp only [pgOf, Nat.add_zero, List.getD_eq_getElem?_getD, List.getElem?_cons_zero, Option.getD_some]
      rw [List.getElem?_set_self (by omega)]; rfl
    | succ d =>
      have h := put_get first n hn ps (img.set (first + pl % n) p) (pl + 1) d (by omega) (by simpa using hi) (by omega)
      rw [show pl + 1 + d = pl + (d + 1) from by omega] at h
      rw [h]
      have hne := mod_ne (pl := pl) (d := d + 1) (by omega) hd
      by_cases hlt : d < ps.length
      · rw [if_pos hlt, if_pos (by omega)]; simp
      · rw [if_neg hlt, if_neg (by omega)]
        simp only [pgOf, List.getD_eq_getElem?_getD]
        rw [List.getElem?_set_ne (by omega)]
theorem put_out (first n : Nat) (hn : 0 < n) : ∀ (ps : List (List UInt8)) (img : List (List UInt8)) (pl i : Nat), (i < first ∨ first + n ≤ i) → (putAll first n img pl ps)[i]? = img[i]?
  | [], _, _, _, _ => rfl
  | p :: ps, img, pl, i, h => by
    have hm := Nat.mod_lt pl hn
    rw [putAll, put_out first n hn ps _ _ i h, List.getElem?_set_ne (by omega)]

/-- Pages that don't turn leave what stands. -/
theorem Stands.congr {pg pg' : Nat → List UInt8} {m : Mk} {l : List Chg} (h : Stands pg m l) (e : ∀ d, d < takes l.length → pg' (m.place + d) = pg (m.place + d)) : Stands pg' m l :=
  fun i hi => (e i hi).trans (h i hi)
theorem LaidR.congr {n : Nat} {pg pg' : Nat → List UInt8} (hp : ∀ i d, pg (i % n + d) = pg (i + d)) (hp' : ∀ i d, pg' (i % n + d) = pg' (i + d)) : ∀ {a : List (List Chg)} {m : Mk}, LaidR n pg m a → (∀ d, d < takesAll a → pg' (m.place + d) = pg (m.place + d)) → LaidR n pg' m a
  | [], _, _, _ => trivial
  | l :: a, m, ⟨h1, h2⟩, e => by
    rw [takesAll_cons] at e
    refine ⟨h1.congr fun d hd => e d (by omega), LaidR.congr hp hp' h2 fun d hd => ?_⟩
    show pg' ((m.place + takes l.length) % n + d) = pg ((m.place + takes l.length) % n + d)
    rw [hp, hp', Nat.add_assoc]
    exact e _ (by omega)
theorem lastOf_place (n : Nat) : ∀ (a : List (List Chg)) (m : Mk), (lastOf n m a).place % n = (m.place + takesAll a) % n
  | [], m => by simp [lastOf, takesAll]
  | l :: a, m => by
    rw [lastOf, lastOf_place n a, takesAll_cons, ← Nat.add_assoc]
    show ((m.place + takes l.length) % n + takesAll a) % n = _
    simp
theorem lastOf_num (n : Nat) : ∀ (a : List (List Chg)) (m : Mk), m.num + a.length < 18446744073709551616 → (lastOf n m a).num = m.num + a.length
  | [], m, _ => by simp [lastOf]
  | l :: a, m, h => by
    rw [List.length_cons] at h ⊢
    have e : (endM n m l).num = m.num + 1 := Nat.mod_eq_of_lt (by omega)
    rw [lastOf, lastOf_num n a _ (by omega), e]; omega
theorem sectors_length (m : Mk) (l : List Chg) : (sectors m l).length = takes l.length := by
  have := takes_pos l.length
  simp [sectors, body_length]; omega
/-- A record that is laid at the head stands behind those that stood. -/
theorem laid_add {first n : Nat} (hn : 0 < n) {img : List (List UInt8)} (hi : first + n ≤ img.length) {m : Mk} {a : List (List Chg)} {l : List Chg} (h : LaidR n (pgOf img first n) m a) (ht : takesAll (a ++ [l]) ≤ n) :
    LaidR n (pgOf (putAll first n img (lastOf n m a).place (sectors (lastOf n m a) l)) first n) m (a ++ [l]) := by
  have hta : takesAll (a ++ [l]) = takesAll a + takes l.length := by rw [takesAll_append, takesAll_cons]; simp [takesAll]
  rw [hta] at ht
  have hp := takes_pos l.length
  have hpl := lastOf_place n a m
  refine LaidR.append (h.congr (pgOf_mod_add _ _ _) (pgOf_mod_add _ _ _) fun d hd => ?_) ⟨fun i hi' => ?_, trivial⟩
  · -- place m.place + d = head + (n - takesAll a + d), around
    have hg := put_get first n hn (sectors (lastOf n m a) l) img (lastOf n m a).place (n - takesAll a + d) (by rw [sectors_length]; omega) hi (by omega)
    rw [if_neg (by rw [sectors_length]; omega)] at hg
    have e : ∀ im : List (List UInt8), pgOf im first n ((lastOf n m a).place + (n - takesAll a + d)) = pgOf im first n (m.place + d) := fun im => by
      rw [← pgOf_mod_add, hpl, pgOf_mod_add, show m.place + takesAll a + (n - takesAll a + d) = m.place + d + n from by omega]
      simp [pgOf]
    rwa [e, e] at hg
  · have hg := put_get first n hn (sectors (lastOf n m a) l) img (lastOf n m a).place i (by rw [sectors_length]; omega) hi (by omega)
    rw [if_pos (by rw [sectors_length]; exact hi')] at hg
    exact hg
/-- What lies behind the head is as it was. -/
theorem behind_add {first n : Nat} (hn : 0 < n) {img : List (List UInt8)} (hi : first + n ≤ img.length) {m : Mk} {a : List (List Chg)} {l : List Chg} (ht : takesAll (a ++ [l]) ≤ n) (d : Nat) (h1 : takesAll (a ++ [l]) ≤ d) (h2 : d < n) :
    pgOf (putAll first n img (lastOf n m a).place (sectors (lastOf n m a) l)) first n (m.place + d) = pgOf img first n (m.place + d) := by
  have hta : takesAll (a ++ [l]) = takesAll a + takes l.length := by rw [takesAll_append, takesAll_cons]; simp [takesAll]
  rw [hta] at ht h1
  have hpl := lastOf_place n a m
  have hg := put_get first n hn (sectors (lastOf n m a) l) img (lastOf n m a).place (d - takesAll a) (by rw [sectors_length]; omega) hi (by omega)
  rw [if_neg (by rw [sectors_length]; omega)] at hg
  have e : ∀ im : List (List UInt8), pgOf im first n ((lastOf n m a).place + (d - takesAll a)) = pgOf im first n (m.place + d) := fun im => by
    rw [← pgOf_mod_add, hpl, pgOf_mod_add, show m.place + takesAll a + (d - takesAll a) = m.place + d from by omega]
  rwa [e, e] at hg

/-- Behind the records nothing was written. -/
def Clean (n : Nat) (pg : Nat → List UInt8) (m : Mk) (a : List (List Chg)) : Prop := ∀ d, takesAll a ≤ d → d < n → pg (m.place + d) = List.replicate 64 0
theorem clean_add {first n : Nat} (hn : 0 < n) {img : List (List UInt8)} (hi : first + n ≤ img.length) {m : Mk} {a : List (List Chg)} {l : List Chg} (h : Clean n (pgOf img first n) m a) (ht : takesAll (a ++ [l]) ≤ n) :
    Clean n (pgOf (putAll first n img (lastOf n m a).place (sectors (lastOf n m a) l)) first n) m (a ++ [l]) := fun d h1 h2 => by
  rw [behind_add hn hi ht d h1 h2]
  exact h d (by rw [takesAll_append] at h1; omega) h2
/-- Where what is behind is clean nothing begins. -/
theorem clean_ends {n : Nat} {pg : Nat → List UInt8} (hp : ∀ i d, pg (i % n + d) = pg (i + d)) {m : Mk} {a : List (List Chg)} (h : Clean n pg m a) (ht : takesAll a ≤ n) : ¬ begins pg (n - takesAll a) (lastOf n m a) := by
  intro hb
  have h3 := hb.2.2.2
  have h4 := takes_pos (kOf pg (lastOf n m a))
  have hT := begins_T hb
  have e := h (takesAll a) (Nat.le_refl _) (by omega)
  have hq : pg (lastOf n m a).place = pg (m.place + takesAll a) := by
    have h1 := hp (lastOf n m a).place 0
    have h2 := hp (m.place + takesAll a) 0
    rw [lastOf_place] at h1
    simp only [Nat.add_zero] at h1 h2
    rw [← h1, h2]
  rw [hq, e] at hT
  revert hT; decide
end Go.Proofs.YtjkkbceddbkejaaGreatDoor

/-
  The reference's number: of eight bytes, the lowest first.
-/
namespace Go.Proofs.YtjkkbceddbkejaaGreatDoor
open Go.RowKit Sh

/-- The number of the bytes from place k on, below place 8. -/
def numFrom (bs : List UInt8) (k : Nat) : Nat := (bs.drop k).foldr (fun b n => b.toNat + 256 * n) 0
theorem numFrom_step {bs : List UInt8} {k : Nat} (h : k < bs.length) : numFrom bs k = (at8 bs k).toNat + 256 * numFrom bs (k + 1) := by
  unfold numFrom
  rw [List.drop_eq_getElem_cons h, List.foldr_cons]
  simp [at8, h]
theorem numFrom_lt : ∀ (bs : List UInt8) (k : Nat), numFrom bs k < 256 ^ (bs.length - k) := fun bs k => by
  unfold numFrom
  have : ∀ l : List UInt8, l.foldr (fun b n => b.toNat + 256 * n) 0 < 256 ^ l.length := by
    intro l
    induction l with
    | nil => simp
    | cons b l ih =>
      have := b.toNat_lt
      rw [List.foldr_cons, List.length_cons, Nat.pow_succ]
      omega
  have h := this (bs.drop k)
  rwa [List.length_drop] at h
end Go.Proofs.YtjkkbceddbkejaaGreatDoor

/-
  A page that was written for an elder record is no head of a later one: the changes that the laws add.
-/
namespace Go.Proofs.YtjkkbceddbkejaaGreatDoor
open Sh

/-- The laws' changes: n of them, of a number x. -/
def chgs (n x : Nat) : List Chg := (List.range n).map fun i => ⟨x + 3 * i, UInt8.ofNat x :: UInt8.ofNat i :: UInt8.ofNat n :: List.replicate 61 0⟩
theorem chgs_length (n x : Nat) : (chgs n x).length = n := by simp [chgs]
theorem chgs_fit (n x : Nat) (h1 : 1 ≤ n) (h2 : n ≤ 60) (hx : x < 16777216) : Fit (chgs n x) := by
  refine ⟨by rw [chgs_length]; exact h1, by rw [chgs_length]; exact h2, fun c hc => ?_, fun c hc => ?_⟩
  · obtain ⟨i, hi, rfl⟩ := List.mem_map.1 hc
    have := List.mem_range.1 hi
    show x + 3 * i < _; omega
  · obtain ⟨i, hi, rfl⟩ := List.mem_map.1 hc
    simp
/-- No head of a record numbered num or later (below 256). -/
def Old (num : Nat) (p : List UInt8) : Prop := ∀ N k, num ≤ N → N < 256 → 1 ≤ k → k ≤ 60 → p.take 10 ≠ head10 N k
theorem Old.mono {a b : Nat} {p : List UInt8} (h : Old a p) (hab : a ≤ b) : Old b p := fun N k h1 h2 h3 h4 => h N k (by omega) h2 h3 h4
theorem at8_take {p : List UInt8} {i n : Nat} (h : i < n) : at8 (p.take n) i = at8 p i := by
  simp only [at8, List.getD_eq_getElem?_getD, List.getElem?_take_of_lt h]
theorem head_bytes (N k : Nat) : at8 (head10 N k) 0 = 84 ∧ at8 (head10 N k) 1 = UInt8.ofNat N ∧ at8 (head10 N k) 4 = UInt8.ofNat (N / 16777216) ∧ at8 (head10 N k) 9 = UInt8.ofNat k := by
  simp [head10, le8, at8, List.range_succ]
/-- What a page that begins so has in its places. -/
theorem old_bytes {p : List UInt8} {N k : Nat} (h : p.take 10 = head10 N k) : at8 p 0 = 84 ∧ at8 p 1 = UInt8.ofNat N ∧ at8 p 4 = UInt8.ofNat (N / 16777216) ∧ at8 p 9 = UInt8.ofNat k := by
  obtain ⟨h0, h1, h4, h9⟩ := head_bytes N k
  rw [← h] at h0 h1 h4 h9
  rw [at8_take (by omega)] at h0 h1 h4 h9
  exact ⟨h0, h1, h4, h9⟩
theorem ofNat_ne_zero {k : Nat} (h1 : 1 ≤ k) (h2 : k ≤ 60) : UInt8.ofNat k ≠ 0 := fun e => by
  have := congrArg UInt8.toNat e
  simp at this; omega
theorem old_of_nine {num : Nat} {p : List UInt8} (h : at8 p 9 = 0) : Old num p := fun N k _ _ h3 h4 e => ofNat_ne_zero h3 h4 ((old_bytes e).2.2.2 ▸ h)
theorem old_zero (num : Nat) : Old num (List.replicate 64 0) := old_of_nine rfl
theorem old_what {num n x : Nat} : ∀ c ∈ chgs n x, Old num c.what := fun c hc => by
  obtain ⟨i, _, rfl⟩ := List.mem_map.1 hc
  exact old_of_nine rfl
theorem old_first {num : Nat} {m : Mk} {l : List Chg} (h : m.num < num) (hm : m.num < 256) : Old num (firstOf m l) := fun N k h1 h2 _ _ e => by
  rw [firstOf_take] at e
  have e2 := (head_bytes m.num l.length).2.1
  rw [e, (head_bytes N k).2.1] at e2
  have := congrArg UInt8.toNat e2
  simp at this; omega
/-- The bytes of a page of numbers: its second number begins with one that isn't 0, if its first begins with 84. -/
theorem old_nums {num n x i : Nat} (hx : x < 16777216) (hn : n ≤ 60) : Old num (numsPage (chgs n x) i) := fun N k h1 h2 h3 h4 e => by
  obtain ⟨b0, b1, b4, b9⟩ := old_bytes e
  have hq : UInt8.ofNat (N / 16777216) = 0 := by rw [Nat.div_eq_of_lt (by omega)]; rfl
  rw [hq] at b4
  have hk := ofNat_ne_zero h3 h4
  rw [← b9] at hk
  unfold numsPage pad64 at b0 b4 hk
  have hd : ((chgs n x).drop (16 * i)).take 16 = (List.range (min 16 (n - 16 * i))).map fun j => (⟨x + 3 * (16 * i + j), UInt8.ofNat x :: UInt8.ofNat (16 * i + j) :: UInt8.ofNat n :: List.replicate 61 0⟩ : Chg) := by
    apply List.ext_getElem (by simp [chgs])
    intro j _ _
    simp [chgs]
  rw [hd] at b0 b4 hk
  match hc : min 16 (n - 16 * i) with
  | 0 => rw [hc] at hk; exact hk (by simp [at8])
  | 1 => rw [hc] at hk; exact hk (by simp [at8, le4])
  | 2 => rw [hc] at hk; exact hk (by simp [at8, le4, List.range_succ])
  | r + 3 =>
    rw [hc] at b0 b4
    rw [show r.succ.succ.succ = 2 + (r + 1) from by omega, List.range_add] at b0 b4
    simp only [List.range_succ, List.range_zero, List.nil_append, List.map_append, List.map_cons, List.map_nil, List.flatMap_append, List.flatMap_cons, List.flatMap_nil, List.append_assoc, List.cons_append, le4] at b0 b4
    simp only [at8, List.getD_eq_getElem?_getD, List.getElem?_cons_zero, List.getElem?_cons_succ, Option.getD_some] at b0 b4
    have c0 := congrArg UInt8.toNat b0
    have c4 := congrArg UInt8.toNat b4
    simp at c0 c4
    omega
/-- Nothing begins on such a page. -/
theorem old_begins {pg : Nat → List UInt8} {free : Nat} {m : Mk} (h : Old m.num (pg m.place)) (hm : m.num < 256) : ¬ begins pg free m := fun hb => h m.num (kOf pg m) (Nat.le_refl _) hm hb.2.1 hb.2.2.1 hb.1
/-- All pages of a record that the laws add are such. -/
theorem old_sectors {num n x : Nat} {m : Mk} (h : m.num < num) (hm : m.num < 256) (hx : x < 16777216) (hn : n ≤ 60) : ∀ p ∈ sectors m (chgs n x), Old num p := fun p hp => by
  rcases List.mem_cons.1 hp with rfl | hp
  · exact old_first h hm
  · rcases List.mem_append.1 hp with hp | hp
    · obtain ⟨i, _, rfl⟩ := List.mem_map.1 hp
      exact old_nums hx hn
    · obtain ⟨c, hc, rfl⟩ := List.mem_map.1 hp
      exact old_what c hc
end Go.Proofs.YtjkkbceddbkejaaGreatDoor

/-
  The reference's ring in memory; its small calls.
-/
namespace Go.Proofs.YtjkkbceddbkejaaGreatDoor
open Go.RowKit Sh

def ringCells (gd first n : Nat) (m : Mk) (used : Nat) : Array Value := (.pointer (some ⟨gd, 0, none⟩) :: .int .i64 first :: .int .i64 n :: .int .i64 m.place :: .int .u64 m.num :: (m.last.map cu8 ++ [.int .i64 used])).toArray
section
variable {g gd first n used : Nat} {m : Mk} {w w' : World}
theorem flushS_pages : ∀ (ats : List Int) (what firm : List (List Value)), Pages firm → Pages what → Pages (flushS firm ats what)
  | [], what, firm, hf, _ => by cases what <;> exact hf
  | _ :: _, [], firm, hf, _ => hf
  | a :: xs, p :: ys, firm, hf, hw => by
    simp only [flushS]
    refine flushS_pages xs ys _ (fun q hq => ?_) (fun q hq => hw q (by simp [hq]))
    rcases List.mem_or_eq_of_mem_set hq with hq | rfl
    · exact hf q hq
    · exact hw _ (by simp)
theorem page_of_read {S : St} (h : Pages S.newest) (i : Int) : IsPage (readOf S i).1 := by
  unfold readOf readN
  split
  · rw [List.getD_eq_getElem?_getD]
    cases hc : S.newest[i.toNat]? with
    | none => exact zeroPage_ok
    | some p => exact h p (List.mem_of_getElem? hc)
  · exact zeroPage_ok
end
end Go.Proofs.YtjkkbceddbkejaaGreatDoor

/-
  The reference's ring: at.
-/
namespace Go.Proofs.YtjkkbceddbkejaaGreatDoor
open Go.RowKit Sh

theorem wpAnyH_oneR {P : Program} {md : Region.Mode} {ops : Array Oper} {Q : Exit → Act → World → Prop} {S : World → Prop} {fuel : Nat} {listed : Array Bool} {a : Act} {w : World} (i : Nat) (o : Oper) (hi : ops[i]? = some o) (hr : Region.ready md ops listed = [i])
    (hw : Region.wanted o (yielded ops a.tmps) = true) (h : ∀ K : Act → World → Prop, (∀ a' w', S w' → wpAnyH P md ops Q S fuel (listed.setIfInBounds i true) a' w' → K a' w') → Oper.wp P o a w K Q) : wpAnyH P md ops Q S (fuel + 1) listed a w := by
  refine wpAnyH_all hr (by simp) (fun j hj => ?_)
  obtain rfl : j = i := by simpa using hj
  unfold wpOp
  simp only [hi, hw, if_true]
  exact .inl (h _ fun _ _ h1 h2 => ⟨h1, h2⟩)

section
variable {g gd first n used : Nat} {m : Mk} {w w' : World}
end
end Go.Proofs.YtjkkbceddbkejaaGreatDoor

/-
  The reference's mark as a value: built of a place, a number and 32 bytes.
-/
namespace Go.Proofs.YtjkkbceddbkejaaGreatDoor
open Go.RowKit Sh

theorem fill_three (cells : Array Value) (hc : cells.size = 34) (a b : Value) (ha : a.cells = #[a]) (hb : b.cells = #[b]) (p : List Value) (hp : p.length = 32) (places : Nat → Option (Nat × Nat)) (h0 : places 0 = some (0, 1)) (h1 : places 1 = some (1, 1)) (h2 : places 2 = some (2, 32)) :
    Instr.fill places cells [(0, a), (1, b), (2, .agg p.toArray)] = some (a :: b :: p).toArray := by
  have e1 : (Value.agg p.toArray).cells = p.toArray := rfl
  simp only [Instr.fill, h0, h1, h2, ha, hb, e1]
  have s1 : ∀ (x : Value) (k : Nat) (cs : Array Value), (#[x] : Array Value).zipIdx.foldl (fun cs x => match x with | (c, j) => cs.setIfInBounds (k + j) c) cs = cs.setIfInBounds k x := fun x k cs => by
    show cs.setIfInBounds (k + 0) x = _
    rw [Nat.add_zero]
  rw [if_neg (by simp [hc]), s1, if_neg (by simp [hc]), s1, if_neg (by simp [hc, hp])]
  congr 1
  rw [← Array.foldl_toList, Array.toList_zipIdx]
  obtain ⟨hs, hk⟩ := Great.foldl_set 2 p 0 ((cells.setIfInBounds 0 a).setIfInBounds 1 b)
  apply Array.ext_getElem?
  intro k
  refine (hk k).trans ?_
  rw [Array.size_setIfInBounds, Array.size_setIfInBounds, hc]
  by_cases hk0 : k = 0
  · subst hk0
    rw [if_neg (by omega), Array.getElem?_setIfInBounds, Array.getElem?_setIfInBounds]
    simp [hc]
  · by_cases hk1 : k = 1
    · subst hk1
      rw [if_neg (by omega), Array.getElem?_setIfInBounds]
      simp [hc]
    · by_cases hlt : k < 34
      · rw [if_pos (by omega)]
        obtain ⟨j, rfl⟩ : ∃ j, k = j + 2 := ⟨k - 2, by omega⟩
        rw [show j + 2 - (2 + 0) = j by omega]
        simp
      · rw [if_neg (by omega), Array.getElem?_eq_none (by simp [hc]; omega), Array.getElem?_eq_none (by simp [hp]; omega)]

def markCells (m : Mk) : List Value := .int .i64 m.place :: .int .u64 m.num :: m.last.map cu8
end Go.Proofs.YtjkkbceddbkejaaGreatDoor

/-
  The reference's ring: behind.
-/
namespace Go.Proofs.YtjkkbceddbkejaaGreatDoor
open Go.RowKit Sh

/-- A whole value stored into a row that is known whole. -/
theorem wp_store_into {P : Program} {o : Oper} {a : Act} {w : World} {K : Act → World → Prop} {Q : Exit → Act → World → Prop} (ty : TypeId) (x y : Operand)
    (ho : o.op = .store ty x y) (g off : Nat) (cells : Array Value) (hx : a.eval x = .pointer (some ⟨g, off, none⟩)) (hy : a.eval y = .agg cells) (cur : List Value) (t : TypeId) (hg : w.heap[g]? = some (.cells cur.toArray t (0, 0)))
    (hi : (P.info? ty).map (·.size) = some cells.size) (hfit : off + cells.size ≤ cur.length) (h1 : ∀ v ∈ cells.toList, v.oneCell' = true)
    (h : ∀ w', w'.heap[g]? = some (.cells (splice cur off cells.toList).toArray t (0, 0)) → w.grownBy w' (some g) → K (a.put o.dst undef) w') : o.wp P a w K Q := by
  have hst := run_storeCells_at P g off t cells.toList 0 cur.toArray w hg (by simpa using hfit) h1
  have hrun : (storeVar ty ⟨g, off, none⟩ (.agg cells)).run P w = .ok () (w.setRow g (splice cur off cells.toList).toArray) := by
    cases hq : P.info? ty with
    | none => simp [hq] at hi
    | some i =>
      have hs : cells.size = i.size := by simp [hq] at hi; omega
      simp only [Nat.add_zero] at hst
      simp [storeVar, sizeOf, typeInfo, hq, Value.cells, hs, hst, splice]
  unfold Oper.wp execOp
  simp only [ho, hx, hy, Instr.storeAt, Instr.sureAddr, Sem.run_bind, Sem.run_pure, Result.andThen_ok, hrun]
  exact h _ (setRow_heap w g _ _ t _ hg) ⟨rfl, rfl, rfl, by simp, fun k _ hne => setRow_other w g k _ (fun e => hne (by rw [e]))⟩

theorem splice_ring (gd first n : Nat) (m m2 : Mk) (used : Nat) (h : m.last.length = 32) (h2 : m2.last.length = 32) :
    (splice (ringCells gd first n m used).toList 3 (markCells m2)).toArray = ringCells gd first n m2 used := by
  have e : (m.last.map cu8).length = 32 := by simp [h]
  have e2 : (m2.last.map cu8).length = 32 := by simp [h2]
  simp only [splice, ringCells, markCells]
  simp [h2, List.drop_append, h]
theorem set_ring (gd first n : Nat) (m : Mk) (used used2 : Nat) (h : m.last.length = 32) : (ringCells gd first n m used).setIfInBounds 37 (.int .i64 used2) = ringCells gd first n m used2 := by
  simp [ringCells, List.set_append, h]

section
variable {g gd first n used : Nat} {m : Mk} {w w' : World}
end
end Go.Proofs.YtjkkbceddbkejaaGreatDoor

/-
  A crash of a disk on which each sector waits at most once: each is then as it was newest, or as it was firm.
-/
namespace Go.Proofs.YtjkkbceddbkejaaGreatDoor
open Go.RowKit Sh

theorem flushS_far : ∀ (xs : List Int) (ys firm : List (List Value)) (i : Nat), (∀ a ∈ xs, a.toNat ≠ i) → (flushS firm xs ys)[i]? = firm[i]?
  | [], ys, firm, i, _ => by cases ys <;> rfl
  | _ :: _, [], firm, i, _ => rfl
  | a :: xs, p :: ys, firm, i, h => by
    simp only [flushS]
    rw [flushS_far xs ys _ i (fun x hx => h x (by simp [hx])), List.getElem?_set_ne (h a (by simp))]
theorem flushS_congr : ∀ (xs : List Int) (ys f1 f2 : List (List Value)) (i : Nat), f1.length = f2.length → f1[i]? = f2[i]? → (flushS f1 xs ys)[i]? = (flushS f2 xs ys)[i]?
  | [], ys, f1, f2, i, _, h => by cases ys <;> exact h
  | _ :: _, [], f1, f2, i, _, h => h
  | a :: xs, p :: ys, f1, f2, i, hl, h => by
    simp only [flushS]
    refine flushS_congr xs ys _ _ i (by simp [hl]) ?_
    by_cases e : a.toNat = i
    · subst e
      rw [List.getElem?_set, List.getElem?_set, hl, if_pos rfl, if_pos rfl]
    · rw [List.getElem?_set_ne e, List.getElem?_set_ne e, h]
theorem crashS_get : ∀ (xs : List Int) (ys firm : List (List Value)) (k : Nat) (pick : List Int) (i : Nat), ys.length = xs.length → (xs.map Int.toNat).Nodup →
    (crashS k firm xs ys pick)[i]? = (flushS firm xs ys)[i]? ∨ (crashS k firm xs ys pick)[i]? = firm[i]?
  | [], [], firm, k, pick, i, _, _ => .inr rfl
  | [], _ :: _, _, _, _, _, h, _ => by simp at h
  | _ :: _, [], _, _, _, _, h, _ => by simp at h
  | a :: xs, p :: ys, firm, k, pick, i, hl, hd => by
    rw [List.map_cons, List.nodup_cons] at hd
    have hl' : ys.length = xs.length := by simpa using hl
    have hna : ∀ x ∈ xs, x.toNat ≠ a.toNat := fun x hx e => hd.1 (by rw [← e]; exact List.mem_map_of_mem hx)
    simp only [crashS, flushS]
    by_cases hp : (k : Int) ∈ pick
    · rw [if_pos hp]
      rcases crashS_get xs ys (firm.set a.toNat p) (k + 1) pick i hl' hd.2 with h | h
      · exact .inl h
      · by_cases e : a.toNat = i
        · subst e
          left
          rw [h, flushS_far xs ys _ _ hna]
        · exact .inr (by rw [h, List.getElem?_set_ne e])
    · rw [if_neg hp]
      rcases crashS_get xs ys firm (k + 1) pick i hl' hd.2 with h | h
      · by_cases e : a.toNat = i
        · subst e
          right
          rw [h, flushS_far xs ys _ _ hna]
        · left
          rw [h]
          exact flushS_congr xs ys _ _ i (by simp) (by rw [List.getElem?_set_ne e])
      · exact .inr h
theorem crashS_far : ∀ (xs : List Int) (ys firm : List (List Value)) (k : Nat) (pick : List Int) (i : Nat), (∀ a ∈ xs, a.toNat ≠ i) → (crashS k firm xs ys pick)[i]? = firm[i]?
  | [], _, _, _, _, _, _ => by simp [crashS]
  | _ :: _, [], _, _, _, _, _ => by simp [crashS]
  | a :: xs, p :: ys, firm, k, pick, i, h => by
    simp only [crashS]
    rw [crashS_far xs ys _ (k + 1) pick i (fun x hx => h x (by simp [hx]))]
    split
    · rw [List.getElem?_set_ne (h a (by simp))]
    · rfl
/-- Each sector waits at most once, and was empty. -/
structure Once (S : St) : Prop where
  nodup : (S.ats.map Int.toNat).Nodup
  empty : ∀ a ∈ S.ats, S.firm[a.toNat]? = some zeroPage
theorem crash_once {S : St} (hG : Good S) (h : Once S) (pick : List Int) (i : Nat) :
    (crashOf S pick).newest[i]? = S.newest[i]? ∨ ((∃ a ∈ S.ats, a.toNat = i) ∧ (crashOf S pick).newest[i]? = some zeroPage) := by
  show (flushS (crashS 0 S.firm S.ats S.what pick) [] [])[i]? = _ ∨ _ ∧ (flushS (crashS 0 S.firm S.ats S.what pick) [] [])[i]? = _
  simp only [flushS]
  by_cases hi : ∃ a ∈ S.ats, a.toNat = i
  · rcases crashS_get S.ats S.what S.firm 0 pick i hG.same h.nodup with e | e
    · exact .inl e
    · obtain ⟨a, ha, rfl⟩ := hi
      exact .inr ⟨⟨a, ha, rfl⟩, by rw [e, h.empty a ha]⟩
  · left
    have hf : ∀ a ∈ S.ats, a.toNat ≠ i := fun a ha e => hi ⟨a, ha, e⟩
    rw [crashS_far _ _ _ _ _ _ hf]
    exact (flushS_far _ _ _ _ hf).symm
end Go.Proofs.YtjkkbceddbkejaaGreatDoor

/-
  A region that draws and whose last operations may turn what its loads read: the condition on worlds is asked behind each operation ahead of number z.
-/
namespace Go.Proofs.YtjkkbceddbkejaaGreatDoor
open Go

section
variable {P : Program} {ops : Array Oper} {Q : Exit → Act → World → Prop} {md : Region.Mode} {S : World → Prop} {z : Nat}

def upAny (P : Program) (md : Region.Mode) (ops : Array Oper) (Q : Exit → Act → World → Prop) (S : World → Prop) (z : Nat) : Nat → Array Bool → Act → World → Prop
  | 0, l, a, w => Region.ready md ops l = [] ∧ Q .normal a w
  | n + 1, l, a, w => (Region.ready md ops l = [] → Q .normal a w) ∧ ∀ k ∈ Region.ready md ops l,
      wpOp P ops Q k (fun b v => (z ≤ k ∨ S v) ∧ upAny P md ops Q S z n (l.setIfInBounds k true) b v) a w
/-- .. ahead of number z. -/
def upHead (P : Program) (md : Region.Mode) (ops : Array Oper) (Q : Exit → Act → World → Prop) (S : World → Prop) (z n : Nat) (l : Array Bool) (a : Act) (w : World) : Prop := HeadInv md ops z l → upAny P md ops Q S z n l a w

theorem any_of_up : ∀ (n : Nat) (l : Array Bool) (a : Act) (w : World), upAny P md ops Q S z n l a w → wpAny P md ops Q n l a w
  | 0, _, _, _, h => h
  | n + 1, _, _, _, h => ⟨h.1, fun k hk => wpOp_mono (fun b v hb => any_of_up n _ b v hb.2) (h.2 k hk)⟩
theorem wp_region_up (z : Nat) (S : World → Prop) {id : Nat} {a : Act} {w : World} (hm : P.follows .mixedOrders = true)
    (h : upHead P .any ops Q S z ops.size (Array.replicate ops.size false) a { w with drawn := w.drawn + 1 }) : (Code.region id ops true).wp P Q a w :=
  wp_region_any hm (any_of_up _ _ _ _ (h ⟨by simp, fun j _ _ hl => (by rw [getD_replicate_false] at hl; cases hl), fun t _ ht => by simp [ht]⟩))

theorem up_first {i : Nat} {oi : Oper} {x : Value} (hi : ops[i]? = some oi) (hsel : ∀ (j : Nat) (o : Oper) cs b, ops[j]? = some o → o.op ≠ .select cs b) (hQ : ∀ c a w, Q (.panic c) (a.put oi.dst x) w → Q (.panic c) a w)
    (hs : Region.sinkB md ops z = true) (hc : Region.chainB md ops z = true) (hz : z < ops.size) (hiz : i < z) :
    ∀ (n : Nat) (l : Array Bool) (a : Act) (w : World), HeadInv md ops z l → (∀ j oj, ops[j]? = some oj → j ≠ i → l.getD j true = false → (∀ e ∈ oj.after, Region.binds md e = true → e.on ≠ i) → oi.apart ops oj = true) →
      i ∈ Region.ready md ops l → YieldsIf P ops S oi x a → S w → upAny P md ops Q S z n (l.setIfInBounds i true) (a.put oi.dst x) w → upAny P md ops Q S z (n + 1) l a w
  | 0, l, a, w => fun _ _ hr hy hS H => ⟨(fun h => by rw [h] at hr; cases hr), fun j hj => by
      by_cases e : j = i
      · rw [e]; exact hy.wpOp hi hS ⟨.inr hS, H⟩
      · have := ready_mono hj e
        rw [H.1] at this; cases this⟩
  | n + 1, l, a, w => fun hV hfree hr hy hS H => ⟨(fun h => by rw [h] at hr; cases hr), fun j hj => by
      by_cases e : j = i
      · rw [e]; exact hy.wpOp hi hS ⟨.inr hS, H⟩
      · have hiu := (mem_ready.1 hr).1
        have hjz : j < z := Nat.lt_of_not_le fun hge => tail_waits hs hc hz hV _ i rfl hiz hiu j hge hj
        have hstep := H.2 j (ready_mono hj e)
        obtain ⟨hun, oj, hoj, hall⟩ := mem_ready.1 hj
        have hno : ∀ d ∈ oj.after, Region.binds md d = true → d.on ≠ i := fun d hd hb hq => by
          have u1 := hall d hd hb
          rw [hq, getD_both hiu] at u1
          cases u1
        refine wpOp_mono (fun b v hb => ?_) (wpOp_putIf hoj (hfree j oj hoj e hun hno) (fun cs b => hsel i oi cs b hi) (fun cs b => hsel j oj cs b hoj) hQ hy hstep)
        have hSv : S v := hb.2.1.resolve_left (Nat.not_le_of_lt hjz)
        exact ⟨.inr hSv, up_first hi hsel hQ hs hc hz hiz n _ b v (hV.set hj hjz) (fun k ok hk hki hku hkn => hfree k ok hk hki (by
            by_cases q : j = k
            · rw [← q]; exact hun
            · rwa [getD_set_ne true q] at hku) hkn) (ready_mono hr (Ne.symm e)) hb.1 hSv (by rw [Array.setIfInBounds_comm _ _ e]; exact hb.2.2)⟩⟩

theorem up_take {i : Nat} {oi : Oper} {v : Value} {fuel : Nat} {listed : Array Bool} {a : Act} {w : World} (hi : ops[i]? = some oi)
    (hs : Region.noSelect ops = true) (hf : (Region.free md ops listed i && (Region.ready md ops listed).contains i && Region.sinkB md ops z && Region.chainB md ops z && decide (z < ops.size) && decide (i < z)) = true)
    (hQ : ∀ c a w, Q (.panic c) (a.put oi.dst v) w → Q (.panic c) a w) (hy : YieldsIf P ops S oi v a) (hS : S w)
    (h : upHead P md ops Q S z fuel (listed.setIfInBounds i true) (a.put oi.dst v) w) : upHead P md ops Q S z (fuel + 1) listed a w := fun hV => by
  simp only [Bool.and_eq_true, decide_eq_true_eq] at hf
  obtain ⟨⟨⟨⟨⟨f1, f2⟩, f3⟩, f4⟩, f5⟩, f6⟩ := hf
  have hr : i ∈ Region.ready md ops listed := by simpa using f2
  exact up_first hi (Region.noSelect_spec hs) hQ f3 f4 f5 f6 fuel listed a w hV (Region.free_spec hi f1) hr hy hS (h (hV.set hr f6))
/-- One operation comes up, and no other. -/
theorem up_one {fuel : Nat} {listed : Array Bool} {a : Act} {w : World} (i : Nat) (o : Oper) (hi : ops[i]? = some o) (hr : Region.ready md ops listed = [i]) (hiz : i < z)
    (hw : Region.wanted o (yielded ops a.tmps) = true) (h : ∀ K : Act → World → Prop, (∀ a' w', S w' → upHead P md ops Q S z fuel (listed.setIfInBounds i true) a' w' → K a' w') → Oper.wp P o a w K Q) : upHead P md ops Q S z (fuel + 1) listed a w := fun hV =>
  ⟨(fun h0 => by rw [hr] at h0; cases h0), fun j hj => by
    rw [hr] at hj
    obtain rfl : j = i := by simpa using hj
    unfold wpOp
    simp only [hi, hw, if_true]
    exact .inl (h _ fun _ _ h1 h2 => ⟨.inr h1, h2 (hV.set (by rw [hr]; simp) hiz)⟩)⟩
theorem wp_alloc_arr {P : Program} {o : Oper} {a : Act} {w : World} {K : Act → World → Prop} {Q : Exit → Act → World → Prop} (ty : TypeId) (ho : o.op = .alloc ty) (cells : Array Value)
    (hal : ∀ w : World, (Instr.alloc ty true (.tuple #[])).run P w = .ok (.pointer (some ⟨w.heap.size, 0, none⟩)) (w.alloc (.cells cells ty)))
    (h : K (a.put o.dst (.pointer (some ⟨w.heap.size, 0, none⟩))) (w.alloc (.cells cells ty))) : o.wp P a w K Q := by
  unfold Oper.wp execOp
  simp only [ho, Sem.run_bind, hal w, Result.andThen_ok, Sem.run_pure]
  exact h
/-- Two operations may come up. -/
theorem up_two {fuel : Nat} {listed : Array Bool} {a : Act} {w : World} (i j : Nat) (oi oj : Oper) (hi : ops[i]? = some oi) (hj : ops[j]? = some oj) (hr : Region.ready md ops listed = [i, j]) (hiz : i < z) (hjz : j < z)
    (hwi : Region.wanted oi (yielded ops a.tmps) = true) (hwj : Region.wanted oj (yielded ops a.tmps) = true)
    (h1 : ∀ K : Act → World → Prop, (∀ a' w', S w' → upHead P md ops Q S z fuel (listed.setIfInBounds i true) a' w' → K a' w') → Oper.wp P oi a w K Q)
    (h2 : ∀ K : Act → World → Prop, (∀ a' w', S w' → upHead P md ops Q S z fuel (listed.setIfInBounds j true) a' w' → K a' w') → Oper.wp P oj a w K Q) : upHead P md ops Q S z (fuel + 1) listed a w := fun hV =>
  ⟨(fun h0 => by rw [hr] at h0; cases h0), fun k hk => by
    have hk' := hk
    rw [hr] at hk'
    rcases List.mem_cons.1 hk' with rfl | hk'
    · unfold wpOp
      simp only [hi, hwi, if_true]
      exact .inl (h1 _ fun _ _ h1 h2 => ⟨.inr h1, h2 (hV.set hk hiz)⟩)
    · obtain rfl : k = j := by simpa using hk'
      unfold wpOp
      simp only [hj, hwj, if_true]
      exact .inl (h2 _ fun _ _ h1 h2 => ⟨.inr h1, h2 (hV.set hk hjz)⟩)⟩
/-- .. from number z on. -/
theorem up_last {fuel : Nat} {listed : Array Bool} {a : Act} {w : World} (i : Nat) (o : Oper) (hi : ops[i]? = some o) (hr : Region.ready md ops listed = [i]) (hiz : z ≤ i)
    (hw : Region.wanted o (yielded ops a.tmps) = true) (h : ∀ K : Act → World → Prop, (∀ a' w', upAny P md ops Q S z fuel (listed.setIfInBounds i true) a' w' → K a' w') → Oper.wp P o a w K Q) : upAny P md ops Q S z (fuel + 1) listed a w :=
  ⟨(fun h0 => by rw [hr] at h0; cases h0), fun j hj => by
    rw [hr] at hj
    obtain rfl : j = i := by simpa using hj
    unfold wpOp
    simp only [hi, hw, if_true]
    exact .inl (h _ fun _ _ h2 => ⟨.inl hiz, h2⟩)⟩
theorem up_tail {fuel : Nat} {listed : Array Bool} {a : Act} {w : World} (h : upAny P md ops Q S z fuel listed a w) : upHead P md ops Q S z fuel listed a w := fun _ => h
theorem up_done {listed : Array Bool} {a : Act} {w : World} (hr : Region.ready md ops listed = []) (h : Q .normal a w) : ∀ fuel, upAny P md ops Q S z fuel listed a w
  | 0 => ⟨hr, h⟩
  | _ + 1 => ⟨fun _ => h, by rw [hr]; simp⟩
end
end Go.Proofs.YtjkkbceddbkejaaGreatDoor
