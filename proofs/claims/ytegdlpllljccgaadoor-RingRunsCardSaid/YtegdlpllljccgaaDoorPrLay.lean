/-
  A record's pages as they are filled: plain lists.
-/
import Derived.Test.YtegdlpllljccgaaDoorPrChgs
set_option linter.unusedSimpArgs false
set_option linter.unusedVariables false
namespace Go.Proofs.YtegdlpllljccgaaDoor
open Go.RowKit Sh

def spliceB (p : List UInt8) (r : Nat) (bs : List UInt8) : List UInt8 := p.take r ++ bs ++ p.drop (r + bs.length)
theorem spliceB_length (p : List UInt8) (r : Nat) (bs : List UInt8) (h : r + bs.length ≤ p.length) : (spliceB p r bs).length = p.length := by
  simp only [spliceB, List.length_append, List.length_take, List.length_drop]; omega
theorem splice_mapB (p : List UInt8) (r : Nat) (bs : List UInt8) : splice (p.map cu8) r (bs.map cu8) = (spliceB p r bs).map cu8 := by
  simp [splice, spliceB]
theorem spliceB_append (p q : List UInt8) (r : Nat) (bs : List UInt8) (h : r + bs.length ≤ p.length) : spliceB (p ++ q) r bs = spliceB p r bs ++ q := by
  simp only [spliceB]
  rw [List.take_append_of_le_length (by omega), List.drop_append_of_le_length h]
  simp only [List.append_assoc]
theorem spliceB_skip (p q : List UInt8) (r : Nat) (bs : List UInt8) : spliceB (p ++ q) (p.length + r) bs = p ++ spliceB q r bs := by
  simp only [spliceB]
  rw [List.take_length_add_append, Nat.add_assoc, List.drop_length_add_append]
  simp only [List.append_assoc]
theorem splice_in : ∀ {pgs : List (List UInt8)} (_ : ∀ p ∈ pgs, p.length = 64) (k : Nat) (_ : k < pgs.length) (r : Nat) (bs : List UInt8) (_ : r + bs.length ≤ 64), spliceB pgs.flatten (k * 64 + r) bs = (pgs.set k (spliceB (pgs.getD k []) r bs)).flatten
  | [], _, k, hk, _, _, _ => by simp at hk
  | p :: ps, hP, 0, _, r, bs, hr => by
    rw [List.flatten_cons, Nat.zero_mul, Nat.zero_add, spliceB_append _ _ _ _ (by rw [hP p (by simp)]; exact hr)]
    simp
  | p :: ps, hP, k + 1, hk, r, bs, hr => by
    have ih := splice_in (pgs := ps) (fun q hq => hP q (by simp [hq])) k (by simpa using hk) r bs hr
    have hp := hP p (by simp)
    rw [List.flatten_cons, show (k + 1) * 64 + r = p.length + (k * 64 + r) from by rw [hp]; omega, spliceB_skip, ih]
    simp
def whatD (l : List Chg) (c : Nat) : List UInt8 := (l.map (·.what)).getD c []
def z64 : List UInt8 := List.replicate 64 0
theorem z64_len : z64.length = 64 := List.length_replicate
/-- A record's pages, of which i changes are filled in, and no digest. -/
def recK (m : Mk) (l : List Chg) (i : Nat) : List (List UInt8) :=
  pad64 (head10 m.num l.length) :: ((List.range ((l.length + 15) / 16)).map (numsPage (l.take i)) ++ midL (whatD l) z64 l.length i)
theorem recK_length (m : Mk) (l : List Chg) (i : Nat) : (recK m l i).length = takes l.length := by
  simp only [recK, List.length_cons, List.length_append, List.length_map, List.length_range, midL_length, takes]; omega
theorem pad64_len {p : List UInt8} (h : p.length ≤ 64) : (pad64 p).length = 64 := by simp [pad64]; omega
theorem whatD_len {l : List Chg} (h : ∀ c ∈ l, c.what.length = 64) {c : Nat} (hc : c < l.length) : (whatD l c).length = 64 := by
  simp [whatD, hc]; exact h _ (List.getElem_mem hc)
theorem recK_pages {m : Mk} {l : List Chg} (h : ∀ c ∈ l, c.what.length = 64) (i : Nat) : ∀ p ∈ recK m l i, p.length = 64 := fun p hp => by
  rcases List.mem_cons.1 hp with rfl | hp
  · exact pad64_len (by rw [head10_length]; omega)
  · rcases List.mem_append.1 hp with hp | hp
    · obtain ⟨q, _, rfl⟩ := List.mem_map.1 hp; exact numsPage_length _ _
    · obtain ⟨c, hc, rfl⟩ := List.mem_map.1 hp
      split
      · exact whatD_len h (List.mem_range.1 hc)
      · exact z64_len
theorem recK_zero (m : Mk) (l : List Chg) : recK m l 0 = pad64 (head10 m.num l.length) :: List.replicate (takes l.length - 1) z64 := by
  unfold recK
  rw [midL_zero]
  have e : (List.range ((l.length + 15) / 16)).map (numsPage (l.take 0)) = List.replicate ((l.length + 15) / 16) z64 := by
    apply List.ext_getElem (by simp)
    intro q h1 h2
    rw [List.getElem_map, List.getElem_replicate]
    simp [numsPage, pad64, z64]
  rw [e, List.replicate_append_replicate]
  congr 2
  unfold takes; omega
theorem recK_all (m : Mk) (l : List Chg) : recK m l l.length = pad64 (head10 m.num l.length) :: body l := by
  unfold recK body
  rw [midL_all, List.take_length]
  congr 2
  apply List.ext_getElem (by simp)
  intro c h1 h2
  simp [whatD]
  have : c < l.length := by simpa using h2
  simp [this]
theorem nums_step {l : List Chg} {i : Nat} (hi : i < l.length) : (List.range ((l.length + 15) / 16)).map (numsPage (l.take (i + 1))) =
    ((List.range ((l.length + 15) / 16)).map (numsPage (l.take i))).set (i / 16) (spliceB (numsPage (l.take i) (i / 16)) (4 * (i % 16)) (le4 (l[i]).at_)) := by
  apply List.ext_getElem (by simp)
  intro q h1 h2
  have hq : q < (l.length + 15) / 16 := by simpa using h1
  rw [List.getElem_set, List.getElem_map, List.getElem_map, List.getElem_range]
  have hsn : l.take (i + 1) = l.take i ++ [l[i]] := by rw [List.take_succ_eq_append_getElem hi]
  by_cases e : i / 16 = q
  · rw [if_pos e, ← e]
    have hd : (l.take (i + 1)).drop (16 * (i / 16)) = (l.take i).drop (16 * (i / 16)) ++ [l[i]] := by
      rw [hsn, List.drop_append_of_le_length (by rw [List.length_take]; omega)]
    have hdl : ((l.take i).drop (16 * (i / 16))).length = i % 16 := by rw [List.length_drop, List.length_take]; omega
    have hx1 : ((l.take (i + 1)).drop (16 * (i / 16))).take 16 = (l.take i).drop (16 * (i / 16)) ++ [l[i]] := by
      rw [hd, List.take_of_length_le (by rw [List.length_append, hdl, List.length_singleton]; omega)]
    have hx2 : ((l.take i).drop (16 * (i / 16))).take 16 = (l.take i).drop (16 * (i / 16)) := List.take_of_length_le (by rw [hdl]; omega)
    unfold numsPage
    rw [hx1, hx2, List.flatMap_append]
    have hA := flatMap_le4_length ((l.take i).drop (16 * (i / 16)))
    rw [hdl] at hA
    generalize ((l.take i).drop (16 * (i / 16))).flatMap (fun c => le4 c.at_) = A at hA ⊢
    have h4 : (le4 (l[i]).at_).length = 4 := by simp [le4]
    simp only [List.flatMap_cons, List.flatMap_nil, List.append_nil]
    generalize le4 (l[i]).at_ = B at h4 ⊢
    unfold pad64 spliceB
    rw [← hA, List.take_left' rfl, h4, List.drop_length_add_append, List.drop_replicate, List.length_append, h4]
    congr 2
    try omega
  · rw [if_neg e]
    have hx : ((l.take (i + 1)).drop (16 * q)).take 16 = ((l.take i).drop (16 * q)).take 16 := by
      by_cases hlt : q < i / 16
      · rw [hsn, List.drop_append_of_le_length (by rw [List.length_take]; omega), List.take_append_of_le_length (by rw [List.length_drop, List.length_take]; omega)]
      · rw [List.drop_of_length_le (by rw [List.length_take]; omega), List.drop_of_length_le (by rw [List.length_take]; omega)]
    unfold numsPage
    rw [hx]
/-- The number is put in. -/
def recN (m : Mk) (l : List Chg) (i : Nat) : List (List UInt8) :=
  pad64 (head10 m.num l.length) :: ((List.range ((l.length + 15) / 16)).map (numsPage (l.take (i + 1))) ++ midL (whatD l) z64 l.length i)
theorem recK_num {m : Mk} {l : List Chg} {i : Nat} (hi : i < l.length) (h : ∀ c ∈ l, c.what.length = 64) :
    spliceB (recK m l i).flatten ((1 + i / 16) * 64 + 4 * (i % 16)) (leN 4 (l[i]).at_) = (recN m l i).flatten := by
  rw [splice_in (recK_pages h i) (1 + i / 16) (by rw [recK_length]; unfold takes; omega) _ _ (by rw [leN_length]; omega), ← le4_eq]
  congr 1
  unfold recK recN
  have hq : i / 16 < (List.map (numsPage (l.take i)) (List.range ((l.length + 15) / 16))).length := by simp; omega
  rw [nums_step hi, Nat.add_comm 1, List.set_cons_succ, List.set_append_left _ _ hq]
  congr 3
  have hq2 : i / 16 < (l.length + 15) / 16 := by omega
  rw [List.getD_cons_succ, List.getD_eq_getElem?_getD, List.getElem?_append_left hq]
  simp [hq2]
theorem recN_pages {m : Mk} {l : List Chg} (h : ∀ c ∈ l, c.what.length = 64) (i : Nat) : ∀ p ∈ recN m l i, p.length = 64 := fun p hp => by
  rcases List.mem_cons.1 hp with rfl | hp
  · exact pad64_len (by rw [head10_length]; omega)
  · rcases List.mem_append.1 hp with hp | hp
    · obtain ⟨q, _, rfl⟩ := List.mem_map.1 hp; exact numsPage_length _ _
    · obtain ⟨c, hc, rfl⟩ := List.mem_map.1 hp
      split
      · exact whatD_len h (List.mem_range.1 hc)
      · exact z64_len
theorem recN_what {m : Mk} {l : List Chg} {i : Nat} : (recN m l i).set (1 + (l.length + 15) / 16 + i) (whatD l i) = recK m l (i + 1) := by
  unfold recN recK
  rw [show 1 + (l.length + 15) / 16 + i = ((l.length + 15) / 16 + i) + 1 from by omega, List.set_cons_succ, List.set_append_right _ _ (by simp)]
  simp only [List.length_map, List.length_range, Nat.add_sub_cancel_left]
  rw [midL_set]
/-- The digest is put in. -/
theorem rec_digest {m : Mk} {l : List Chg} (h : ∀ c ∈ l, c.what.length = 64) : spliceB (recK m l l.length).flatten 10 (dig (textOf m l)) = (sectors m l).flatten := by
  have := splice_in (recK_pages (m := m) h l.length) 0 (by rw [recK_length]; exact takes_pos _) 10 (dig (textOf m l)) (by rw [dig_len]; omega)
  rw [Nat.zero_mul, Nat.zero_add] at this
  rw [this, recK_all, List.set_cons_zero]
  unfold sectors firstOf
  congr 2
end Go.Proofs.YtegdlpllljccgaaDoor
