/-
  What is encoded is read as it was: plain lists.
-/
import Derived.Test.YtakejggofghblaaPdEnc
set_option linter.unusedSimpArgs false
set_option linter.unusedVariables false
namespace Go.Proofs.Ytakejggofghblaa.Pd
open Sh Cr

theorem seg_mid {α : Type} {A X C : List α} {i n : Nat} (hi : A.length = i) (hn : X.length = n) : ((A ++ (X ++ C)).drop i).take n = X := by
  subst hi hn
  rw [List.drop_left', List.take_left']
  · rfl
  · rfl
def p5 (p : P) : List UInt8 := [UInt8.ofNat (p.op.toNat + if p.imm then 64 else 0), p.fl, p.s0, p.s1, UInt8.ofNat (p.ahs.length / 4)]
theorem hdr_eq (p : P) (T : List UInt8) : hdr p ++ T = p5 p ++ (toBe 3 p.data.length ++ (toBe 8 p.lun ++ (toBe 4 p.tag ++ (toBe 4 (p.w 0) ++ (toBe 4 (p.w 1) ++ (toBe 4 (p.w 2) ++ (toBe 4 (p.w 3) ++ (toBe 4 (p.w 4) ++ (toBe 4 (p.w 5) ++ (toBe 4 (p.w 6) ++ T)))))))))) := by
  simp only [hdr, p5, List.append_assoc]
section
variable (p : P) (T : List UInt8)
theorem rd_n : ((hdr p ++ T).drop 5).take 3 = toBe 3 p.data.length := by rw [hdr_eq]; exact seg_mid rfl (toBe_length _ _)
theorem rd_lun : ((hdr p ++ T).drop 8).take 8 = toBe 8 p.lun := by
  rw [hdr_eq, ← List.append_assoc]; exact seg_mid (by simp [p5, toBe_length]) (toBe_length _ _)
theorem rd_tag : ((hdr p ++ T).drop 16).take 4 = toBe 4 p.tag := by
  rw [hdr_eq, ← List.append_assoc, ← List.append_assoc]; exact seg_mid (by simp [p5, toBe_length]) (toBe_length _ _)
theorem rd_w (i : Nat) (h : i < 7) : ((hdr p ++ T).drop (20 + 4 * i)).take 4 = toBe 4 (p.w i) := by
  rw [hdr_eq]
  rcases (by omega : i = 0 ∨ i = 1 ∨ i = 2 ∨ i = 3 ∨ i = 4 ∨ i = 5 ∨ i = 6) with rfl | rfl | rfl | rfl | rfl | rfl | rfl
  · iterate 3 rw [← List.append_assoc]
    exact seg_mid (by simp [p5, toBe_length]) (toBe_length _ _)
  · iterate 4 rw [← List.append_assoc]
    exact seg_mid (by simp [p5, toBe_length]) (toBe_length _ _)
  · iterate 5 rw [← List.append_assoc]
    exact seg_mid (by simp [p5, toBe_length]) (toBe_length _ _)
  · iterate 6 rw [← List.append_assoc]
    exact seg_mid (by simp [p5, toBe_length]) (toBe_length _ _)
  · iterate 7 rw [← List.append_assoc]
    exact seg_mid (by simp [p5, toBe_length]) (toBe_length _ _)
  · iterate 8 rw [← List.append_assoc]
    exact seg_mid (by simp [p5, toBe_length]) (toBe_length _ _)
  · iterate 9 rw [← List.append_assoc]
    exact seg_mid (by simp [p5, toBe_length]) (toBe_length _ _)
theorem rd_0 : at8 (hdr p ++ T) 0 = UInt8.ofNat (p.op.toNat + if p.imm then 64 else 0) := rfl
theorem rd_1 : at8 (hdr p ++ T) 1 = p.fl := rfl
theorem rd_2 : at8 (hdr p ++ T) 2 = p.s0 := rfl
theorem rd_3 : at8 (hdr p ++ T) 3 = p.s1 := rfl
theorem rd_4 : at8 (hdr p ++ T) 4 = UInt8.ofNat (p.ahs.length / 4) := rfl
variable {p T}
theorem rd_nOf (hm : mayB p = true) : nOf (hdr p ++ T) = p.data.length := by
  have h := (mayB_iff p).1 hm
  unfold nOf
  rw [rd_n, beL_toBe _ _ (by have : (256 : Nat) ^ 3 = 16777216 := by decide
                             omega)]
theorem rd_ahsE (hm : mayB p = true) : ahsE (hdr p ++ T) = 48 + p.ahs.length := by
  have h := (mayB_iff p).1 hm
  unfold ahsE at0
  rw [rd_4, UInt8.toNat_ofNat']; omega
theorem rd_op (hm : mayB p = true) : at0 (hdr p ++ T) 0 = p.op.toNat + if p.imm then 64 else 0 := by
  have h := (mayB_iff p).1 hm
  unfold at0
  rw [rd_0, UInt8.toNat_ofNat']
  cases p.imm <;> simp <;> omega
theorem rd_sound (hm : mayB p = true) : soundB (hdr p ++ T) = true := by
  have h := (mayB_iff p).1 hm
  have h4 : at0 (hdr p ++ T) 4 ≤ 8 := by unfold at0; rw [rd_4, UInt8.toNat_ofNat']; omega
  have h0 : at0 (hdr p ++ T) 0 < 128 := by rw [rd_op hm]; cases p.imm <;> simp <;> omega
  unfold soundB
  rw [rd_nOf hm, decide_eq_true h0, decide_eq_true h4, decide_eq_true h.2.2.2.2]; rfl
theorem rd_fields (hm : mayB p = true) (hk : p.Ok) : fieldsB (hdr p ++ T) = { p with ahs := [], data := [] } := by
  have h := (mayB_iff p).1 hm
  have e1 : ((at0 (hdr p ++ T) 0 % 64 : Nat) : Int) = p.op := by rw [rd_op hm]; cases p.imm <;> simp <;> omega
  have e2 : decide (64 ≤ at0 (hdr p ++ T) 0 % 128) = p.imm := by rw [rd_op hm]; cases p.imm <;> simp <;> omega
  have e3 : beL (((hdr p ++ T).drop 8).take 8) = p.lun := by rw [rd_lun, beL_toBe _ _ (by have := hk.hl; exact this)]
  have e4 : beL (((hdr p ++ T).drop 16).take 4) = p.tag := by rw [rd_tag, beL_toBe _ _ (by have := hk.ht; exact this)]
  have e5 : ((List.range 7).map fun i => beL (((hdr p ++ T).drop (20 + 4 * i)).take 4)) = p.ws := by
    apply List.ext_getElem
    · simp [hk.hn]
    · intro i h1 h2
      have hi : i < 7 := by simpa using h1
      rw [List.getElem_map, List.getElem_range, rd_w _ _ i hi, beL_toBe _ _ (by have := hk.hw i; exact this)]
      unfold P.w
      rw [List.getD_eq_getElem?_getD, List.getElem?_eq_getElem h2]; rfl
  unfold fieldsB
  rw [e1, e2, e3, e4, e5, rd_1, rd_2, rd_3]
end
theorem closed_length (d : Bool) (b : List UInt8) : (closed d b).length = b.length + if d then 4 else 0 := by
  unfold closed; cases d <;> simp [le4]
theorem headB_length (p : P) (h : Bool) : (headB p h).length = 48 + p.ahs.length + if h then 4 else 0 := by
  unfold headB; rw [closed_length, List.length_append, hdr_length]
theorem bodyB_length (p : P) (d : Bool) : (bodyB p d).length = p.data.length + padN p.data.length + if d && decide (0 < p.data.length) then 4 else 0 := by
  unfold bodyB; rw [closed_length, List.length_append, List.length_replicate]
theorem enc_eq {p : P} (hm : mayB p = true) (h d : Bool) : encB p h d = headB p h ++ bodyB p d := by unfold encB; rw [hm]; rfl
theorem head_split (p : P) (h : Bool) (T : List UInt8) : ∃ S : List UInt8, headB p h ++ T = hdr p ++ (p.ahs ++ S) := by
  unfold headB closed
  cases h
  · exact ⟨T, by simp⟩
  · exact ⟨le4 (Cr.sum (hdr p ++ p.ahs)) ++ T, by simp⟩
theorem fits_closed (b : List UInt8) : fitsB (closed true b) = true := by
  unfold closed
  rw [if_pos rfl, fitsB_append _ _ rfl]; simp
theorem first_back {p : P} (hm : mayB p = true) (hk : p.Ok) (h d : Bool) (R : List UInt8) : firstB (encB p h d ++ R) h d = (p, 1, (encB p h d).length) := by
  obtain ⟨S, hS⟩ := head_split p h (bodyB p d ++ R)
  have he : encB p h d ++ R = hdr p ++ (p.ahs ++ S) := by rw [enc_eq hm, List.append_assoc, hS]
  have he2 : encB p h d ++ R = headB p h ++ (bodyB p d ++ R) := by rw [enc_eq hm, List.append_assoc]
  have hl : (encB p h d).length = (headB p h).length + (bodyB p d).length := by rw [enc_eq hm, List.length_append]
  have hH := headB_length p h
  have hB := bodyB_length p d
  have eA : ahsE (encB p h d ++ R) = 48 + p.ahs.length := by rw [he]; exact rd_ahsE hm
  have eN : nOf (encB p h d ++ R) = p.data.length := by rw [he]; exact rd_nOf hm
  have eH : headE (encB p h d ++ R) h = (headB p h).length := by unfold headE; rw [eA, hH]
  have eS : sumd (encB p h d ++ R) d = (d && decide (0 < p.data.length)) := by unfold sumd; rw [eN]
  have eL : allE (encB p h d ++ R) h d = (encB p h d).length := by
    unfold allE padE; rw [eH, eN, eS, hl, hB]; omega
  have hlen : (encB p h d ++ R).length = (encB p h d).length + R.length := List.length_append
  have e6 : (encB p h d ++ R).take ((headB p h).length) = headB p h := by rw [he2]; exact List.take_left' rfl
  have e7 : ((encB p h d ++ R).drop (headB p h).length).take ((encB p h d).length - (headB p h).length) = bodyB p d := by
    rw [he2, hl, Nat.add_sub_cancel_left]; exact seg_mid rfl rfl
  unfold firstB
  rw [if_neg (by omega), if_neg (by rw [he, rd_sound hm]; simp), eH, if_neg (by omega), if_neg ?_, eL, if_neg (by omega), if_neg ?_, eA, eN]
  · have f1 : fieldsB (encB p h d ++ R) = { p with ahs := [], data := [] } := by rw [he]; exact rd_fields hm hk
    have f2 : ((encB p h d ++ R).drop 48).take (48 + p.ahs.length - 48) = p.ahs := by rw [he]; exact seg_mid (hdr_length p) (by omega)
    have f3 : ((encB p h d ++ R).drop (headB p h).length).take p.data.length = p.data := by
      rw [he2, List.drop_left' rfl]
      unfold bodyB closed
      split
      · rw [List.append_assoc, List.append_assoc]; exact List.take_left' rfl
      · rw [List.append_assoc]; exact List.take_left' rfl
    rw [f1, f2, f3]
  · rintro ⟨_, e2⟩
    rw [eS] at *
    rw [e7] at e2
    have e3 : bodyB p d = closed true (p.data ++ List.replicate (padN p.data.length) 0) := by
      unfold bodyB; congr 1
    rw [e3, fits_closed] at e2; cases e2
  · rintro ⟨e1, e2⟩
    subst e1
    rw [e6] at e2
    unfold headB at e2
    rw [fits_closed] at e2; cases e2
/-- Of less than a PDU's bytes nothing is read. -/
theorem first_part {p : P} (hm : mayB p = true) (h d : Bool) (k : Nat) (hk : k < (encB p h d).length) : firstB ((encB p h d).take k) h d = ({}, 0, 0) := by
  obtain ⟨S, hS⟩ := head_split p h (bodyB p d)
  have he : encB p h d = hdr p ++ (p.ahs ++ S) := by rw [enc_eq hm, hS]
  have he2 : encB p h d = headB p h ++ bodyB p d := enc_eq hm h d
  have hl : (encB p h d).length = (headB p h).length + (bodyB p d).length := by rw [he2, List.length_append]
  have hH := headB_length p h
  have hB := bodyB_length p d
  have hlen : ((encB p h d).take k).length = k := by rw [List.length_take]; omega
  by_cases h48 : k < 48
  · unfold firstB; rw [if_pos (by omega)]
  have hb : (encB p h d).take k = hdr p ++ (p.ahs ++ S).take (k - 48) := by
    rw [he, List.take_append, List.take_of_length_le (by rw [hdr_length]; omega), hdr_length]
  have eA : ahsE ((encB p h d).take k) = 48 + p.ahs.length := by rw [hb]; exact rd_ahsE hm
  have eN : nOf ((encB p h d).take k) = p.data.length := by rw [hb]; exact rd_nOf hm
  have eH : headE ((encB p h d).take k) h = (headB p h).length := by unfold headE; rw [eA, hH]
  have eS : sumd ((encB p h d).take k) d = (d && decide (0 < p.data.length)) := by unfold sumd; rw [eN]
  have eL : allE ((encB p h d).take k) h d = (encB p h d).length := by
    unfold allE padE; rw [eH, eN, eS, hl, hB]; omega
  unfold firstB
  rw [if_neg (by omega), if_neg (by rw [hb, rd_sound hm]; simp), eH]
  by_cases h2 : k < (headB p h).length
  · rw [if_pos (by omega)]
  have e6 : ((encB p h d).take k).take ((headB p h).length) = headB p h := by
    rw [List.take_take, Nat.min_eq_left (by omega), he2]; exact List.take_left' rfl
  rw [if_neg (by omega), if_neg ?_, eL, if_pos (by omega)]
  rintro ⟨e1, e2⟩
  subst e1
  rw [e6] at e2
  unfold headB at e2
  rw [fits_closed] at e2; cases e2
/-- .. by a reader. -/
theorem next_back {p : P} (hm : mayB p = true) (hk : p.Ok) (h d : Bool) (R : List UInt8) : nextB (encB p h d ++ R) false h d = ((p, 1), (R, false)) := by
  unfold nextB
  rw [first_back hm hk]
  simp
theorem next_part {p : P} (hm : mayB p = true) (h d : Bool) (k : Nat) (hk : k < (encB p h d).length) : nextB ((encB p h d).take k) false h d = (({}, 0), ((encB p h d).take k, false)) := by
  unfold nextB
  rw [first_part hm h d k hk]
  simp
theorem next_none (h d : Bool) : nextB [] false h d = (({}, 0), ([], false)) := by
  unfold nextB firstB; simp
theorem enc_length {p : P} (hm : mayB p = true) (h d : Bool) : (encB p h d).length = 48 + p.ahs.length + (if h then 4 else 0) + (p.data.length + padN p.data.length + if d && decide (0 < p.data.length) then 4 else 0) := by
  rw [enc_eq hm, List.length_append, headB_length, bodyB_length]
end Go.Proofs.Ytakejggofghblaa.Pd
