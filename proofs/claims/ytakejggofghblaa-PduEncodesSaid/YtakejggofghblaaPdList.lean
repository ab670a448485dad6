/-
  PDUs in a row.
-/
import Derived.Test.YtakejggofghblaaPdNone
import Derived.Deep.MidRow
set_option linter.unusedSimpArgs false
set_option linter.unusedVariables false
namespace Go.Proofs.Ytakejggofghblaa
open Go.RowKit Sh Cr Pd

/-- PDUs, wherever they lie below block N. -/
def PdR (N : Nat) (w : World) (A : Option Addr) (l : List P) : Prop :=
  l = [] ∨ ∃ b o, A = some ⟨b, o, none⟩ ∧ b < N ∧ ∀ (j : Nat) (p : P), l[j]? = some p → ∃ pv : List Value, PduN N w p pv.toArray ∧ w.rangeAt b (o + j * 16) pv
theorem PdR.below {N : Nat} {w w' : World} {A : Option Addr} {l : List P} (h : PdR N w A l) (hb : Below N w w') : PdR N w' A l :=
  h.imp id (fun ⟨b, o, h1, h2, h3⟩ => ⟨b, o, h1, h2, fun j p hj => by
    obtain ⟨pv, k1, k2⟩ := h3 j p hj
    exact ⟨pv, k1.below hb, fun i v hv => (hb.cell (p := ⟨b, o + j * 16 + i, none⟩) h2).trans (k2 i v hv)⟩⟩)
/-- The i-th of them. -/
theorem PdR.at {N : Nat} {w : World} {A : Option Addr} {l : List P} (h : PdR N w A l) {i : Nat} (hi : i < l.length) :
    ∃ b o pv, A = some ⟨b, o, none⟩ ∧ b < N ∧ PduN N w l[i] pv.toArray ∧ w.rangeAt b (o + i * 16) pv := by
  rcases h with h | ⟨b, o, h1, h2, h3⟩
  · subst h; simp at hi
  · obtain ⟨pv, k1, k2⟩ := h3 i _ (List.getElem?_eq_getElem hi)
    exact ⟨b, o, pv, h1, h2, k1, k2⟩
/-- What they are encoded to, one behind the other. -/
def encs (l : List P) (h d : Bool) : List UInt8 := l.flatMap fun p => encB p h d
theorem encs_snoc (l : List P) (p : P) (h d : Bool) : encs (l ++ [p]) h d = encs l h d ++ encB p h d := by simp [encs]
theorem encs_nil (h d : Bool) : encs [] h d = [] := rfl
theorem encs_cons (p : P) (l : List P) (h d : Bool) : encs (p :: l) h d = encB p h d ++ encs l h d := rfl
theorem enc_few {p : P} (hm : mayB p = true) (h d : Bool) : 48 ≤ (encB p h d).length ∧ (encB p h d).length ≤ 400 := by
  have := enc_length hm h d
  obtain ⟨_, _, h1, h2, h3⟩ := (mayB_iff p).1 hm
  have hp := padN_lt p.data.length
  constructor
  · omega
  · rw [this]; split <;> split <;> omega
theorem encs_few {l : List P} (hm : ∀ p ∈ l, mayB p = true) (h d : Bool) : (encs l h d).length ≤ 400 * l.length := by
  induction l with
  | nil => simp [encs]
  | cons p l ih =>
    have h1 := (enc_few (hm p (by simp)) h d).2
    have h2 := ih (fun q hq => hm q (by simp [hq]))
    rw [encs_cons, List.length_append, List.length_cons]
    omega
theorem take_next {α : Type} (l : List α) (i : Nat) (hi : i < l.length) : l.take (i + 1) = l.take i ++ [l[i]] := by
  rw [List.take_add_one, List.getElem?_eq_getElem hi]; rfl
/-- Where the k-th begins. -/
def off (l : List P) (h d : Bool) (k : Nat) : Nat := (encs (l.take k) h d).length
theorem encs_split (l : List P) (h d : Bool) (k : Nat) (hk : k < l.length) : encs l h d = encs (l.take k) h d ++ (encB l[k] h d ++ encs (l.drop (k + 1)) h d) := by
  have e : l = l.take k ++ (l[k] :: l.drop (k + 1)) := by rw [← List.drop_eq_getElem_cons hk, List.take_append_drop]
  have e2 : encs (l.take k ++ (l[k] :: l.drop (k + 1))) h d = encs (l.take k) h d ++ (encB l[k] h d ++ encs (l.drop (k + 1)) h d) := by
    unfold encs; rw [List.flatMap_append, List.flatMap_cons]
  rw [← e2, ← e]
theorem off_next (l : List P) (h d : Bool) (k : Nat) (hk : k < l.length) : off l h d (k + 1) = off l h d k + (encB l[k] h d).length := by
  unfold off
  rw [take_next l k hk, encs_snoc, List.length_append]
theorem off_all (l : List P) (h d : Bool) : off l h d l.length = (encs l h d).length := by unfold off; rw [List.take_length]
theorem off_le (l : List P) (h d : Bool) (k : Nat) (hk : k < l.length) : off l h d k + (encB l[k] h d).length ≤ (encs l h d).length := by
  rw [encs_split l h d k hk]; unfold off; simp only [List.length_append]; omega
/-- The byte at the k-th's r-th place. -/
theorem encs_byte (l : List P) (h d : Bool) (k r : Nat) (hk : k < l.length) (hr : r < (encB l[k] h d).length) :
    (((encs l h d).drop (off l h d k + r)).take 1) = ((encB l[k] h d).drop r).take 1 := by
  rw [encs_split l h d k hk]
  unfold off
  rw [List.drop_append, List.drop_eq_nil_of_le (by omega), List.nil_append, show (encs (l.take k) h d).length + r - (encs (l.take k) h d).length = r by omega, List.drop_append_of_le_length (by omega), List.take_append_of_le_length (by rw [List.length_drop]; omega)]
theorem take_byte (E : List UInt8) (r : Nat) (hr : r < E.length) : E.take r ++ (E.drop r).take 1 = E.take (r + 1) := by
  rw [take_next E r hr]
  congr 1
  rw [List.drop_eq_getElem_cons hr]; rfl
end Go.Proofs.Ytakejggofghblaa
