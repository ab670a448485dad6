/-
  A record of which one byte was turned isn't found, or two unlike texts have one digest.
-/
import Derived.Test.YtegdlpllljccgaaDoorJRg
set_option linter.unusedSimpArgs false
set_option linter.unusedVariables false
namespace Go.Proofs.YtegdlpllljccgaaDoor
open Sh

theorem set_ne {p : List UInt8} {b : Nat} {x : UInt8} (hb : b < p.length) (hx : x ≠ at8 p b) : p.set b x ≠ p := fun e => by
  have h1 : (p.set b x)[b]? = some x := List.getElem?_set_self hb
  rw [e] at h1
  apply hx
  simp [at8, h1]
/-- One byte of a record that stands is turned: of its first page one of the first 42. -/
theorem turned_or_clash {pg pg' : Nat → List UInt8} {m : Mk} {l : List Chg} {free d b : Nat} {x : UInt8} (h : Stands pg m l) (hl : Fit l) (hp : ∀ i, (pg i).length = 64) (hp' : ∀ i, (pg' i).length = 64)
    (hd : d < takes l.length) (hb : b < 64) (h42 : d = 0 → b < 42) (hx : x ≠ at8 (pg (m.place + d)) b) (ht : pg' (m.place + d) = (pg (m.place + d)).set b x)
    (hr : ∀ e, e < takes l.length → e ≠ d → pg' (m.place + e) = pg (m.place + e)) (hh : holds pg' free m) :
    textOf m l ≠ rawText pg' m ∧ dig (textOf m l) = dig (rawText pg' m) := by
  have hne : pg' (m.place + d) ≠ pg (m.place + d) := by rw [ht]; exact set_ne (by rw [hp]; exact hb) hx
  have hp1 := takes_pos l.length
  by_cases hd0 : d = 0
  · subst hd0
    rw [Nat.add_zero] at *
    have hb42 := h42 rfl
    have hf := h.first
    have hrest : rest pg' m.place l.length = body l := by
      rw [← h.rest]
      apply List.map_congr_left
      intro i hi
      exact hr _ (by have := List.mem_range.1 hi; omega) (by omega)
    have hdig := hh.2
    have hbeg := hh.1.1
    by_cases hb10 : b < 10
    · have hdr : (pg' m.place).drop 10 = (pg m.place).drop 10 := by rw [ht, List.drop_set_of_lt hb10]
      have hdig' : dig (rawText pg' m) = dig (textOf m l) := by rw [hdig, hdr, hf, firstOf_dig]
      refine ⟨fun e => ?_, hdig'.symm⟩
      have htk : (pg' m.place).take 10 ≠ (pg m.place).take 10 := fun e => hne (by rw [← List.take_append_drop 10 (pg' m.place), e, hdr, List.take_append_drop])
      apply htk
      unfold rawText textOf at e
      have e2 := List.append_cancel_left e
      have e3 := (List.append_inj e2 (by rw [head10_length, List.length_take, hp']; rfl)).1
      rw [← e3, hf, firstOf_take]
    · exfalso
      have htk : (pg' m.place).take 10 = (pg m.place).take 10 := by rw [ht, List.take_set_of_le (by omega)]
      have hk : kOf pg' m = l.length := by
        rw [← kOf_first hf hl.le]
        unfold kOf
        rw [ht]
        simp only [at8, List.getD_eq_getElem?_getD]
        rw [List.getElem?_set_ne (by omega)]
      have hraw : rawText pg' m = textOf m l := by
        unfold rawText textOf
        rw [hk, hrest, htk, hf, firstOf_take]
      rw [hraw, ht, List.drop_set, if_neg hb10, List.take_set, ← firstOf_dig, ← hf] at hdig
      have hlen : (((pg m.place).drop 10).take 32).length = 32 := by simp [hp]
      refine set_ne (p := ((pg m.place).drop 10).take 32) (b := b - 10) (x := x) (by omega) (fun e => hx ?_) hdig.symm
      rw [e]
      simp only [at8, List.getD_eq_getElem?_getD]
      rw [List.getElem?_take_of_lt (by omega), List.getElem?_drop, show 10 + (b - 10) = b from by omega]
  · have hf : pg' m.place = firstOf m l := by
      have := hr 0 (by omega) (Ne.symm hd0)
      rw [Nat.add_zero] at this
      rw [this, h.first]
    rcases first_or_clash hf hl hp' hh with ⟨e, _⟩ | ⟨e, e2⟩
    · exfalso
      have hk := kOf_first hf hl.le
      unfold rawText textOf at e
      rw [hk, hf, firstOf_take] at e
      have e2 := List.append_cancel_left (List.append_cancel_left e)
      have e3 := flatten_pages _ _ (by simp [Proofs.YtegdlpllljccgaaDoor.rest, body_length]) (fun p hq => by obtain ⟨i, _, rfl⟩ := List.mem_map.1 hq; exact hp' _) (body_pages hl) e2
      rw [← h.rest] at e3
      apply hne
      have e4 := congrArg (fun q => q[d - 1]?) e3
      simp only [Proofs.YtegdlpllljccgaaDoor.rest, List.getElem?_map] at e4
      rw [List.getElem?_range (by omega)] at e4
      simp only [Option.map_some, Option.some.injEq, show 1 + (d - 1) = d from by omega] at e4
      exact e4
    · exact ⟨fun q => e q.symm, e2.symm⟩
end Go.Proofs.YtegdlpllljccgaaDoor
