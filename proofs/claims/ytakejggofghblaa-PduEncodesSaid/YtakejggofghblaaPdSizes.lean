/-
  PduSizes, PduNone: the walks.
-/
import Derived.Test.YtakejggofghblaaPdStands
set_option linter.unusedSimpArgs false
set_option linter.unusedVariables false
namespace Go.Proofs.Ytakejggofghblaa
open Go.RowKit Sh Cr Pd

theorem PduV.le {W : World} {p : P} {cs : Array Value} (h : PduV W p cs) : p.ahs.length ≤ 9223372036854775807 ∧ p.data.length ≤ 9223372036854775807 := by
  obtain ⟨ap, ac, dp, dc, _, h2, h3⟩ := h
  have := h2.hroom; have := h2.hmax; have := h3.hroom; have := h3.hmax
  unfold maxLen at *
  omega
theorem short_v {w : World} {p : P} {cs : Array Value} (hk : p.Ok) (hv : PduV w p cs) : Calls Try.prog 10 #[.agg cs] w (SayPost (shortB p) w) := by
  have hl := hv.le
  obtain ⟨ap, ac, dp, dc, rfl, _⟩ := hv
  exact short_any p ap dp ac dc hl.1 hl.2 hk w
theorem may_v {w : World} {p : P} {cs : Array Value} (hk : p.Ok) (hv : PduV w p cs) : Calls Try.prog 13 #[.agg cs] w (SayPost (mayB p) w) := by
  have hl := hv.le
  obtain ⟨ap, ac, dp, dc, rfl, _⟩ := hv
  exact may_any p ap dp ac dc hl.1 hl.2 hk w
theorem enc_v {w : World} {p : P} {cs : Array Value} (hk : p.Ok) (hv : PduV w p cs) (h d : Bool) : Calls Try.prog 11 #[.agg cs, .bool h, .bool d] w (OwnP w (encB p h d)) :=
  enc_any p hk cs h d w hv hv.le.1 hv.le.2
def bN (b : Bool) (n : Nat) : Nat := if b = true then n else 0
theorem enc_size {p : P} (hm : mayB p = true) (h d : Bool) : (encB p h d).length = 48 + p.ahs.length + bN h 4 + if 0 < p.data.length then (p.data.length + 3) / 4 * 4 + bN d 4 else 0 := by
  rw [enc_length hm]
  unfold bN padN
  rcases Nat.eq_zero_or_pos p.data.length with h0 | h0
  · rw [h0]; simp
  · rw [if_pos h0, decide_eq_true h0, Bool.and_true]
    cases h <;> cases d <;> simp <;> omega
set_option maxRecDepth 100000 in
set_option maxHeartbeats 8000000 in
theorem pduSizes_any (p : P) (hk : p.Ok) (cs : Array Value) (h d : Bool) (w : World) (hv : PduV w p cs) :
    Calls Try.prog 7 #[.agg cs, .bool h, .bool d] w (TrueP w) := by
  have hz := hv.size
  have h1 := hv.one
  have hb0 : Below w.heap.size w (w.alloc (.cells cs 28)) := (Below.refl _ w).alloc (Nat.le_refl _) _
  have HV0 := Lib.hid (hv.below hb0)
  have HX0 : Hid ((w.alloc (.cells cs 28)).heap[w.heap.size]? = some (.cells cs 28 (0, 0))) := Lib.hid (heap_alloc_new w _)
  have HB0 := Lib.hid hb0
  clear hb0
  have HST := Lib.hid (stands_any (w.alloc (.cells cs 28)))
  go_enter Try.func7, Try.ntmps7
  go_upto_region 3 with (go_at_call 9; refine HST.out.mono ?_; rintro e w2 ⟨rfl, hb2⟩; have HB2 := Lib.hid hb2; clear hb2 HST)
  have HV2 := Lib.hid (HV0.out.below HB2.out)
  have HX2 := Lib.hid ((HB2.out.block _ (Array.getElem?_eq_some_iff.1 HX0.out).1).trans HX0.out)
  have HA2 := Lib.hid (addb HB0.out HB2.out)
  clear HV0 HX0 HB0 HB2
  have hg : w.heap.size < w2.heap.size := (Array.getElem?_eq_some_iff.1 HX2.out).1
  have HLD2 := Lib.hid (load_pdu HX2.out hz)
  have HSH := Lib.hid (short_v hk HV2.out)
  obtain ⟨s, hs⟩ : ∃ s, Hid (shortB p = s) := ⟨_, Lib.hid rfl⟩
  obtain ⟨m, hm⟩ : ∃ s, Hid (mayB p = s) := ⟨_, Lib.hid rfl⟩
  rw [hs.out] at HSH
  have HMY := Lib.hid (fun W (hW : Below w2.heap.size w2 W) => may_v hk (HV2.out.below hW))
  rw [hm.out] at HMY
  cases s
  · go_wp2_with (first
      | (refine wpList_val (by rfl) (exec_load _ _ 28 _ rfl w.heap.size 0 rfl cs HLD2.out) ?_; clear HLD2)
      | (go_at_call 10; refine HSH.out.mono ?_; rintro e w3 ⟨rfl, hb3⟩; have HB3 := Lib.hid hb3; clear hb3 HSH))
    go_ret
    exact ⟨rfl, addb HA2.out HB3.out⟩
  cases m
  · go_wp2_with (first
      | (refine wpList_val (by rfl) (exec_load _ _ 28 _ rfl w.heap.size 0 rfl cs HLD2.out) ?_; clear HLD2)
      | (refine wpList_val (by rfl) (exec_load _ _ 28 _ rfl w.heap.size 0 rfl cs HLD3.out) ?_; clear HLD3)
      | (go_at_call 10; refine HSH.out.mono ?_; rintro e w3 ⟨rfl, hb3⟩; have HB3 := Lib.hid hb3; have HLD3 := Lib.hid (load_pdu ((HB3.out.block _ hg).trans HX2.out) hz); have HMZ := Lib.hid (HMY.out _ hb3); clear hb3 HSH)
      | (go_at_call 13; refine HMZ.out.mono ?_; rintro e w4 ⟨rfl, hb4⟩; have HB4 := Lib.hid (addb HB3.out hb4); clear hb4 HMZ))
    go_ret
    exact ⟨rfl, addb HA2.out HB4.out⟩
  go_upto_region 5 with (first
    | (refine wpList_val (by rfl) (exec_load _ _ 28 _ rfl w.heap.size 0 rfl cs HLD2.out) ?_; clear HLD2)
    | (refine wpList_val (by rfl) (exec_load _ _ 28 _ rfl w.heap.size 0 rfl cs HLD3.out) ?_; clear HLD3)
    | (go_at_call 10; refine HSH.out.mono ?_; rintro e w3 ⟨rfl, hb3⟩; have HB3 := Lib.hid hb3; have HLD3 := Lib.hid (load_pdu ((HB3.out.block _ hg).trans HX2.out) hz); have HMZ := Lib.hid (HMY.out _ hb3); clear hb3 HSH)
    | (go_at_call 13; refine HMZ.out.mono ?_; rintro e w4 ⟨rfl, hb4⟩; have HB4 := Lib.hid (addb HB3.out hb4); clear hb4 HMZ))
  have HV4 := Lib.hid (HV2.out.below HB4.out)
  have HX4 := Lib.hid ((HB4.out.block _ hg).trans HX2.out)
  have HA4 := Lib.hid (addb HA2.out HB4.out)
  clear HV2 HX2 HA2 HB4 HB3 HMY
  have hN := Lib.hid (enc_size hm.out h d)
  obtain ⟨al, hal⟩ : ∃ n, Hid (p.ahs.length = n) := ⟨_, Lib.hid rfl⟩
  obtain ⟨dl, hdl⟩ : ∃ n, Hid (p.data.length = n) := ⟨_, Lib.hid rfl⟩
  obtain ⟨_, _, hal1, hal2, hdl1⟩ := (mayB_iff p).1 hm.out
  obtain ⟨ap, ac, dp, dc, hcs, _, _⟩ := HV4.out
  have c5 : w4.cell? ⟨w.heap.size, 5, none⟩ = some (.slice ap al ac) := by rw [cell_of_row _ _ _ _ _ _ HX4.out, hcs, ← hal.out]; rfl
  have c15 : w4.cell? ⟨w.heap.size, 15, none⟩ = some (.slice dp dl dc) := by rw [cell_of_row _ _ _ _ _ _ HX4.out, hcs, ← hdl.out]; rfl
  rw [hal.out, hdl.out] at hN
  rw [hal.out] at hal1 hal2
  rw [hdl.out] at hdl1
  clear hcs
  have HLD4 := Lib.hid (load_pdu HX4.out hz)
  have HEN := Lib.hid (enc_v hk HV4.out h d)
  go_upto_region 6 with (fail)
  obtain ⟨N, hNn⟩ : ∃ n, Hid ((encB p h d).length = n) := ⟨_, Lib.hid rfl⟩
  rw [hNn.out] at hN
  have hdec : Hid (N % 4 = 0) := Lib.hid (by rw [hN.out]; unfold bN; split <;> split <;> (try split) <;> omega)
  rcases Nat.eq_zero_or_pos dl with h0 | h0
  · subst h0
    rw [if_neg (by omega)] at hN
    cases h
    all_goals
      go_upto_region 14 with (first
        | (refine wpList_val (by rfl) (exec_load _ _ 28 _ rfl w.heap.size 0 rfl cs HLD4.out) ?_; clear HLD4)
        | (go_at_call 11; refine HEN.out.mono ?_; rintro e w5 ⟨v5, rfl, hO5⟩; obtain ⟨bp, cap, rfl, hB5⟩ := hO5.bytes; have HB5 := Lib.hid hO5.below; rw [hNn.out]; clear hO5 hB5 HEN))
      have hx := hN.out
      simp [bN] at hx
      first
        | rw [show (48 + (al : Int)) = (N : Int) by omega]
        | rw [show (48 + (al : Int) + 4) = (N : Int) by omega]
      clear hx
      have hd4 := hdec.out
      go_wp2
      go_ret
      exact ⟨by first | rfl | (simp; omega), addb HA4.out HB5.out⟩
  · rw [if_pos h0] at hN
    have hh0 : decide (0 < dl) = true := decide_eq_true h0
    cases h
    all_goals
      cases d
      all_goals
        go_upto_region 14 with (first
          | (refine wpList_val (by rfl) (exec_load _ _ 28 _ rfl w.heap.size 0 rfl cs HLD4.out) ?_; clear HLD4)
          | (go_at_call 11; refine HEN.out.mono ?_; rintro e w5 ⟨v5, rfl, hO5⟩; obtain ⟨bp, cap, rfl, hB5⟩ := hO5.bytes; have HB5 := Lib.hid hO5.below; rw [hNn.out]; clear hO5 hB5 HEN))
        have hx := hN.out
        simp [bN] at hx
        first
          | rw [show (48 + (al : Int) + ((dl : Int) + 3) / 4 * 4) = (N : Int) by omega]
          | rw [show (48 + (al : Int) + ((dl : Int) + 3) / 4 * 4 + 4) = (N : Int) by omega]
          | rw [show (48 + (al : Int) + 4 + ((dl : Int) + 3) / 4 * 4) = (N : Int) by omega]
          | rw [show (48 + (al : Int) + 4 + ((dl : Int) + 3) / 4 * 4 + 4) = (N : Int) by omega]
        clear hx
        have hd4 := hdec.out
        go_wp2
        go_ret
        exact ⟨by first | rfl | (simp; omega), addb HA4.out HB5.out⟩
end Go.Proofs.Ytakejggofghblaa
