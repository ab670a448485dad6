/-
  The document's answer: Holds, Bars.
-/
import Derived.Test.YtkpogmigfjmacaaPeRSound
set_option linter.unusedSimpArgs false
set_option linter.unusedVariables false
namespace Go.Proofs.Ytkpogmigfjmacaa
open Go.RowKit

section
variable (g h t : Int) (p : Bool) (A : Option Addr) (len cap : Nat) (l : List (Int × Int)) (w : World)
theorem keysP (hS : SlR w A len cap l) (hm : len ≤ 6) (hr : riseB l (-1) = true) {pv : Array Value} (hpv : (arrV (keyL l)).toArray = pv) :
    Calls Try.prog 28 #[.agg #[.int .u32 g, .slice A len cap, .int .i64 h, .int .i64 t, .bool p]] w (fun e w' => e = .returned (.agg pv) ∧ Below w.heap.size w w') := by
  rw [← hpv]; exact keys_any g h t p A len cap l w hS hm hr
set_option maxRecDepth 100000 in
set_option maxHeartbeats 4000000 in
theorem rholds_any (hS : SlR w A len cap l) (hm : len ≤ 6) (hr : riseB l (-1) = true) (n : Int) : Calls Try.prog 19 #[.agg #[.int .u32 g, .slice A len cap, .int .i64 h, .int .i64 t, .bool p], .int .i64 n] w (Ret (.bool (holdsB l h t n)) w) := by
  obtain ⟨pv, Hpv⟩ : ∃ pv, Hid ((arrV (keyL l)).toArray = pv) := ⟨_, Lib.hid rfl⟩
  have Kk : Hid (∀ W, Below w.heap.size w W → Calls Try.prog 28 #[.agg #[.int .u32 g, .slice A len cap, .int .i64 h, .int .i64 t, .bool p]] W (fun e w' => e = .returned (.agg pv) ∧ Below W.heap.size W w')) :=
    Lib.hid fun W hb => keysP g h t p A len cap l W (hS.below hb) hm hr Hpv.out
  have Hr := Lib.hid hr
  clear hS hr
  have hx0 := heap_alloc_new w (.cells #[.int .u32 g, .slice A len cap, .int .i64 h, .int .i64 t, .bool p] 25)
  have HX0 := Lib.hid hx0
  clear hx0
  by_cases n1 : n < 0
  · have n1d : decide (n < 0) = true := by simpa using n1
    go_enter Try.func19, Try.ntmps19
    go_wp2
    go_ret
    exact ⟨retB (by simp [holdsB, regB, keyL_rise Hr.out (show n ≤ -1 by omega)]), bel1 w _⟩
  have n1d : decide (n < 0) = false := by simpa using n1
  by_cases n2 : 7 < n
  · have n2d : decide (7 < n) = true := by simpa using n2
    go_enter Try.func19, Try.ntmps19
    go_wp2
    go_ret
    exact ⟨retB (by simp [holdsB, regB, keyL_hi Hr.out (show 8 ≤ n by omega)]), bel1 w _⟩
  have n2d : decide (7 < n) = false := by simpa using n2
  by_cases t0 : t = 0
  · have t0d : (t == 0) = true := by simpa using t0
    have T0 := Lib.hid t0
    clear t0
    go_enter Try.func19, Try.ntmps19
    go_wp2
    go_ret
    exact ⟨retB (by have e := T0.out; simp [holdsB, resB, e]), bel1 w _⟩
  have t0d : (t == 0) = false := by simpa using t0
  have T0 := Lib.hid t0
  clear t0
  obtain ⟨kn, Hkn⟩ : ∃ x, Hid (keyL l n = x) := ⟨_, Lib.hid rfl⟩
  have hix : ∀ W : World, (Instr.index 57 (.agg pv) (.int .i64 n)).run Try.prog W = .ok (.int .u64 kn) W := fun W => by
    have := run_index_row (P := Try.prog) 57 26 8 Try.underlying57 Try.underlying26 (by kernel_rfl) pv n.toNat (by omega) (.int .u64 (keyL l (n.toNat : Int))) (by rw [← Hpv.out, List.getElem?_toArray]; exact arrV_at _ (by omega)) W
    have e : (n.toNat : Int) = n := by omega
    rw [e, Hkn.out] at this
    exact this
  by_cases k0 : kn = 0
  · have k0d : (kn == 0) = true := by simpa using k0
    have K0 := Lib.hid k0
    clear k0
    go_enter Try.func19, Try.ntmps19
    go_wp2_with (go_at_call 28; refine (Kk.out _ (bel1 w _)).mono ?_; rintro e w2 ⟨rfl, hb2⟩; have hx2 := (hb2.block w.heap.size (by simp)).trans HX0.out; have B2 := stepB (bel1 w _) hb2; clear hb2; obtain ⟨xl2, x0_2, x1_2, x2_2, x3_2, x4_2, xf2⟩ := box5 hx2)
    go_ret
    exact ⟨retB (by simp [holdsB, regB, Hkn.out, K0.out]), B2⟩
  have k0d : (kn == 0) = false := by simpa using k0
  have K0 := Lib.hid k0
  clear k0
  go_enter Try.func19, Try.ntmps19
  go_wp2_with (go_at_call 28; refine (Kk.out _ (bel1 w _)).mono ?_; rintro e w2 ⟨rfl, hb2⟩; have hx2 := (hb2.block w.heap.size (by simp)).trans HX0.out; have B2 := stepB (bel1 w _) hb2; clear hb2; obtain ⟨xl2, x0_2, x1_2, x2_2, x3_2, x4_2, xf2⟩ := box5 hx2)
  all_goals
    go_ret
    refine ⟨retB ?_, B2⟩
    have e := T0.out
    have e2 := Hkn.out
    have e3 := K0.out
    clear hix hx2
    simp_all [holdsB, resB, regB, ofAllB]
  first
    | done
    | (by_cases e4 : n = h
       · simp [e4]
       · have e5 : ¬ h = n := fun x => e4 x.symm
         simp [e4, e5])
set_option maxRecDepth 100000 in
set_option maxHeartbeats 8000000 in
theorem rbars_any (hS : SlR w A len cap l) (hm : len ≤ 6) (hs : soundB l h t = true) (n d : Int) : Calls Try.prog 21 #[.agg #[.int .u32 g, .slice A len cap, .int .i64 h, .int .i64 t, .bool p], .int .i64 n, .int .i64 d] w (Ret (.bool (barsB l h t n d)) w) := by
  have hr := (sound_iff.1 hs).2.1
  have hty : t = 0 ∨ t = 1 ∨ t = 3 ∨ t = 5 ∨ t = 6 ∨ t = 7 ∨ t = 8 := by
    rcases (sound_iff.1 hs).2.2 with ⟨e, _⟩ | ⟨_, e, _⟩
    · exact .inl e
    · right; simpa [isTyB] using e
  obtain ⟨pv, Hpv⟩ : ∃ pv, Hid ((arrV (keyL l)).toArray = pv) := ⟨_, Lib.hid rfl⟩
  have Kk : Hid (∀ W, Below w.heap.size w W → Calls Try.prog 28 #[.agg #[.int .u32 g, .slice A len cap, .int .i64 h, .int .i64 t, .bool p]] W (fun e w' => e = .returned (.agg pv) ∧ Below W.heap.size W w')) :=
    Lib.hid fun W hb => keysP g h t p A len cap l W (hS.below hb) hm hr Hpv.out
  have Kh : Hid (∀ W, Below w.heap.size w W → Calls Try.prog 19 #[.agg #[.int .u32 g, .slice A len cap, .int .i64 h, .int .i64 t, .bool p], .int .i64 n] W (Ret (.bool (holdsB l h t n)) W)) :=
    Lib.hid fun W hb => rholds_any g h t p A len cap l W (hS.below hb) hm hr n
  have Hr := Lib.hid hr
  clear hS hr hs
  have hx0 := heap_alloc_new w (.cells #[.int .u32 g, .slice A len cap, .int .i64 h, .int .i64 t, .bool p] 25)
  have HX0 := Lib.hid hx0
  clear hx0
  obtain ⟨hb, Hhb⟩ : ∃ x, Hid (holdsB l h t n = x) := ⟨_, Lib.hid rfl⟩
  rw [Hhb.out] at Kh
  by_cases t0 : t = 0
  · subst t0
    go_enter Try.func21, Try.ntmps21
    go_wp2
    go_ret
    exact ⟨retB (by simp [barsB, resB]), bel1 w _⟩
  have t0d : (t == 0) = false := by simpa using t0
  cases hb with
  | true =>
    go_enter Try.func21, Try.ntmps21
    go_wp2_with (go_at_call 19; refine (Kh.out _ (bel1 w _)).mono ?_; rintro e w2 ⟨rfl, hb2⟩; have B2 := stepB (bel1 w _) hb2; clear hb2)
    go_ret
    exact ⟨retB (by simp [barsB, Hhb.out]), B2⟩
  | false =>
    obtain ⟨kr, Hkr⟩ : ∃ x, Hid (regB l n = x) := ⟨_, Lib.hid rfl⟩
    have T0 := Lib.hid t0
    clear t0
    go_enter Try.func21, Try.ntmps21
    go_upto_region 3 with (go_at_call 19; refine (Kh.out _ (bel1 w _)).mono ?_; rintro e w2 ⟨rfl, hb2⟩; have hx2 := (hb2.block w.heap.size (by simp)).trans HX0.out; have B2 := stepB (bel1 w _) hb2; clear hb2; obtain ⟨xl2, x0_2, x1_2, x2_2, x3_2, x4_2, xf2⟩ := box5 hx2)
    have HX2 := Lib.hid hx2
    clear hx2
    have HT := Lib.hid hty
    clear hty t0d
    by_cases hn : n < 0 ∨ 7 < n
    · have hkr : kr = false := by
        rw [← Hkr.out, regB]
        rcases hn with hn | hn
        · simp [keyL_rise Hr.out (show n ≤ -1 by omega)]
        · simp [keyL_hi Hr.out (show 8 ≤ n by omega)]
      subst hkr
      rcases hn with hn | hn
      · have n1 : decide (0 ≤ n) = false := by simpa using hn
        go_upto_region 4 with (fail)
        rcases HT.out with e | e | e | e | e | e | e
        · exact absurd e T0.out
        all_goals
          subst e
          go_wp2
          all_goals
            go_ret
            refine ⟨retB ?_, B2⟩
            have e1 := Hhb.out
            have e2 := Hkr.out
            first | (simp_all [barsB, resB, ofRegB, writesB]; done) | (simp_all [barsB, resB, ofRegB, writesB]; rfl) | (simp_all [barsB, resB, ofRegB, writesB]; by_cases e11 : d = 11 <;> simp [e11])
      · have n1 : decide (0 ≤ n) = true := by simp; omega
        have n2 : decide (n ≤ 7) = false := by simpa using hn
        go_upto_region 4 with (fail)
        rcases HT.out with e | e | e | e | e | e | e
        · exact absurd e T0.out
        all_goals
          subst e
          go_wp2
          all_goals
            go_ret
            refine ⟨retB ?_, B2⟩
            have e1 := Hhb.out
            have e2 := Hkr.out
            first | (simp_all [barsB, resB, ofRegB, writesB]; done) | (simp_all [barsB, resB, ofRegB, writesB]; rfl) | (simp_all [barsB, resB, ofRegB, writesB]; by_cases e11 : d = 11 <;> simp [e11])
    · have n1 : decide (0 ≤ n) = true := by simp; omega
      have n2 : decide (n ≤ 7) = true := by simp; omega
      obtain ⟨kn, Hkn⟩ : ∃ x, Hid (keyL l n = x) := ⟨_, Lib.hid rfl⟩
      have hix : ∀ W : World, (Instr.index 57 (.agg pv) (.int .i64 n)).run Try.prog W = .ok (.int .u64 kn) W := fun W => by
        have := run_index_row (P := Try.prog) 57 26 8 Try.underlying57 Try.underlying26 (by kernel_rfl) pv n.toNat (by omega) (.int .u64 (keyL l (n.toNat : Int))) (by rw [← Hpv.out, List.getElem?_toArray]; exact arrV_at _ (by omega)) W
        have e : (n.toNat : Int) = n := by omega
        rw [e, Hkn.out] at this
        exact this
      have hkb : (kn != 0) = kr := by rw [← Hkr.out, regB, Hkn.out]; by_cases e : kn = 0 <;> simp [e]
      go_upto_region 4 with (go_at_call 28; refine (Kk.out _ B2).mono ?_; rintro e w4 ⟨rfl, hb4⟩; have hx4 := (hb4.block w.heap.size xl2).trans HX2.out; have B4 := stepB B2 hb4; clear hb4; obtain ⟨xl4, x0_4, x1_4, x2_4, x3_4, x4_4, xf4⟩ := box5 hx4)
      clear hix hn x0_2 x1_2 x2_2 x3_2 x4_2 xf2 xl2 hx4
      cases kr with
      | false =>
        rcases HT.out with e | e | e | e | e | e | e
        · exact absurd e T0.out
        all_goals
          subst e
          go_wp2
          all_goals
            go_ret
            refine ⟨retB ?_, B4⟩
            have e1 := Hhb.out
            have e2 := Hkr.out
            first | (simp_all [barsB, resB, ofRegB, writesB]; done) | (simp_all [barsB, resB, ofRegB, writesB]; rfl) | (simp_all [barsB, resB, ofRegB, writesB]; by_cases e11 : d = 11 <;> simp [e11])
      | true =>
        rcases HT.out with e | e | e | e | e | e | e
        · exact absurd e T0.out
        all_goals
          subst e
          go_wp2
          all_goals
            go_ret
            refine ⟨retB ?_, B4⟩
            have e1 := Hhb.out
            have e2 := Hkr.out
            first | (simp_all [barsB, resB, ofRegB, writesB]; done) | (simp_all [barsB, resB, ofRegB, writesB]; rfl) | (simp_all [barsB, resB, ofRegB, writesB]; by_cases e11 : d = 11 <;> simp [e11])
end
end Go.Proofs.Ytkpogmigfjmacaa
