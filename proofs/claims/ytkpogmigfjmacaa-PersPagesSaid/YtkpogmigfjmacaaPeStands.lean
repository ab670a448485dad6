/-
  The law's own: stands.
-/
import Derived.Test.YtkpogmigfjmacaaPeActW
import Derived.Test.YtkpogmigfjmacaaPeSnd
set_option linter.unusedSimpArgs false
set_option linter.unusedVariables false
namespace Go.Proofs.Ytkpogmigfjmacaa
open Go.RowKit

theorem actc {T : Tb} {R : Res} {A : Option Addr} {len cap : Nat} {w : World} (hS : SlR w A len cap T.l) (hso : soundB T.l T.h T.t = true) {n a ty key other : Int} (hn0 : 0 ≤ n) (hn8 : n < 8) {ap : Bool} (hR : actL T n a ty key other ap = R) :
    Calls Try.prog 13 #[.agg #[.int .u32 T.g, .slice A len cap, .int .i64 T.h, .int .i64 T.t, .bool T.p], .int .i64 n, .agg #[.int .i64 a, .int .i64 ty, .int .u64 key, .int .u64 other, .bool ap]] w (AcP w n R) := by
  have h6 := (sound_iff.1 hso).1
  obtain ⟨hs, hg⟩ := act_sound hso n a ty key other hn0 hn8 ap
  have := actw_any T A len cap w hS (by rw [← hS.1]; exact h6) hso n a ty key other hn0 hn8 ap (sound_iff.1 hs).1 hg
  rwa [hR] at this
def st0 : Tb := ⟨0, [], -1, 0, false⟩
def st1 : Tb := ⟨1, [(1, 5)], -1, 0, false⟩
def st2 : Tb := ⟨1, [(1, 5)], 1, 1, false⟩
def st3 : Tb := ⟨2, [(1, 5), (2, 6)], 1, 1, false⟩
def st4 : Tb := ⟨3, [(2, 6)], 2, 1, false⟩
theorem st_1 : actL st0 1 0 0 0 5 false = (st1, 0, []) := by rfl
theorem st_2 : actL st1 1 1 1 5 0 false = (st2, 0, []) := by rfl
theorem st_3 : actL st2 2 0 0 0 6 false = (st3, 0, []) := by rfl
theorem st_4 : actL st3 2 4 1 6 5 false = (st4, 0, [1]) := by rfl
theorem st_b1 : barsB st3.l st3.h st3.t 2 7 = true := by rfl
theorem st_b2 : barsB st3.l st3.h st3.t 2 6 = false := by rfl
set_option maxRecDepth 100000 in
set_option maxHeartbeats 4000000 in
theorem stands_any (w : World) : Calls Try.prog 10 #[] w (Ret (.bool true) w) := by
  have Kn : Hid (∀ W, Calls Try.prog 22 #[] W (Ret (.agg #[.int .u32 0, .slice none 0 0, .int .i64 (-1), .int .i64 0, .bool false]) W)) := Lib.hid fun W => none_any W
  have K1 : Hid (∀ W, Calls Try.prog 13 #[.agg #[.int .u32 0, .slice none 0 0, .int .i64 (-1), .int .i64 0, .bool false], .int .i64 1, .agg #[.int .i64 0, .int .i64 0, .int .u64 0, .int .u64 5, .bool false]] W (AcP W 1 (st1, 0, []))) :=
    Lib.hid fun W => actc (T := st0) ⟨rfl, Nat.le_refl _, fun _ => rfl, .inl rfl⟩ (by decide) (by decide) (by decide) st_1
  have K2 : Hid (∀ W A len cap, SlR W A len cap st1.l → Calls Try.prog 13 #[.agg #[.int .u32 1, .slice A len cap, .int .i64 (-1), .int .i64 0, .bool false], .int .i64 1, .agg #[.int .i64 1, .int .i64 1, .int .u64 5, .int .u64 0, .bool false]] W (AcP W 1 (st2, 0, []))) :=
    Lib.hid fun W A len cap hS => actc (T := st1) hS (by decide) (by decide) (by decide) st_2
  have K3 : Hid (∀ W A len cap, SlR W A len cap st2.l → Calls Try.prog 13 #[.agg #[.int .u32 1, .slice A len cap, .int .i64 1, .int .i64 1, .bool false], .int .i64 2, .agg #[.int .i64 0, .int .i64 0, .int .u64 0, .int .u64 6, .bool false]] W (AcP W 2 (st3, 0, []))) :=
    Lib.hid fun W A len cap hS => actc (T := st2) hS (by decide) (by decide) (by decide) st_3
  have K4 : Hid (∀ W A len cap, SlR W A len cap st3.l → Calls Try.prog 13 #[.agg #[.int .u32 2, .slice A len cap, .int .i64 1, .int .i64 1, .bool false], .int .i64 2, .agg #[.int .i64 4, .int .i64 1, .int .u64 6, .int .u64 5, .bool false]] W (AcP W 2 (st4, 0, [1]))) :=
    Lib.hid fun W A len cap hS => actc (T := st3) hS (by decide) (by decide) (by decide) st_4
  have Kb : Hid (∀ W A len cap d, SlR W A len cap st3.l → Calls Try.prog 20 #[.agg #[.int .u32 2, .slice A len cap, .int .i64 1, .int .i64 1, .bool false], .int .i64 2, .int .i64 d] W (Ret (.bool (barsB st3.l st3.h st3.t 2 d)) W)) :=
    Lib.hid fun W A len cap d hS => bars_any 2 1 1 false A len cap st3.l W hS.1 (by have := hS.1; have e : st3.l.length = 2 := rfl; omega) hS.2.2.2 2 d
  go_enter Try.func10, Try.ntmps10
  go_upto_region 2 with (first
    | (go_at_call 22; refine (Kn.out _).mono ?_; rintro e w1 ⟨rfl, hb1⟩)
    | (go_at_call 13; refine (K1.out _).mono ?_; rintro e w2 ⟨A1, n1, c1, u1, rfl, ho1, hi1, hb2⟩))
  have hq := heap_alloc_new w2 (.cells #[.int .u32 st1.g, .slice A1 n1 c1, .int .i64 st1.h, .int .i64 st1.t, .bool st1.p] 25)
  have hb := (stepB hb1 hb2).alloc (stepB hb1 hb2).size (.cells #[.int .u32 st1.g, .slice A1 n1 c1, .int .i64 st1.h, .int .i64 st1.t, .bool st1.p] 25)
  have ho := ho1.alloc (.cells #[.int .u32 st1.g, .slice A1 n1 c1, .int .i64 st1.h, .int .i64 st1.t, .bool st1.p] 25)
  obtain ⟨q, Hq⟩ : ∃ q, Hid (w2.heap.size = q) := ⟨_, Lib.hid rfl⟩
  have hqw : w.heap.size ≤ q := by rw [← Hq.out]; exact (stepB hb1 hb2).size
  rw [Hq.out] at hq
  change _ at ho
  try simp only [st1] at hq hb ho ⊢
  generalize w2.alloc (.cells #[.int .u32 1, .slice A1 n1 c1, .int .i64 (-1), .int .i64 0, .bool false] 25) = v1 at hq hb ho ⊢
  rw [Hq.out]
  have hs : SlR v1 A1 n1 c1 st1.l := by
    obtain ⟨A', c', he, hs⟩ := ho.sl
    injection he with h1 h2 h3
    subst h1 h2 h3
    exact hs
  have HS1 := Lib.hid hs; have HQ1 := Lib.hid hq; have HB1 := Lib.hid hb
  clear hs hq hb ho hb1 hb2 ho1 hi1 Hq Kn K1
  obtain ⟨ql1, q0_1, q1_1, q2_1, q3_1, q4_1, qf1⟩ := box5 HQ1.out
  go_upto_region 3 with (go_at_call 13; refine (K2.out _ _ _ _ HS1.out).mono ?_; rintro e y2 ⟨A2, n2, c2, u2, rfl, ho, hi, hb⟩; have hq := (hb.block q ql1).trans HQ1.out; obtain ⟨pl, p0, p1, p2, p3, p4, pf⟩ := box5 hq)
  have hq' := set5_heap hq (.int .u32 1) (.slice A2 n2 c2) (.int .i64 (1)) (.int .i64 1) (.bool false)
  have hb' := set5B (stepB HB1.out hb) hqw (.int .u32 1) (.slice A2 n2 c2) (.int .i64 (1)) (.int .i64 1) (.bool false)
  have ho' := ho.set5 (b := q) ql1 (.int .u32 1) (.slice A2 n2 c2) (.int .i64 (1)) (.int .i64 1) (.bool false)
  have hi' := hi.set5 (b := q) ql1 (.int .u32 1) (.slice A2 n2 c2) (.int .i64 (1)) (.int .i64 1) (.bool false)
  try simp only [st2] at ho' hi' ⊢
  generalize ((((y2.setCell ⟨q, 0, none⟩ (.int .u32 1)).setCell ⟨q, 1, none⟩ (.slice A2 n2 c2)).setCell ⟨q, 2, none⟩ (.int .i64 (1))).setCell ⟨q, 3, none⟩ (.int .i64 1)).setCell ⟨q, 4, none⟩ (.bool false) = v2 at hq' hb' ho' hi' ⊢
  have hs : SlR v2 A2 n2 c2 st2.l := by
    obtain ⟨A', c', he, hs⟩ := ho'.sl
    injection he with h1 h2 h3
    subst h1 h2 h3
    exact hs
  have HS2 := Lib.hid hs; have HQ2 := Lib.hid hq'; have HB2 := Lib.hid hb'; have HI2 := Lib.hid hi'
  clear hs hq' hb' ho' hi' hq hb ho hi pl p0 p1 p2 p3 p4 pf ql1 q0_1 q1_1 q2_1 q3_1 q4_1 qf1 K2
  obtain ⟨ql2, q0_2, q1_2, q2_2, q3_2, q4_2, qf2⟩ := box5 HQ2.out
  go_upto_region 4 with (go_at_call 13; refine (K3.out _ _ _ _ HS2.out).mono ?_; rintro e y3 ⟨A3, n3, c3, u3, rfl, ho, hi, hb⟩; have hq := (hb.block q ql2).trans HQ2.out; obtain ⟨pl, p0, p1, p2, p3, p4, pf⟩ := box5 hq)
  have hq' := set5_heap hq (.int .u32 2) (.slice A3 n3 c3) (.int .i64 (1)) (.int .i64 1) (.bool false)
  have hb' := set5B (stepB HB2.out hb) hqw (.int .u32 2) (.slice A3 n3 c3) (.int .i64 (1)) (.int .i64 1) (.bool false)
  have ho' := ho.set5 (b := q) ql2 (.int .u32 2) (.slice A3 n3 c3) (.int .i64 (1)) (.int .i64 1) (.bool false)
  have hi' := hi.set5 (b := q) ql2 (.int .u32 2) (.slice A3 n3 c3) (.int .i64 (1)) (.int .i64 1) (.bool false)
  try simp only [st3] at ho' hi' ⊢
  generalize ((((y3.setCell ⟨q, 0, none⟩ (.int .u32 2)).setCell ⟨q, 1, none⟩ (.slice A3 n3 c3)).setCell ⟨q, 2, none⟩ (.int .i64 (1))).setCell ⟨q, 3, none⟩ (.int .i64 1)).setCell ⟨q, 4, none⟩ (.bool false) = v3 at hq' hb' ho' hi' ⊢
  have hs : SlR v3 A3 n3 c3 st3.l := by
    obtain ⟨A', c', he, hs⟩ := ho'.sl
    injection he with h1 h2 h3
    subst h1 h2 h3
    exact hs
  have HS3 := Lib.hid hs; have HQ3 := Lib.hid hq'; have HB3 := Lib.hid hb'; have HI3 := Lib.hid hi'
  clear hs hq' hb' ho' hi' hq hb ho hi pl p0 p1 p2 p3 p4 pf ql2 q0_2 q1_2 q2_2 q3_2 q4_2 qf2 K3
  obtain ⟨ql3, q0_3, q1_3, q2_3, q3_3, q4_3, qf3⟩ := box5 HQ3.out
  have Kb1 : Hid (∀ W, SlR W A3 n3 c3 st3.l → Calls Try.prog 20 #[.agg #[.int .u32 2, .slice A3 n3 c3, .int .i64 1, .int .i64 1, .bool false], .int .i64 2, .int .i64 7] W (Ret (.bool true) W)) := Lib.hid fun W hS => by rw [← st_b1]; exact Kb.out W A3 n3 c3 7 hS
  have Kb2 : Hid (∀ W, SlR W A3 n3 c3 st3.l → Calls Try.prog 20 #[.agg #[.int .u32 2, .slice A3 n3 c3, .int .i64 1, .int .i64 1, .bool false], .int .i64 2, .int .i64 6] W (Ret (.bool false) W)) := Lib.hid fun W hS => by rw [← st_b2]; exact Kb.out W A3 n3 c3 6 hS
  clear Kb
  have tok1 : True := trivial
  have tok2 : True := trivial
  go_upto_region 5 with (first
    | (go_at_call 20; have _t := tok1; refine (Kb1.out _ HS3.out).mono ?_; rintro e z1 ⟨rfl, hb1⟩; have hq1 := (hb1.block q ql3).trans HQ3.out; have hs1 := HS3.out.below hb1; obtain ⟨pl, p0, p1, p2, p3, p4, pf⟩ := box5 hq1; clear tok1)
    | (go_at_call 20; have _t := tok2; refine (Kb2.out _ hs1).mono ?_; rintro e z2 ⟨rfl, hb2⟩; clear tok2))
  have hq2 := (hb2.block q pl).trans hq1
  have hs2 := hs1.below hb2
  have hb3 := stepB (stepB HB3.out hb1) hb2
  have HS5 := Lib.hid hs2; have HQ5 := Lib.hid hq2; have HB5 := Lib.hid hb3
  clear hq2 hs2 hb3 hb1 hb2 hq1 hs1 pl p0 p1 p2 p3 p4 pf ql3 q0_3 q1_3 q2_3 q3_3 q4_3 qf3 HS3 HQ3 HB3 HI3 Kb1 Kb2
  obtain ⟨ql3, q0_3, q1_3, q2_3, q3_3, q4_3, qf3⟩ := box5 HQ5.out
  go_upto_region 6 with (go_at_call 13; refine (K4.out _ _ _ _ HS5.out).mono ?_; rintro e y4 ⟨A4, n4, c4, u4, rfl, ho, hi, hb⟩; have hq := (hb.block q ql3).trans HQ5.out; obtain ⟨pl, p0, p1, p2, p3, p4, pf⟩ := box5 hq)
  have hq' := set5_heap hq (.int .u32 3) (.slice A4 n4 c4) (.int .i64 (2)) (.int .i64 1) (.bool false)
  have hb' := set5B (stepB HB5.out hb) hqw (.int .u32 3) (.slice A4 n4 c4) (.int .i64 (2)) (.int .i64 1) (.bool false)
  have ho' := ho.set5 (b := q) ql3 (.int .u32 3) (.slice A4 n4 c4) (.int .i64 (2)) (.int .i64 1) (.bool false)
  have hi' := hi.set5 (b := q) ql3 (.int .u32 3) (.slice A4 n4 c4) (.int .i64 (2)) (.int .i64 1) (.bool false)
  try simp only [st4] at ho' hi' ⊢
  generalize ((((y4.setCell ⟨q, 0, none⟩ (.int .u32 3)).setCell ⟨q, 1, none⟩ (.slice A4 n4 c4)).setCell ⟨q, 2, none⟩ (.int .i64 (2))).setCell ⟨q, 3, none⟩ (.int .i64 1)).setCell ⟨q, 4, none⟩ (.bool false) = v4 at hq' hb' ho' hi' ⊢
  have hs : SlR v4 A4 n4 c4 st4.l := by
    obtain ⟨A', c', he, hs⟩ := ho'.sl
    injection he with h1 h2 h3
    subst h1 h2 h3
    exact hs
  have HS4 := Lib.hid hs; have HQ4 := Lib.hid hq'; have HB4 := Lib.hid hb'; have HI4 := Lib.hid hi'
  clear hs hq' hb' ho' hi' hq hb ho hi pl p0 p1 p2 p3 p4 pf ql3 q0_3 q1_3 q2_3 q3_3 q4_3 qf3 K4
  obtain ⟨ql4, q0_4, q1_4, q2_4, q3_4, q4_4, qf4⟩ := box5 HQ4.out
  have hn4 : n4 = 1 := by have := HS4.out.1; have e : st4.l.length = 1 := rfl; omega
  have hk : keepN 2 [1] = [1] := rfl
  have hi4 := HI4.out
  simp only [hk] at hi4
  obtain ⟨Au, cu, hu, hRu⟩ := hi4.form
  have hu' : u4 = .slice Au 1 cu := hu
  subst hu' hn4
  rcases hRu with h0 | ⟨bu, ou, rfl, hul, hcu⟩
  · cases h0
  have cu0 := hcu 0 1 rfl
  rw [Nat.add_zero] at cu0
  clear hcu hi4 hu hk
  go_wp2
  go_ret
  exact ⟨rfl, HB4.out⟩
end Go.Proofs.Ytkpogmigfjmacaa
