/-
  The law PersJoins walked.
-/
import Derived.Test.YtkpogmigfjmacaaPeStands
import Derived.Test.YtkpogmigfjmacaaPeRHolds
import Derived.Test.YtkpogmigfjmacaaPeSame
import Derived.Test.YtkpogmigfjmacaaPeJoin
import Derived.Test.YtkpogmigfjmacaaPeOpen
set_option linter.unusedSimpArgs false
set_option linter.unusedVariables false
namespace Go.Proofs.Ytkpogmigfjmacaa
open Go.RowKit

set_option maxRecDepth 100000 in
set_option maxHeartbeats 8000000 in
theorem persJoins_any (T : Tb) (A : Option Addr) (len cap : Nat) {w : World} (hS : SlR w A len cap T.l) (hm : len ≤ 9223372036854775807) (hk64 : ∀ q ∈ T.l, I64 q.1 ∧ U64 q.2) (_ : U32 T.g) (n : Int) (hn64 : I64 n) (r : Int) (hr64 : U64 r) (W : World) (hW : w = W) :
    Calls Try.prog 8 #[.agg #[.int .u32 T.g, .slice A len cap, .int .i64 T.h, .int .i64 T.t, .bool T.p], .int .i64 n, .int .u64 r] W (Ret (.bool true) W) := by
  subst hW
  obtain ⟨g, l, h, t, p⟩ := T
  simp only at hS hk64 ⊢
  have Kst : Hid (∀ W, Calls Try.prog 10 #[] W (Ret (.bool true) W)) := Lib.hid stands_any
  have Krs : Hid (∀ W, Below w.heap.size w W → Calls Try.prog 12 #[.agg #[.int .u32 g, .slice A len cap, .int .i64 h, .int .i64 t, .bool p]] W (Ret (.bool (soundB l h t)) W)) := Lib.hid fun W hb => rsound_any g h t p A len cap l W (hS.below hb) hm
  have hx0 := heap_alloc_new w (.cells #[.int .u32 g, .slice A len cap, .int .i64 h, .int .i64 t, .bool p] 25)
  have HX0 := Lib.hid hx0
  clear hx0
  cases hso : soundB l h t with
  | false =>
    rw [hso] at Krs
    clear hso hS hk64
    go_enter Try.func8, Try.ntmps8
    go_wp2_with (first | (go_at_call 10; refine (Kst.out _).mono ?_; rintro e w2 ⟨rfl, hb2⟩; have hx2 := (hb2.block w.heap.size (by simp)).trans HX0.out; have B2 := stepB (bel1 w _) hb2; clear hb2; obtain ⟨xl2, x0_2, x1_2, x2_2, x3_2, x4_2, xf2⟩ := box5 hx2) | (go_at_call 12; refine (Krs.out _ B2).mono ?_; rintro e w3 ⟨rfl, hb3⟩; have hx3 := (hb3.block w.heap.size xl2).trans hx2; have B3 := stepB B2 hb3; clear hb3; obtain ⟨xl3, x0_3, x1_3, x2_3, x3_3, x4_3, xf3⟩ := box5 hx3))
    all_goals (go_ret; exact ⟨rfl, B3⟩)
  | true =>
  rw [hso] at Krs
  by_cases hn0 : n < 0
  · have hn0' := hn0
    clear hso hS hk64
    go_enter Try.func8, Try.ntmps8
    go_wp2_with (first | (go_at_call 10; refine (Kst.out _).mono ?_; rintro e w2 ⟨rfl, hb2⟩; have hx2 := (hb2.block w.heap.size (by simp)).trans HX0.out; have B2 := stepB (bel1 w _) hb2; clear hb2; obtain ⟨xl2, x0_2, x1_2, x2_2, x3_2, x4_2, xf2⟩ := box5 hx2) | (go_at_call 12; refine (Krs.out _ B2).mono ?_; rintro e w3 ⟨rfl, hb3⟩; have hx3 := (hb3.block w.heap.size xl2).trans hx2; have B3 := stepB B2 hb3; clear hb3; obtain ⟨xl3, x0_3, x1_3, x2_3, x3_3, x4_3, xf3⟩ := box5 hx3))
    all_goals (go_ret; exact ⟨rfl, B3⟩)
  by_cases hn7 : 7 < n
  · have hn7' : ¬ n ≤ 7 := by omega
    clear hso hS hk64
    go_enter Try.func8, Try.ntmps8
    go_wp2_with (first | (go_at_call 10; refine (Kst.out _).mono ?_; rintro e w2 ⟨rfl, hb2⟩; have hx2 := (hb2.block w.heap.size (by simp)).trans HX0.out; have B2 := stepB (bel1 w _) hb2; clear hb2; obtain ⟨xl2, x0_2, x1_2, x2_2, x3_2, x4_2, xf2⟩ := box5 hx2) | (go_at_call 12; refine (Krs.out _ B2).mono ?_; rintro e w3 ⟨rfl, hb3⟩; have hx3 := (hb3.block w.heap.size xl2).trans hx2; have B3 := stepB B2 hb3; clear hb3; obtain ⟨xl3, x0_3, x1_3, x2_3, x3_3, x4_3, xf3⟩ := box5 hx3))
    all_goals (go_ret; exact ⟨rfl, B3⟩)
  by_cases hr0 : r = 0
  · subst hr0
    have hn0' : ¬ n < 0 := hn0
    have hn7' : ¬ n > 7 := hn7
    clear hso hS hk64
    go_enter Try.func8, Try.ntmps8
    go_wp2_with (first | (go_at_call 10; refine (Kst.out _).mono ?_; rintro e w2 ⟨rfl, hb2⟩; have hx2 := (hb2.block w.heap.size (by simp)).trans HX0.out; have B2 := stepB (bel1 w _) hb2; clear hb2; obtain ⟨xl2, x0_2, x1_2, x2_2, x3_2, x4_2, xf2⟩ := box5 hx2) | (go_at_call 12; refine (Krs.out _ B2).mono ?_; rintro e w3 ⟨rfl, hb3⟩; have hx3 := (hb3.block w.heap.size xl2).trans hx2; have B3 := stepB B2 hb3; clear hb3; obtain ⟨xl3, x0_3, x1_3, x2_3, x3_3, x4_3, xf3⟩ := box5 hx3))
    all_goals (go_ret; exact ⟨rfl, B3⟩)
  have hrz : (r == 0) = false := by simpa using hr0
  by_cases hl6 : len = 6
  · subst hl6
    clear hso hS hk64
    go_enter Try.func8, Try.ntmps8
    go_wp2_with (first | (go_at_call 10; refine (Kst.out _).mono ?_; rintro e w2 ⟨rfl, hb2⟩; have hx2 := (hb2.block w.heap.size (by simp)).trans HX0.out; have B2 := stepB (bel1 w _) hb2; clear hb2; obtain ⟨xl2, x0_2, x1_2, x2_2, x3_2, x4_2, xf2⟩ := box5 hx2) | (go_at_call 12; refine (Krs.out _ B2).mono ?_; rintro e w3 ⟨rfl, hb3⟩; have hx3 := (hb3.block w.heap.size xl2).trans hx2; have B3 := stepB B2 hb3; clear hb3; obtain ⟨xl3, x0_3, x1_3, x2_3, x3_3, x4_3, xf3⟩ := box5 hx3))
    all_goals (go_ret; exact ⟨rfl, B3⟩)
  have hl6i : ¬ (len : Int) = 6 := by omega
  have hl6z : ((len : Int) == 6) = false := by simpa using hl6i
  have hle := (sound_iff.1 hso).1
  have hlen := hS.1
  have hl6' : l.length ≠ 6 := by omega
  have hlen6 : len ≤ 6 := by omega
  have HS := Lib.hid hS; have HSO := Lib.hid hso; have Hll := Lib.hid hlen
  have HN := Lib.hid (show 0 ≤ n ∧ n < 8 ∧ r ≠ 0 ∧ l.length ≠ 6 from ⟨by omega, by omega, hr0, hl6'⟩)
  obtain ⟨G, HG⟩ : ∃ G, Hid (nextG g = G) := ⟨_, Lib.hid rfl⟩
  obtain ⟨G2, hG2⟩ : ∃ G, IntKind.u32.wrap (g + 2) = G := ⟨_, rfl⟩
  have HG2 : Hid (nextG G = G2) := Lib.hid (by rw [← HG.out, next2, hG2])
  clear hso hS hk64 hle hlen hl6' hn64 hr64
  go_enter Try.func8, Try.ntmps8
  go_upto_region 5 with (first | (go_at_call 10; refine (Kst.out _).mono ?_; rintro e w2 ⟨rfl, hb2⟩; have hx2 := (hb2.block w.heap.size (by simp)).trans HX0.out; have B2 := stepB (bel1 w _) hb2; clear hb2; obtain ⟨xl2, x0_2, x1_2, x2_2, x3_2, x4_2, xf2⟩ := box5 hx2) | (go_at_call 12; refine (Krs.out _ B2).mono ?_; rintro e w3 ⟨rfl, hb3⟩; have hx3 := (hb3.block w.heap.size xl2).trans hx2; have B3 := stepB B2 hb3; clear hb3; obtain ⟨xl3, x0_3, x1_3, x2_3, x3_3, x4_3, xf3⟩ := box5 hx3))
  have HX3 := Lib.hid hx3; have HB3 := Lib.hid B3
  clear hx2 hx3 B2 B3 xl2 x0_2 x1_2 x2_2 x3_2 x4_2 xf2 HX0 Kst Krs
  go_wp2
  clear x0_3 x1_3 x2_3 x3_3 x4_3 xf3 hn0 hn7 hr0 hrz hl6i hl6z
  go_loopg [41, 8] len (fun m i _ wr => ∃ k : Nat, m = len - k ∧ k ≤ len ∧ i = .int .i64 k ∧ Below w3.heap.size w3 wr ∧ Hid (∀ j, j < k → ∀ q : Int × Int, l[j]? = some q → q.1 ≠ n))
  case atStart => exact ⟨0, rfl, by omega, rfl, Below.refl _ _, Lib.hid fun j hj => absurd hj (by omega)⟩
  case round =>
    obtain ⟨k, rfl, hk, rfl, hb, hno⟩ := hrel
    by_cases hlt : k < len
    · have hltz : (k : Int) < (len : Int) := by omega
      obtain ⟨q, hq⟩ : ∃ q, l[k]? = some q := ⟨_, List.getElem?_eq_getElem (by rw [Hll.out]; exact hlt)⟩
      rcases (HS.out.below (stepB HB3.out hb)).2.2.2 with h0 | ⟨b, o, rfl, hbN, hc⟩
      · rw [h0] at hq; simp at hq
      obtain ⟨c0, c1⟩ := hc k q hq
      have HB := Lib.hid hb; have HQ := Lib.hid hq
      clear hc hb hq
      obtain ⟨q1, q2⟩ := q
      simp only at c0 c1
      by_cases hqn : q1 = n
      · have ht : (q1 == n) = true := by simpa using hqn
        have HN := Lib.hid hqn
        clear hqn
        go_wp2
        go_ret
        exact ⟨rfl, stepB HB3.out (HB.out.alloc (HB.out.size) _)⟩
      · have ht : (q1 == n) = false := by simpa using hqn
        have HN := Lib.hid hqn
        clear hqn
        go_wp2
        go_roundg (len - (k + 1))
        case measure => omega
        case rel => exact ⟨k + 1, rfl, by omega, by go_num, HB.out.alloc HB.out.size _, Lib.hid fun j hj q hq => by
          rcases Nat.lt_or_ge j k with h1 | h1
          · exact hno.out j h1 q hq
          · obtain rfl : j = k := by omega
            rw [HQ.out] at hq
            cases hq; exact HN.out⟩
    · obtain rfl : k = len := by omega
      have hltz : ¬ ((k : Int) < (k : Int)) := by omega
      have hk0 : keyL l n = 0 := keyL_miss fun j q hj => hno.out j (by have := (List.getElem?_eq_some_iff.1 hj).1; rw [Hll.out] at this; exact this) q hj
      have hxr := (hb.block w.heap.size xl3).trans HX3.out
      have hbr := stepB HB3.out hb
      have K1 : Hid (∀ W, Below w.heap.size w W → Calls Try.prog 13 #[.agg #[.int .u32 g, .slice A k cap, .int .i64 h, .int .i64 t, .bool p], .int .i64 n, .agg #[.int .i64 0, .int .i64 0, .int .u64 0, .int .u64 r, .bool p]] W (AcP W n (⟨G, withL l n r, h, t, p⟩, 0, []))) :=
        Lib.hid fun W hb => actc (T := ⟨g, l, h, t, p⟩) (HS.out.below hb) HSO.out HN.out.1 HN.out.2.1 (by rw [← HG.out]; exact act_join (T := ⟨g, l, h, t, p⟩) HSO.out hk0 HN.out.2.2.1 HN.out.2.2.2)
      have K2 : Hid (∀ W A' n' c', SlR W A' n' c' (withL l n r) → Calls Try.prog 13 #[.agg #[.int .u32 G, .slice A' n' c', .int .i64 h, .int .i64 t, .bool p], .int .i64 n, .agg #[.int .i64 0, .int .i64 0, .int .u64 r, .int .u64 0, .bool p]] W (AcP W n (⟨G2, l, h, t, p⟩, 0, goneOf (isN n) (withL l n r)))) :=
        Lib.hid fun W A' n' c' hS => actc (T := ⟨G, withL l n r, h, t, p⟩) hS (join_sound HSO.out HN.out.1 HN.out.2.1 hk0 HN.out.2.2.1 HN.out.2.2.2) HN.out.1 HN.out.2.1 (by rw [← HG2.out]; exact act_leave HSO.out HN.out.1 HN.out.2.1 hk0 HN.out.2.2.1)
      have hwl := withL_len3 (x := r) (sound_iff.1 HSO.out).2.1 hk0
      rw [Hll.out] at hwl
      have Hwl := Lib.hid hwl
      have HXr := Lib.hid hxr; have HBr := Lib.hid hbr
      obtain ⟨xlr, x0_r, x1_r, x2_r, x3_r, x4_r, xfr⟩ := box5 hxr
      clear hk0 hwl hxr hbr hb hno HX3 HB3 xl3 HN
      go_upto_region 12 with (go_at_call 13; refine (K1.out _ HBr.out).mono ?_; rintro e w8 ⟨A8, n8, c8, u8, rfl, ho8, hi8, hb8⟩)
      have hx8 := (hb8.block w.heap.size xlr).trans HXr.out
      have B8 := stepB HBr.out hb8
      obtain ⟨Au, cu, hu, _⟩ := hi8.form
      have hu' : u8 = .slice Au 0 cu := hu
      subst hu'
      obtain ⟨A8', c8', he8, hs8⟩ := ho8.sl
      obtain ⟨h1, h2, h3⟩ : A8 = A8' ∧ n8 = (withL l n r).length ∧ c8 = c8' := by injection he8 with h1 h2 h3; exact ⟨h1, h2, h3⟩
      rw [← h1, ← h2, ← h3] at hs8
      rw [Hwl.out] at h2
      have hwn : IntKind.i64.wrap ((k : Int) + 1) = (n8 : Int) := by rw [h2, IntWalk.i64_in _ (by omega)]; push_cast; rfl
      clear hi8 hu ho8 he8 h1 h2 h3 c8' A8' x0_r x1_r x2_r x3_r x4_r xfr HXr HBr K1 Hwl
      have hq9 := heap_alloc_new w8 (.cells #[.int .u32 G, .slice A8 n8 c8, .int .i64 h, .int .i64 t, .bool p] 25)
      have hb9 := bel1 w8 (.cells #[.int .u32 G, .slice A8 n8 c8, .int .i64 h, .int .i64 t, .bool p] 25)
      have hx9 := (hb9.block w.heap.size (by have := B8.size; have := hb8.size; omega)).trans hx8
      have B9 := stepB B8 hb9
      have hs9 := hs8.below hb9
      have hqz : w.heap.size < w8.heap.size := by have := hb8.size; omega
      obtain ⟨q, Hq⟩ : ∃ q, Hid (w8.heap.size = q) := ⟨_, Lib.hid rfl⟩
      have hz9 : (w8.alloc (.cells #[.int .u32 G, .slice A8 n8 c8, .int .i64 h, .int .i64 t, .bool p] 25)).heap.size = q + 1 := by rw [World.size_alloc, Hq.out]
      rw [Hq.out] at hq9 hqz
      generalize w8.alloc (.cells #[.int .u32 G, .slice A8 n8 c8, .int .i64 h, .int .i64 t, .bool p] 25) = w9 at hq9 hb9 hx9 B9 hs9 hz9 ⊢
      rw [Hq.out]
      have HX9 := Lib.hid hx9; have HB9 := Lib.hid B9; have HQ9 := Lib.hid hq9; have HS9 := Lib.hid hs9
      obtain ⟨xl9, x0_9, x1_9, x2_9, x3_9, x4_9, xf9⟩ := box5 hx9
      obtain ⟨ql9, q0_9, q1_9, q2_9, q3_9, q4_9, qf9⟩ := box5 hq9
      clear hq9 hx9 B9 hb9 hx8 B8 hb8 xlr Hq hs8 hs9
      go_upto_region 13 with (go_at_call 13; refine (K2.out _ _ _ _ HS9.out).mono ?_; rintro e w10 ⟨A10, n10, c10, u10, rfl, ho10, hi10, hb10⟩)
      rw [keepN_isN] at hi10
      obtain ⟨Av, cv, hu, _⟩ := hi10.form
      have hu' : u10 = .slice Av 0 cv := hu
      subst hu'
      have hx10 := (hb10.block w.heap.size xl9).trans HX9.out
      have hq10 := (hb10.block q ql9).trans HQ9.out
      have B10 := stepB HB9.out hb10
      clear hi10 hu x0_9 x1_9 x2_9 x3_9 x4_9 xf9 q0_9 q1_9 q2_9 q3_9 q4_9 qf9 HX9 HB9 HQ9 HS9 K2
      have hs11 := heap_alloc_new w10 (.cells #[.int .u32 G2, .slice A10 n10 c10, .int .i64 h, .int .i64 t, .bool p] 25)
      have hb11 := bel1 w10 (.cells #[.int .u32 G2, .slice A10 n10 c10, .int .i64 h, .int .i64 t, .bool p] 25)
      have hx11 := (hb11.block w.heap.size (by have := hb10.size; omega)).trans hx10
      have hq11 := (hb11.block q (by have := hb10.size; omega)).trans hq10
      have B11 := stepB B10 hb11
      have ho11 := ho10.below hb11
      obtain ⟨s, Hs⟩ : ∃ s, Hid (w10.heap.size = s) := ⟨_, Lib.hid rfl⟩
      rw [Hs.out] at hs11
      have hqs : q < s := by rw [← Hs.out]; have := hb10.size; omega
      generalize w10.alloc (.cells #[.int .u32 G2, .slice A10 n10 c10, .int .i64 h, .int .i64 t, .bool p] 25) = w11 at hs11 hb11 hx11 hq11 B11 ho11 ⊢
      rw [Hs.out]
      have HX11 := Lib.hid hx11; have HB11 := Lib.hid B11; have HQ11 := Lib.hid hq11; have HS11 := Lib.hid hs11; have HO11 := Lib.hid ho11
      obtain ⟨xl11, x0_11, x1_11, x2_11, x3_11, x4_11, xf11⟩ := box5 hx11
      clear hs11 hb11 hx11 hq11 B11 ho11 ho10 hx10 hq10 B10 hb10 Hs xl9 ql9
      go_upto_region 14 with (fail)
      have hx13 : (w11.setCell ⟨w.heap.size, 0, none⟩ (.int .u32 G2)).heap[w.heap.size]? = some (.cells #[.int .u32 G2, .slice A k cap, .int .i64 h, .int .i64 t, .bool p] 25 (0, 0)) := (heap_setCell_same w11 w.heap.size 0 _ 25 (.int .u32 G2) HX11.out).trans rfl
      have hset : ∀ j, j ≠ w.heap.size → (w11.setCell ⟨w.heap.size, 0, none⟩ (.int .u32 G2)).heap[j]? = w11.heap[j]? := fun j hj => Below.heap_setCell w11 ⟨w.heap.size, 0, none⟩ _ j hj
      have hq13 := (hset q (by omega)).trans HQ11.out
      have hs13 := (hset s (by omega)).trans HS11.out
      have B13 : Below w.heap.size w (w11.setCell ⟨w.heap.size, 0, none⟩ (.int .u32 G2)) := HB11.out.setCell (Nat.le_refl _) _
      have ho13 := HO11.out.set (p := ⟨w.heap.size, 0, none⟩) (show w.heap.size < w9.heap.size by omega) (.int .u32 G2)
      have hA13 := HS.out.below B13
      clear hset HX11 HB11 HQ11 HS11 HO11 x0_11 x1_11 x2_11 x3_11 x4_11 xf11 xl11
      generalize w11.setCell ⟨w.heap.size, 0, none⟩ (.int .u32 G2) = w13 at hx13 hq13 hs13 B13 ho13 hA13 ⊢
      obtain ⟨A', c', he, hsB⟩ := ho13.sl
      obtain ⟨h1, h2, h3⟩ : A10 = A' ∧ n10 = l.length ∧ c10 = c' := by injection he with h1 h2 h3; exact ⟨h1, h2, h3⟩
      rw [← h1, ← h2, ← h3] at hsB
      have hsm := same_any ⟨G2, l, h, t, p⟩ A A10 k n10 cap c10 w13 (by rw [Hll.out]; exact hlen6) hA13 hsB
      have Hsm := Lib.hid hsm
      clear hsm hsB h1 h2 h3 he ho13 hA13 c' A'
      obtain ⟨xl, x0, x1, x2, x3, x4, xf⟩ := box5 hx13
      obtain ⟨ql, q0, q1, q2, q3, q4, qf⟩ := box5 hq13
      obtain ⟨sl, s0, s1, s2, s3, s4, sf⟩ := box5 hs13
      have HB13 := Lib.hid B13
      clear hx13 hq13 hs13 B13
      go_wp2_with (go_at_call 16; refine Hsm.out.mono ?_; rintro e w14 ⟨rfl, hb14⟩)
      go_ret
      exact ⟨rfl, stepB HB13.out hb14⟩
end Go.Proofs.Ytkpogmigfjmacaa
