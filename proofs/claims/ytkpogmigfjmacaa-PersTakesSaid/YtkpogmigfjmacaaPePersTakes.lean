/-
  The law PersTakes walked.
-/
import Derived.Test.YtkpogmigfjmacaaPeStands
import Derived.Test.YtkpogmigfjmacaaPeRHolds
import Derived.Test.YtkpogmigfjmacaaPeSame
import Derived.Test.YtkpogmigfjmacaaPeTake
import Derived.Test.YtkpogmigfjmacaaPeOpen
set_option linter.unusedSimpArgs false
set_option linter.unusedVariables false
namespace Go.Proofs.Ytkpogmigfjmacaa
open Go.RowKit

set_option maxRecDepth 100000 in
set_option maxHeartbeats 8000000 in
theorem persTakes_any (T : Tb) (A : Option Addr) (len cap : Nat) {w : World} (hS : SlR w A len cap T.l) (hm : len ≤ 9223372036854775807) (hk64 : ∀ q ∈ T.l, I64 q.1 ∧ U64 q.2) (_ : U32 T.g) (n : Int) (hn64 : I64 n) (d : Int) (hd64 : I64 d) (W : World) (hW : w = W) :
    Calls Try.prog 9 #[.agg #[.int .u32 T.g, .slice A len cap, .int .i64 T.h, .int .i64 T.t, .bool T.p], .int .i64 n, .int .i64 d] W (Ret (.bool true) W) := by
  subst hW
  obtain ⟨g, l, h, t, p⟩ := T
  simp only at hS hk64 ⊢
  have Kst : Hid (∀ W, Calls Try.prog 10 #[] W (Ret (.bool true) W)) := Lib.hid stands_any
  have Krs : Hid (∀ W, Below w.heap.size w W → Calls Try.prog 12 #[.agg #[.int .u32 g, .slice A len cap, .int .i64 h, .int .i64 t, .bool p]] W (Ret (.bool (soundB l h t)) W)) := Lib.hid fun W hb => rsound_any g h t p A len cap l W (hS.below hb) hm
  have hx0 := heap_alloc_new w (.cells #[.int .u32 g, .slice A len cap, .int .i64 h, .int .i64 t, .bool p] 25)
  have HX0 := Lib.hid hx0
  clear hx0
  cases hso : soundB l h t with
  | false =>
    rw [hso] at Krs
    clear hso hS hk64
    go_enter Try.func9, Try.ntmps9
    go_wp2_with (first | (go_at_call 10; refine (Kst.out _).mono ?_; rintro e w2 ⟨rfl, hb2⟩; have hx2 := (hb2.block w.heap.size (by simp)).trans HX0.out; have B2 := stepB (bel1 w _) hb2; clear hb2; obtain ⟨xl2, x0_2, x1_2, x2_2, x3_2, x4_2, xf2⟩ := box5 hx2) | (go_at_call 12; refine (Krs.out _ B2).mono ?_; rintro e w3 ⟨rfl, hb3⟩; have hx3 := (hb3.block w.heap.size xl2).trans hx2; have B3 := stepB B2 hb3; clear hb3; obtain ⟨xl3, x0_3, x1_3, x2_3, x3_3, x4_3, xf3⟩ := box5 hx3))
    all_goals (go_ret; exact ⟨rfl, B3⟩)
  | true =>
  rw [hso] at Krs
  by_cases ht0 : t = 0
  · subst ht0
    clear hso hS hk64
    go_enter Try.func9, Try.ntmps9
    go_wp2_with (first | (go_at_call 10; refine (Kst.out _).mono ?_; rintro e w2 ⟨rfl, hb2⟩; have hx2 := (hb2.block w.heap.size (by simp)).trans HX0.out; have B2 := stepB (bel1 w _) hb2; clear hb2; obtain ⟨xl2, x0_2, x1_2, x2_2, x3_2, x4_2, xf2⟩ := box5 hx2) | (go_at_call 12; refine (Krs.out _ B2).mono ?_; rintro e w3 ⟨rfl, hb3⟩; have hx3 := (hb3.block w.heap.size xl2).trans hx2; have B3 := stepB B2 hb3; clear hb3; obtain ⟨xl3, x0_3, x1_3, x2_3, x3_3, x4_3, xf3⟩ := box5 hx3))
    all_goals (go_ret; exact ⟨rfl, B3⟩)
  have htz : (t == 0) = false := by simpa using ht0
  by_cases ht6 : 6 < t
  · have htk := ht6
    clear hso hS hk64
    go_enter Try.func9, Try.ntmps9
    go_wp2_with (first | (go_at_call 10; refine (Kst.out _).mono ?_; rintro e w2 ⟨rfl, hb2⟩; have hx2 := (hb2.block w.heap.size (by simp)).trans HX0.out; have B2 := stepB (bel1 w _) hb2; clear hb2; obtain ⟨xl2, x0_2, x1_2, x2_2, x3_2, x4_2, xf2⟩ := box5 hx2) | (go_at_call 12; refine (Krs.out _ B2).mono ?_; rintro e w3 ⟨rfl, hb3⟩; have hx3 := (hb3.block w.heap.size xl2).trans hx2; have B3 := stepB B2 hb3; clear hb3; obtain ⟨xl3, x0_3, x1_3, x2_3, x3_3, x4_3, xf3⟩ := box5 hx3))
    all_goals (go_ret; exact ⟨rfl, B3⟩)
  by_cases hn0 : n < 0
  · have hn0' := hn0
    clear hso hS hk64
    go_enter Try.func9, Try.ntmps9
    go_wp2_with (first | (go_at_call 10; refine (Kst.out _).mono ?_; rintro e w2 ⟨rfl, hb2⟩; have hx2 := (hb2.block w.heap.size (by simp)).trans HX0.out; have B2 := stepB (bel1 w _) hb2; clear hb2; obtain ⟨xl2, x0_2, x1_2, x2_2, x3_2, x4_2, xf2⟩ := box5 hx2) | (go_at_call 12; refine (Krs.out _ B2).mono ?_; rintro e w3 ⟨rfl, hb3⟩; have hx3 := (hb3.block w.heap.size xl2).trans hx2; have B3 := stepB B2 hb3; clear hb3; obtain ⟨xl3, x0_3, x1_3, x2_3, x3_3, x4_3, xf3⟩ := box5 hx3))
    all_goals (go_ret; exact ⟨rfl, B3⟩)
  by_cases hn7 : 7 < n
  · have hn7' : ¬ n ≤ 7 := by omega
    clear hso hS hk64
    go_enter Try.func9, Try.ntmps9
    go_wp2_with (first | (go_at_call 10; refine (Kst.out _).mono ?_; rintro e w2 ⟨rfl, hb2⟩; have hx2 := (hb2.block w.heap.size (by simp)).trans HX0.out; have B2 := stepB (bel1 w _) hb2; clear hb2; obtain ⟨xl2, x0_2, x1_2, x2_2, x3_2, x4_2, xf2⟩ := box5 hx2) | (go_at_call 12; refine (Krs.out _ B2).mono ?_; rintro e w3 ⟨rfl, hb3⟩; have hx3 := (hb3.block w.heap.size xl2).trans hx2; have B3 := stepB B2 hb3; clear hb3; obtain ⟨xl3, x0_3, x1_3, x2_3, x3_3, x4_3, xf3⟩ := box5 hx3))
    all_goals (go_ret; exact ⟨rfl, B3⟩)
  have hle := (sound_iff.1 hso).1
  have hlen := hS.1
  have hlen6 : len ≤ 6 := by omega
  have hr := (sound_iff.1 hso).2.1
  have HS := Lib.hid hS; have HSO := Lib.hid hso; have Hll := Lib.hid hlen; have HR := Lib.hid hr
  have HN := Lib.hid (show 0 ≤ n ∧ n < 8 ∧ t ≠ 0 ∧ t ≤ 6 from ⟨by omega, by omega, ht0, by omega⟩)
  obtain ⟨J, hJ, hJl⟩ := posmod2 d 6 (by omega)
  have htm := tmod_in2 d 6 (by omega)
  obtain ⟨r1, hr1⟩ : ∃ r1, d.tmod 6 = r1 := ⟨_, rfl⟩
  rw [hr1] at hJ htm
  obtain ⟨r2, hr2⟩ : ∃ r2, r1 + 6 = r2 := ⟨_, rfl⟩
  rw [hr2] at hJ
  have hw1 : IntKind.i64.wrap r1 = r1 := IntWalk.i64_in _ (by omega)
  have hw2 : IntKind.i64.wrap r2 = r2 := IntWalk.i64_in _ (by omega)
  have hw3 : IntKind.i64.wrap (J : Int) = (J : Int) := IntWalk.i64_in _ (by omega)
  have hw4 : IntKind.i64.wrap (r1 + 6) = r2 := by rw [hr2]; exact hw2
  obtain ⟨ty, hty, hty1⟩ := types_at J (by omega)
  have HTy := Lib.hid hty1
  have HJ := Lib.hid (And.intro hr1 (And.intro hr2 (And.intro hJ (And.intro hty (And.intro hw1 (And.intro hw2 (And.intro hw3 (And.intro hw4 hJl))))))))
  clear hso hS hk64 hle hlen hn64 hr htm hr1 hr2 hJ hty hw1 hw2 hw3 hw4 hty1 hJl hd64
  go_enter Try.func9, Try.ntmps9
  go_upto_region 5 with (first | (go_at_call 10; refine (Kst.out _).mono ?_; rintro e w2 ⟨rfl, hb2⟩; have hx2 := (hb2.block w.heap.size (by simp)).trans HX0.out; have B2 := stepB (bel1 w _) hb2; clear hb2; obtain ⟨xl2, x0_2, x1_2, x2_2, x3_2, x4_2, xf2⟩ := box5 hx2) | (go_at_call 12; refine (Krs.out _ B2).mono ?_; rintro e w3 ⟨rfl, hb3⟩; have hx3 := (hb3.block w.heap.size xl2).trans hx2; have B3 := stepB B2 hb3; clear hb3; obtain ⟨xl3, x0_3, x1_3, x2_3, x3_3, x4_3, xf3⟩ := box5 hx3))
  · go_ret; exact ⟨rfl, B3⟩
  · go_ret; exact ⟨rfl, B3⟩
  have HX3 := Lib.hid hx3; have HB3 := Lib.hid B3
  clear hx2 hx3 B2 B3 xl2 x0_2 x1_2 x2_2 x3_2 x4_2 xf2 HX0 Kst Krs
  go_wp2
  clear x0_3 x1_3 x2_3 x3_3 x4_3 xf3 hn0 hn7 ht0 htz ht6
  go_loopg [42, 7, 8, 10] len (fun m i a b _ wr => ∃ (k : Nat) (x y : Int), m = len - k ∧ k ≤ len ∧ i = .int .i64 k ∧ a = .int .u64 x ∧ b = .int .u64 y ∧ Below w3.heap.size w3 wr ∧ Hid (keyL (l.take k) n = x ∧ keyL (l.take k) h = y))
  case atStart => exact ⟨0, 0, 0, rfl, by omega, rfl, rfl, rfl, Below.refl _ _, Lib.hid ⟨rfl, rfl⟩⟩
  case round =>
    obtain ⟨k, x, y, rfl, hk, rfl, rfl, rfl, hb, hno⟩ := hrel
    have hxr := (hb.block w.heap.size xl3).trans HX3.out
    obtain ⟨xlr, x0_r, x1_r, x2_r, x3_r, x4_r, xfr⟩ := box5 hxr
    by_cases hlt : k < len
    · have hltz : (k : Int) < (len : Int) := by omega
      obtain ⟨q, hq⟩ : ∃ q, l[k]? = some q := ⟨_, List.getElem?_eq_getElem (by rw [Hll.out]; exact hlt)⟩
      rcases (HS.out.below (stepB HB3.out hb)).2.2.2 with h0 | ⟨b, o, rfl, hbN, hc⟩
      · rw [h0] at hq; simp at hq
      obtain ⟨c0, c1⟩ := hc k q hq
      have HB := Lib.hid hb
      have Hkt := Lib.hid (fun i => keyL_take HR.out hq i)
      clear hc hb hq hxr
      obtain ⟨q1, q2⟩ := q
      simp only at c0 c1 Hkt
      have hbl : w.heap.size < wr.heap.size := xlr
      by_cases hqn : q1 = n
      · have hb1 : (q1 == n) = true := by simpa using hqn
        by_cases hqh : q1 = h
        · have hb2 : (q1 == h) = true := by simpa using hqh
          have HQ := Lib.hid (And.intro hqn hqh)
          clear hqn hqh
          go_wp2
          go_roundg (len - (k + 1))
          case measure => omega
          case rel => exact ⟨k + 1, q2, q2, rfl, by omega, by go_num, rfl, rfl, HB.out.alloc HB.out.size _, Lib.hid ⟨by rw [Hkt.out, if_pos HQ.out.1.symm], by rw [Hkt.out, if_pos HQ.out.2.symm]⟩⟩
        · have hb2 : (q1 == h) = false := by simpa using hqh
          have HQ := Lib.hid (And.intro hqn hqh)
          clear hqn hqh
          go_wp2
          go_roundg (len - (k + 1))
          case measure => omega
          case rel => exact ⟨k + 1, q2, y, rfl, by omega, by go_num, rfl, rfl, HB.out.alloc HB.out.size _, Lib.hid ⟨by rw [Hkt.out, if_pos HQ.out.1.symm], by rw [Hkt.out, if_neg (fun e => HQ.out.2 e.symm)]; exact hno.out.2⟩⟩
      · have hb1 : (q1 == n) = false := by simpa using hqn
        by_cases hqh : q1 = h
        · have hb2 : (q1 == h) = true := by simpa using hqh
          have HQ := Lib.hid (And.intro hqn hqh)
          clear hqn hqh
          go_wp2
          go_roundg (len - (k + 1))
          case measure => omega
          case rel => exact ⟨k + 1, x, q2, rfl, by omega, by go_num, rfl, rfl, HB.out.alloc HB.out.size _, Lib.hid ⟨by rw [Hkt.out, if_neg (fun e => HQ.out.1 e.symm)]; exact hno.out.1, by rw [Hkt.out, if_pos HQ.out.2.symm]⟩⟩
        · have hb2 : (q1 == h) = false := by simpa using hqh
          have HQ := Lib.hid (And.intro hqn hqh)
          clear hqn hqh
          go_wp2
          go_roundg (len - (k + 1))
          case measure => omega
          case rel => exact ⟨k + 1, x, y, rfl, by omega, by go_num, rfl, rfl, HB.out.alloc HB.out.size _, Lib.hid ⟨by rw [Hkt.out, if_neg (fun e => HQ.out.1 e.symm)]; exact hno.out.1, by rw [Hkt.out, if_neg (fun e => HQ.out.2 e.symm)]; exact hno.out.2⟩⟩
    · obtain rfl : k = len := by omega
      have hltz : ¬ ((k : Int) < (k : Int)) := by omega
      have hno2 := hno.out
      rw [List.take_of_length_le (by rw [Hll.out]; exact Nat.le_refl _)] at hno2
      obtain ⟨rfl, rfl⟩ := hno2
      have hbr := stepB HB3.out hb
      obtain ⟨hr1, hr2, hJ, hty, hw1, hw2, hw3, hw4, hJl⟩ := HJ.out
      have HXr := Lib.hid hxr; have HBr := Lib.hid hbr
      clear hxr hbr hb hno HX3 HB3 xl3 HJ
      obtain ⟨x, Hx⟩ : ∃ x, Hid (keyL l n = x) := ⟨_, Lib.hid rfl⟩
      obtain ⟨y, Hy⟩ : ∃ y, Hid (keyL l h = y) := ⟨_, Lib.hid rfl⟩
      rw [Hx.out, Hy.out]
      have hJl' : J < 6 := by omega
      go_upto_region 15 with (fail)
      clear hr1 hr2 hJ hty hw1 hw2 hw3 hw4 hJl hJl'
      by_cases hx0 : x = 0
      · subst hx0
        have Ka : Hid (∀ W, Below w.heap.size w W → Calls Try.prog 13 #[.agg #[.int .u32 g, .slice A k cap, .int .i64 h, .int .i64 t, .bool p], .int .i64 n, .agg #[.int .i64 4, .int .i64 ty, .int .u64 0, .int .u64 y, .bool false]] W (AcP W n (⟨g, l, h, t, p⟩, 24, []))) :=
          Lib.hid fun W hb => actc (T := ⟨g, l, h, t, p⟩) (HS.out.below hb) HSO.out HN.out.1 HN.out.2.1 (act_take0 Hx.out y)
        go_upto_region 16 with (go_at_call 13; refine (Ka.out _ HBr.out).mono ?_; rintro e w8 ⟨A8, n8, c8, u8, rfl, ho8, hi8, hb8⟩)
        have hx8 := (hb8.block w.heap.size xlr).trans HXr.out
        have B8 := stepB HBr.out hb8
        obtain ⟨A8', c8', he8, hs8⟩ := ho8.sl
        obtain ⟨h1, h2, h3⟩ : A8 = A8' ∧ n8 = (l).length ∧ c8 = c8' := by injection he8 with h1 h2 h3; exact ⟨h1, h2, h3⟩
        rw [← h1, ← h2, ← h3] at hs8
        clear ho8 he8 h1 h2 h3 c8' A8' x0_r x1_r x2_r x3_r x4_r xfr HXr HBr Ka
        have hq9 := heap_alloc_new w8 (.cells #[.int .u32 g, .slice A8 n8 c8, .int .i64 h, .int .i64 t, .bool p] 25)
        have hb9 := bel1 w8 (.cells #[.int .u32 g, .slice A8 n8 c8, .int .i64 h, .int .i64 t, .bool p] 25)
        have hx9 := (hb9.block w.heap.size (by have := B8.size; have := hb8.size; omega)).trans hx8
        have B9 := stepB B8 hb9
        have hs9 := hs8.below hb9
        have hi9 := hi8.below hb9
        obtain ⟨q, Hq⟩ : ∃ q, Hid (w8.heap.size = q) := ⟨_, Lib.hid rfl⟩
        rw [Hq.out] at hq9
        generalize w8.alloc (.cells #[.int .u32 g, .slice A8 n8 c8, .int .i64 h, .int .i64 t, .bool p] 25) = w9 at hq9 hb9 hx9 B9 hs9 hi9 ⊢
        rw [Hq.out]
        have HX9 := Lib.hid hx9; have HB9 := Lib.hid B9; have HQ9 := Lib.hid hq9; have HS9 := Lib.hid hs9; have HI9 := Lib.hid hi9
        obtain ⟨xl9, x0_9, x1_9, x2_9, x3_9, x4_9, xf9⟩ := box5 hx9
        obtain ⟨ql9, q0_9, q1_9, q2_9, q3_9, q4_9, qf9⟩ := box5 hq9
        clear hq9 hx9 B9 hb9 hx8 B8 hb8 xlr Hq hs8 hs9 hi8 hi9
        have hsm := same_any ⟨g, l, h, t, p⟩ A A8 k n8 cap c8 w9 (by rw [Hll.out]; exact hlen6) (HS.out.below HB9.out) HS9.out
        have Hsm := Lib.hid hsm
        clear hsm
        go_wp2_with (go_at_call 16; refine Hsm.out.mono ?_; rintro e w14 ⟨rfl, hb14⟩)
        go_ret
        exact ⟨rfl, stepB HB9.out hb14⟩
      · have hxz : (x == 0) = false := by simpa using hx0
        obtain ⟨G, HG⟩ : ∃ G, Hid (nextG g = G) := ⟨_, Lib.hid rfl⟩
        obtain ⟨l2, Hl2⟩ : ∃ l2, Hid (leftOf (namedB true n y) l = l2) := ⟨_, Lib.hid rfl⟩
        obtain ⟨gn, Hgn⟩ : ∃ gn, Hid (goneOf (namedB true n y) l = gn) := ⟨_, Lib.hid rfl⟩
        have Ka : Hid (∀ W, Below w.heap.size w W → Calls Try.prog 13 #[.agg #[.int .u32 g, .slice A k cap, .int .i64 h, .int .i64 t, .bool p], .int .i64 n, .agg #[.int .i64 4, .int .i64 ty, .int .u64 x, .int .u64 y, .bool false]] W (AcP W n (⟨G, l2, n, ty, p⟩, 0, gn))) :=
          Lib.hid fun W hb => actc (T := ⟨g, l, h, t, p⟩) (HS.out.below hb) HSO.out HN.out.1 HN.out.2.1 (by
            rw [← HG.out, ← Hl2.out, ← Hgn.out, ← Hx.out, ← Hy.out]
            exact act_take HN.out.2.2.1 HN.out.2.2.2 (by rw [Hx.out]; exact hx0) HTy.out)
        have hl26 : l2.length ≤ 6 := by rw [← Hl2.out]; have := leftOf_le (namedB true n y) l; have := Hll.out; omega
        have Hl26 := Lib.hid hl26
        have Hmine : Hid (holdsB l2 n ty n = true) := Lib.hid (by rw [← Hl2.out]; exact take_mine HSO.out y (by rw [Hx.out]; exact hx0) HTy.out)
        have Hgone : Hid (∀ z ∈ keepN n gn, holdsB l2 n ty z = false ∧ barsB l2 n ty z 7 = true) := Lib.hid (by rw [← Hl2.out, ← Hgn.out]; exact fun z hz => take_gone HSO.out y HTy.out hz)
        clear hl26
        go_upto_region 16 with (go_at_call 13; refine (Ka.out _ HBr.out).mono ?_; rintro e w8 ⟨A8, n8, c8, u8, rfl, ho8, hi8, hb8⟩)
        have hx8 := (hb8.block w.heap.size xlr).trans HXr.out
        have B8 := stepB HBr.out hb8
        obtain ⟨A8', c8', he8, hs8⟩ := ho8.sl
        obtain ⟨h1, h2, h3⟩ : A8 = A8' ∧ n8 = (l2).length ∧ c8 = c8' := by injection he8 with h1 h2 h3; exact ⟨h1, h2, h3⟩
        rw [← h1, ← h2, ← h3] at hs8
        clear ho8 he8 h1 h2 h3 c8' A8' x0_r x1_r x2_r x3_r x4_r xfr HXr HBr Ka
        have hq9 := heap_alloc_new w8 (.cells #[.int .u32 G, .slice A8 n8 c8, .int .i64 n, .int .i64 ty, .bool p] 25)
        have hb9 := bel1 w8 (.cells #[.int .u32 G, .slice A8 n8 c8, .int .i64 n, .int .i64 ty, .bool p] 25)
        have hx9 := (hb9.block w.heap.size (by have := B8.size; have := hb8.size; omega)).trans hx8
        have B9 := stepB B8 hb9
        have hs9 := hs8.below hb9
        have hi9 := hi8.below hb9
        obtain ⟨q, Hq⟩ : ∃ q, Hid (w8.heap.size = q) := ⟨_, Lib.hid rfl⟩
        rw [Hq.out] at hq9
        generalize w8.alloc (.cells #[.int .u32 G, .slice A8 n8 c8, .int .i64 n, .int .i64 ty, .bool p] 25) = w9 at hq9 hb9 hx9 B9 hs9 hi9 ⊢
        rw [Hq.out]
        have HX9 := Lib.hid hx9; have HB9 := Lib.hid B9; have HQ9 := Lib.hid hq9; have HS9 := Lib.hid hs9; have HI9 := Lib.hid hi9
        obtain ⟨xl9, x0_9, x1_9, x2_9, x3_9, x4_9, xf9⟩ := box5 hx9
        obtain ⟨ql9, q0_9, q1_9, q2_9, q3_9, q4_9, qf9⟩ := box5 hq9
        clear hq9 hx9 B9 hb9 hx8 B8 hb8 xlr Hq hs8 hs9 hi8 hi9
        have hgk6 : (keepN n gn).length ≤ 6 := by rw [← Hgn.out]; have := keepN_le n (goneOf (namedB true n y) l); have := goneOf_le (namedB true n y) l; have := Hll.out; omega
        obtain ⟨gk', Hgk⟩ : ∃ gk', Hid (keepN n gn = gk') := ⟨_, Lib.hid rfl⟩
        have hi9 := HI9.out
        rw [show keepN n gn = gk' from Hgk.out] at hi9
        have hgone := Hgone.out
        rw [Hgk.out] at hgone
        obtain ⟨Au, cu, rfl, hRu⟩ := hi9.form
        obtain ⟨L, HL⟩ : ∃ L, Hid (gk'.length = L) := ⟨_, Lib.hid rfl⟩
        rw [HL.out]
        have hL6 : L ≤ 6 := by rw [← HL.out, ← Hgk.out]; exact hgk6
        clear hgk6
        have hn8 : n8 ≤ 6 := by have := HS9.out.1; have := Hl26.out; omega
        have Kh : Hid (∀ W z, Below w9.heap.size w9 W → Calls Try.prog 18 #[.agg #[.int .u32 G, .slice A8 n8 c8, .int .i64 n, .int .i64 ty, .bool p], .int .i64 z] W (Ret (.bool (holdsB l2 n ty z)) W)) :=
          Lib.hid fun W z hb => holds_any G n ty p A8 n8 c8 l2 W (HS9.out.below hb).1 (by omega) (HS9.out.below hb).2.2.2 z
        have Kb : Hid (∀ W z, Below w9.heap.size w9 W → Calls Try.prog 20 #[.agg #[.int .u32 G, .slice A8 n8 c8, .int .i64 n, .int .i64 ty, .bool p], .int .i64 z, .int .i64 7] W (Ret (.bool (barsB l2 n ty z 7)) W)) :=
          Lib.hid fun W z hb => bars_any G n ty p A8 n8 c8 l2 W (HS9.out.below hb).1 (by omega) (HS9.out.below hb).2.2.2 z 7
        have Khn : Hid (∀ W, Below w9.heap.size w9 W → Calls Try.prog 18 #[.agg #[.int .u32 G, .slice A8 n8 c8, .int .i64 n, .int .i64 ty, .bool p], .int .i64 n] W (Ret (.bool true) W)) :=
          Lib.hid fun W hb => by rw [← Hmine.out]; exact Kh.out W n hb
        have Kb0 : Hid (∀ W z, Calls Try.prog 20 #[.agg #[.int .u32 0, .slice none 0 0, .int .i64 (-1), .int .i64 0, .bool false], .int .i64 z, .int .i64 7] W (Ret (.bool false) W)) :=
          Lib.hid fun W z => by
            have := bars_any 0 (-1) 0 false none 0 0 [] W rfl (by omega) (.inl rfl) z 7
            have e : barsB [] (-1) 0 z 7 = false := by simp [barsB, resB]
            rwa [e] at this
        have Kn : Hid (∀ W, Calls Try.prog 22 #[] W (Ret (.agg #[.int .u32 0, .slice none 0 0, .int .i64 (-1), .int .i64 0, .bool false]) W)) := Lib.hid fun W => none_any W
        have HRu := Lib.hid hRu; have Hgo := Lib.hid hgone
        have hnn : (n != n) = false := by simp
        have htt : (ty != ty) = false := by simp
        clear hi9 hgone hRu Hgk HI9 Hgone Hmine Hl26
        go_upto_region 20 with (go_at_call 18; refine (Khn.out _ (Below.refl _ _)).mono ?_; rintro e w10 ⟨rfl, hb10⟩; have hq10 := (hb10.block q ql9).trans HQ9.out; obtain ⟨ql10, q0_10, q1_10, q2_10, q3_10, q4_10, qf10⟩ := box5 hq10)
        have hq10' := (hb10.block q ql9).trans HQ9.out
        have HB10 := Lib.hid hb10
        clear hb10 hq10 q0_10 q1_10 q2_10 q3_10 q4_10 qf10 ql10 hq10' q0_9 q1_9 q2_9 q3_9 q4_9 qf9 x0_9 x1_9 x2_9 x3_9 x4_9 xf9 Khn
        go_wp2
        go_loopg [108, 15] L (fun m i _ wr => ∃ j : Nat, m = L - j ∧ j ≤ L ∧ i = .int .i64 j ∧ Below w9.heap.size w9 wr)
        case atStart => exact ⟨0, by omega, by omega, rfl, HB10.out⟩
        case round =>
          obtain ⟨j, rfl, hj, rfl, hb⟩ := hrel
          by_cases hlj : j < L
          · have hljz : (j : Int) < (L : Int) := by omega
            obtain ⟨z, hz⟩ : ∃ z, gk'[j]? = some z := ⟨_, List.getElem?_eq_getElem (by rw [HL.out]; exact hlj)⟩
            rcases HRu.out.below hb with h0 | ⟨bu, ou, rfl, hbu, hcu⟩
            · rw [h0] at hz; simp at hz
            have cz := hcu j z hz
            obtain ⟨hz1, hz2⟩ := Hgo.out z (List.mem_of_getElem? hz)
            have Khz : Hid (∀ W, Below w9.heap.size w9 W → Calls Try.prog 18 #[.agg #[.int .u32 G, .slice A8 n8 c8, .int .i64 n, .int .i64 ty, .bool p], .int .i64 z] W (Ret (.bool false) W)) :=
              Lib.hid fun W hb => by rw [← hz1]; exact Kh.out W z hb
            have Kbz : Hid (∀ W, Below w9.heap.size w9 W → Calls Try.prog 20 #[.agg #[.int .u32 G, .slice A8 n8 c8, .int .i64 n, .int .i64 ty, .bool p], .int .i64 z, .int .i64 7] W (Ret (.bool true) W)) :=
              Lib.hid fun W hb => by rw [← hz2]; exact Kb.out W z hb
            have hqr := (hb.block q ql9).trans HQ9.out
            have HBr2 := Lib.hid hb
            have HQr := Lib.hid hqr
            obtain ⟨qlr, q0_r, q1_r, q2_r, q3_r, q4_r, qfr⟩ := box5 hqr
            clear hcu hz hz1 hz2 hb hqr
            go_upto_region 23 with (fail)
            go_wp2_with (first | (go_at_call 18; refine (Khz.out _ HBr2.out).mono ?_; rintro e y1 ⟨rfl, hy1⟩; have hq1 := (hy1.block q qlr).trans HQr.out; have hb1 := Lib.hid (stepB HBr2.out hy1); obtain ⟨ql1, a0, a1, a2, a3, a4, af⟩ := box5 hq1))
            refine (Kbz.out _ hb1.out).mono ?_; rintro e y2 ⟨rfl, hy2⟩; have hq2 := (hy2.block q ql1).trans hq1; have hb2 := Lib.hid (stepB hb1.out hy2); clear a0 a1 a2 a3 a4 af q0_r q1_r q2_r q3_r q4_r qfr; have qz2 := hy2.size
            go_wp2_with (go_at_call 22; refine (Kn.out _).mono ?_; rintro e y3 ⟨rfl, hy3⟩)
            have hq3 := (hy3.block q (by omega)).trans hq2; have hb3 := Lib.hid (stepB hb2.out hy3); have qz3 := hy3.size
            refine (Kb0.out _ _).mono ?_; rintro e y4 ⟨rfl, hy4⟩; have hq4 := (hy4.block q (by omega)).trans hq3; have hb4 := Lib.hid (stepB hb3.out hy4); obtain ⟨ql4, d0, d1, d2, d3, d4, df⟩ := box5 hq4
            go_wp2_with (fail)
            refine (Kbz.out _ hb4.out).mono ?_; rintro e y5 ⟨rfl, hy5⟩; have hb5 := Lib.hid (stepB hb4.out hy5)
            go_wp2_with (fail)
            go_roundg (L - (j + 1))
            case measure => omega
            case rel => exact ⟨j + 1, rfl, by omega, by go_num, hb5.out⟩
          · have hljz : ¬ ((j : Int) < (L : Int)) := by omega
            have HBe := Lib.hid (stepB HB9.out hb)
            clear hb
            go_wp2
            go_ret
            exact ⟨rfl, HBe.out⟩
end Go.Proofs.Ytkpogmigfjmacaa
