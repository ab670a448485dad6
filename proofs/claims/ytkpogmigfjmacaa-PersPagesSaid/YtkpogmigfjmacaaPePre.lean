/-
  pers: preempt.
-/
import Derived.Test.YtkpogmigfjmacaaPeReg
set_option linter.unusedSimpArgs false
set_option linter.unusedVariables false
namespace Go.Proofs.Ytkpogmigfjmacaa
open Go.RowKit

section
variable (T : Tb) (A : Option Addr) (len cap : Nat) (w : World)
set_option maxRecDepth 100000 in
set_option maxHeartbeats 8000000 in
theorem preempt_any (hS : SlR w A len cap T.l) (hm : len ≤ 6) (n a ty key other : Int) (ap : Bool) :
    Calls Try.prog 47 #[.agg #[.int .u32 T.g, .slice A len cap, .int .i64 T.h, .int .i64 T.t, .bool T.p], .int .i64 n, .agg #[.int .i64 a, .int .i64 ty, .int .u64 key, .int .u64 other, .bool ap]] w (ActP w A len cap T.l (preL T n ty other)) := by
  obtain ⟨g, l, h, t, p⟩ := T
  simp only at hS
  obtain ⟨R, HR⟩ : ∃ R, Hid (preL ⟨g, l, h, t, p⟩ n ty other = R) := ⟨_, Lib.hid rfl⟩
  rw [HR.out]
  have Kt : Hid (∀ W, Below w.heap.size w W → Calls Try.prog 57 #[.agg #[.int .u32 g, .slice A len cap, .int .i64 h, .int .i64 t, .bool p], .int .u64 other] W (Ret (.bool (takesB l h t other)) W)) :=
    Lib.hid fun W hb => takesBy_any g h t p A len cap l W hS.1 (by omega) (hS.below hb).2.2.2 other
  have Ky : Hid (∀ W, Calls Try.prog 25 #[.int .i64 ty] W (fun e w' => e = .returned (.bool (isTyB ty)) ∧ W = w')) := Lib.hid fun W => isType_any ty W
  have egc : ∀ args w, (callFunc 58 args).run Try.prog w = .ok (.enter 58 args) w := enters_of Try.func58 (by kernel_rfl) rfl
  obtain ⟨tk, Htk⟩ : ∃ x, Hid (takesB l h t other = x) := ⟨_, Lib.hid rfl⟩
  rw [Htk.out] at Kt
  have Kn : Hid (∀ W b1 b2 b3, W.cell? ⟨b1, 0, none⟩ = some (.bool tk) → W.cell? ⟨b2, 0, none⟩ = some (.int .i64 n) → W.cell? ⟨b3, 3, none⟩ = some (.int .u64 other) →
      ∀ W' q1 q2, Below W.heap.size W W' → Calls Try.prog 58 (#[.agg #[.int .i64 q1, .int .u64 q2]] ++ #[.pointer (some ⟨b1, 0, none⟩), .pointer (some ⟨b2, 0, none⟩), .pointer (some ⟨b3, 0, none⟩)]) W' (Ret (.bool (namedB tk n other (q1, q2))) W')) :=
    Lib.hid fun W b1 b2 b3 c1 c2 c3 W' q1 q2 hb' => cloPre_any q1 q2 n other tk b1 b2 b3 W' ((hb'.cell (p := ⟨b1, 0, none⟩) (World.block_lt_of_cell? W _ c1)).trans c1) ((hb'.cell (p := ⟨b2, 0, none⟩) (World.block_lt_of_cell? W _ c2)).trans c2) ((hb'.cell (p := ⟨b3, 3, none⟩) (World.block_lt_of_cell? W _ c3)).trans c3)
  have Kc : Hid (∀ W b1 b2 b3, Below w.heap.size w W → W.cell? ⟨b1, 0, none⟩ = some (.bool tk) → W.cell? ⟨b2, 0, none⟩ = some (.int .i64 n) → W.cell? ⟨b3, 3, none⟩ = some (.int .u64 other) →
      Calls Try.prog 59 #[.slice A len cap, .func (.func 58) #[] #[.pointer (some ⟨b1, 0, none⟩), .pointer (some ⟨b2, 0, none⟩), .pointer (some ⟨b3, 0, none⟩)]] W (Ret (.bool (l.any (namedB tk n other))) W)) :=
    Lib.hid fun W b1 b2 b3 hb c1 c2 c3 => contains_any A len cap l W hS.1 hm (hS.below hb).2.2.2 58 _ egc (namedB tk n other) (Kn.out W b1 b2 b3 c1 c2 c3)
  have Krm : Hid (∀ W b1 b2 b3, Below w.heap.size w W → W.cell? ⟨b1, 0, none⟩ = some (.bool tk) → W.cell? ⟨b2, 0, none⟩ = some (.int .i64 n) → W.cell? ⟨b3, 3, none⟩ = some (.int .u64 other) →
      Calls Try.prog 51 #[.agg #[.int .u32 g, .slice A len cap, .int .i64 h, .int .i64 t, .bool p], .func (.func 58) #[] #[.pointer (some ⟨b1, 0, none⟩), .pointer (some ⟨b2, 0, none⟩), .pointer (some ⟨b3, 0, none⟩)]] W
      (RemP W g (leftOf (namedB tk n other) l) (remH (leftOf (namedB tk n other) l) h t) (remT (leftOf (namedB tk n other) l) h t) p (goneOf (namedB tk n other) l))) :=
    Lib.hid fun W b1 b2 b3 hb c1 c2 c3 => remove_any g h t p A len cap l W hS.1 hm (hS.below hb).2.2.2 58 _ egc (namedB tk n other) (Kn.out W b1 b2 b3 c1 c2 c3)
  have HS := Lib.hid hS
  clear hS egc Kn
  obtain ⟨tb, Htb⟩ : ∃ x, Hid (isTyB ty = x) := ⟨_, Lib.hid rfl⟩
  rw [Htb.out] at Ky
  obtain ⟨an, Han⟩ : ∃ x, Hid (l.any (namedB tk n other) = x) := ⟨_, Lib.hid rfl⟩
  rw [Han.out] at Kc
  go_enter Try.func47, Try.ntmps47
  go_upto_region 1 with (fail)
  have hX := Bx.start w #[.int .u32 g, .slice A len cap, .int .i64 h, .int .i64 t, .bool p] #[.int .i64 n] #[.int .i64 a, .int .i64 ty, .int .u64 key, .int .u64 other, .bool ap] #[.int .u32 0, .slice none 0 0, .int .i64 0, .int .i64 0, .bool false]
  have hb0 := bel4 w (.cells #[.int .u32 g, .slice A len cap, .int .i64 h, .int .i64 t, .bool p] 25) (.cells #[.int .i64 n] 3) (.cells #[.int .i64 a, .int .i64 ty, .int .u64 key, .int .u64 other, .bool ap] 28) (.cells #[.int .u32 0, .slice none 0 0, .int .i64 0, .int .i64 0, .bool false] 25)
  try simp only [World.size_alloc]
  generalize (((w.alloc (.cells #[.int .u32 g, .slice A len cap, .int .i64 h, .int .i64 t, .bool p] 25)).alloc (.cells #[.int .i64 n] 3)).alloc (.cells #[.int .i64 a, .int .i64 ty, .int .u64 key, .int .u64 other, .bool ap] 28)).alloc (.cells #[.int .u32 0, .slice none 0 0, .int .i64 0, .int .i64 0, .bool false] 25) = w0 at hX hb0 ⊢
  obtain ⟨xl0, x0_0, x1_0, x2_0, x3_0, x4_0, xf0⟩ := box5 hX.1
  obtain ⟨nl0, n0_0, nf0⟩ := box1 hX.2.1
  obtain ⟨ol0, o0_0, o1_0, o2_0, o3_0, o4_0, of0⟩ := box5 hX.2.2.1
  obtain ⟨rl0, r0_0, r1_0, r2_0, r3_0, r4_0, rf0⟩ := box5 hX.2.2.2
  go_upto_region 2 with (go_at_call 57; refine (Kt.out _ hb0).mono ?_; rintro e w1 ⟨rfl, hb1⟩; have hX1 := hX.below hb1; have B1 := stepB hb0 hb1; clear hb1)
  have hX2 := hX1.below (bel1 w1 (.cells #[.bool tk] 4))
  have B2 := stepB B1 (bel1 w1 (.cells #[.bool tk] 4))
  have hq2 := heap_alloc_new w1 (.cells #[.bool tk] 4)
  have hqb : w.heap.size + 4 ≤ w1.heap.size := hX1.lt
  obtain ⟨q, Hq⟩ : ∃ q, Hid (w1.heap.size = q) := ⟨_, Lib.hid rfl⟩
  rw [Hq.out] at hq2 hqb
  generalize w1.alloc (.cells #[.bool tk] 4) = w2 at hX2 B2 hq2 ⊢
  rw [Hq.out]
  clear x0_0 x1_0 x2_0 x3_0 x4_0 xl0 xf0 nl0 n0_0 nf0 ol0 of0 o0_0 o1_0 o2_0 o3_0 o4_0 rl0 rf0 r0_0 r1_0 r2_0 r3_0 r4_0 hX hb0 hX1 B1 Hq
  obtain ⟨xl2, x0_2, x1_2, x2_2, x3_2, x4_2, xf2⟩ := box5 hX2.1
  obtain ⟨nl2, n0_2, nf2⟩ := box1 hX2.2.1
  obtain ⟨ol2, o0_2, o1_2, o2_2, o3_2, o4_2, of2⟩ := box5 hX2.2.2.1
  obtain ⟨rl2, r0_2, r1_2, r2_2, r3_2, r4_2, rf2⟩ := box5 hX2.2.2.2
  obtain ⟨ql2, q0_2, qf2⟩ := box1 hq2
  have HX2 := Lib.hid hX2
  have HQ2 := Lib.hid hq2
  have HB2 := Lib.hid B2
  clear hX2 B2 hq2
  cases tk with
  | true =>
    have H1 : Hid (¬ (other = 0 ∧ takesB l h t other = false)) := Lib.hid (fun hh => by rw [Htk.out] at hh; cases hh.2)
    have hox : ∀ b : Bool, (other == 0) = b → True := fun _ _ => trivial
    clear hox
    cases tb with
    | false =>
      cases ho0 : other == 0 with
      | true =>
        have e : R = (⟨g, l, h, t, p⟩, 2, []) := by rw [← HR.out, preL]; rw [if_neg H1.out, if_pos (show takesB l h t other = true ∧ isTyB ty = false from ⟨Htk.out, Htb.out⟩)]
        subst e
        clear HR 
        go_wp2_with (first | (go_at_call 25; refine (Ky.out _).mono ?_; rintro e w' ⟨rfl, rfl⟩) | (go_at_call 59; refine (Kc.out _ _ _ _ HB2.out q0_2 n0_2 o3_2).mono ?_; rintro e w3 ⟨rfl, hb3⟩; have hX3 := HX2.out.below hb3; have hq3 := (hb3.block q ql2).trans HQ2.out; have B3 := stepB HB2.out hb3; clear hb3; obtain ⟨xl3, x0_3, x1_3, x2_3, x3_3, x4_3, xf3⟩ := box5 hX3.1; obtain ⟨nl3, n0_3, nf3⟩ := box1 hX3.2.1; obtain ⟨ol3, o0_3, o1_3, o2_3, o3_3, o4_3, of3⟩ := box5 hX3.2.2.1; obtain ⟨rl3, r0_3, r1_3, r2_3, r3_3, r4_3, rf3⟩ := box5 hX3.2.2.2; obtain ⟨ql3, q0_3, qf3⟩ := box1 hq3; have HX3 := Lib.hid hX3; have HQ3 := Lib.hid hq3; have HB3 := Lib.hid B3; clear hX3 hq3 B3))
        exact bodyPost_ret (v := .tuple #[.agg #[.int .u32 (g), .slice A len cap, .int .i64 (h), .int .i64 (t), .bool p], .int .i64 2, .slice none 0 0]) (by simp [results, Try.results47, go_sem, r0_2, r1_2, r2_2, r3_2, r4_2, rl2, xl2]) rfl ⟨A, len, cap, _, rfl, (.inl ⟨rfl, rfl, rfl, rfl⟩), OwnI.nil _ _, set5B HB2.out (by omega) _ _ _ _ _⟩
      | false =>
        have e : R = (⟨g, l, h, t, p⟩, 2, []) := by rw [← HR.out, preL]; rw [if_neg H1.out, if_pos (show takesB l h t other = true ∧ isTyB ty = false from ⟨Htk.out, Htb.out⟩)]
        subst e
        clear HR 
        go_wp2_with (first | (go_at_call 25; refine (Ky.out _).mono ?_; rintro e w' ⟨rfl, rfl⟩) | (go_at_call 59; refine (Kc.out _ _ _ _ HB2.out q0_2 n0_2 o3_2).mono ?_; rintro e w3 ⟨rfl, hb3⟩; have hX3 := HX2.out.below hb3; have hq3 := (hb3.block q ql2).trans HQ2.out; have B3 := stepB HB2.out hb3; clear hb3; obtain ⟨xl3, x0_3, x1_3, x2_3, x3_3, x4_3, xf3⟩ := box5 hX3.1; obtain ⟨nl3, n0_3, nf3⟩ := box1 hX3.2.1; obtain ⟨ol3, o0_3, o1_3, o2_3, o3_3, o4_3, of3⟩ := box5 hX3.2.2.1; obtain ⟨rl3, r0_3, r1_3, r2_3, r3_3, r4_3, rf3⟩ := box5 hX3.2.2.2; obtain ⟨ql3, q0_3, qf3⟩ := box1 hq3; have HX3 := Lib.hid hX3; have HQ3 := Lib.hid hq3; have HB3 := Lib.hid B3; clear hX3 hq3 B3))
        exact bodyPost_ret (v := .tuple #[.agg #[.int .u32 (g), .slice A len cap, .int .i64 (h), .int .i64 (t), .bool p], .int .i64 2, .slice none 0 0]) (by simp [results, Try.results47, go_sem, r0_2, r1_2, r2_2, r3_2, r4_2, rl2, xl2]) rfl ⟨A, len, cap, _, rfl, (.inl ⟨rfl, rfl, rfl, rfl⟩), OwnI.nil _ _, set5B HB2.out (by omega) _ _ _ _ _⟩
    | true =>
      have H2 : Hid (¬ (takesB l h t other = true ∧ isTyB ty = false)) := Lib.hid (fun hh => by rw [Htb.out] at hh; cases hh.2)
      cases ho0 : other == 0 with
      | true =>
        have e : R = (⟨nextG g, leftOf (namedB true n other) l, n, ty, p⟩, 0, goneOf (namedB true n other) l) := by rw [← HR.out, preL]; rw [if_neg H1.out, if_neg (show ¬ (takesB l h t other = true ∧ isTyB ty = false) from H2.out), if_pos (show takesB l h t other = true from Htk.out)]; rfl
        subst e
        clear HR
        obtain ⟨l', Hl'⟩ : ∃ x, Hid (leftOf (namedB true n other) l = x) := ⟨_, Lib.hid rfl⟩
        rw [Hl'.out] at Krm
        obtain ⟨h', Hh'⟩ : ∃ x, Hid (remH l' h t = x) := ⟨_, Lib.hid rfl⟩
        rw [Hh'.out] at Krm
        obtain ⟨t', Ht'⟩ : ∃ x, Hid (remT l' h t = x) := ⟨_, Lib.hid rfl⟩
        rw [Ht'.out] at Krm
        obtain ⟨gn, Hgn⟩ : ∃ x, Hid (goneOf (namedB true n other) l = x) := ⟨_, Lib.hid rfl⟩
        rw [Hgn.out] at Krm
        obtain ⟨G, HG⟩ : ∃ G, Hid (nextG g = G) := ⟨_, Lib.hid rfl⟩
        have hw : IntKind.u32.wrap (g + 1) = G := HG.out
        go_upto_region 8 with (first | (go_at_call 25; refine (Ky.out _).mono ?_; rintro e w' ⟨rfl, rfl⟩) | fail | (go_at_call 51; refine (Krm.out _ _ _ _ HB2.out q0_2 n0_2 o3_2).mono ?_; rintro e w5 ⟨v, u, rfl, ho5, hi5, hb5⟩; obtain ⟨A2, c2, rfl, hs5⟩ := ho5.sl; have hX5 := HX2.out.below hb5; have hq5 := (hb5.block q ql2).trans HQ2.out; have B5 := stepB HB2.out hb5; clear hs5 hb5; obtain ⟨xl5, x0_5, x1_5, x2_5, x3_5, x4_5, xf5⟩ := box5 hX5.1))
        have hX6 := hX5.set5 (.int .u32 g) (.slice A2 l'.length c2) (.int .i64 h') (.int .i64 t') (.bool p)
        have hq6 := (set5_other (w := w5) (b := w.heap.size) (j := q) (by omega) (.int .u32 g) (.slice A2 l'.length c2) (.int .i64 h') (.int .i64 t') (.bool p)).trans hq5
        have B6 := set5B B5 (Nat.le_refl w.heap.size) (.int .u32 g) (.slice A2 l'.length c2) (.int .i64 h') (.int .i64 t') (.bool p)
        have ho6 := (ho5.lower (B' := w.heap.size + 4) (by omega)).set5 (b := w.heap.size) (by omega) (.int .u32 g) (.slice A2 l'.length c2) (.int .i64 h') (.int .i64 t') (.bool p)
        have hi6 := (hi5.lower (B' := w.heap.size + 4) (by omega)).set5 (b := w.heap.size) (by omega) (.int .u32 g) (.slice A2 l'.length c2) (.int .i64 h') (.int .i64 t') (.bool p)
        generalize ((((w5.setCell ⟨w.heap.size, 0, none⟩ (.int .u32 g)).setCell ⟨w.heap.size, 1, none⟩ (.slice A2 l'.length c2)).setCell ⟨w.heap.size, 2, none⟩ (.int .i64 h')).setCell ⟨w.heap.size, 3, none⟩ (.int .i64 t')).setCell ⟨w.heap.size, 4, none⟩ (.bool p) = w6 at hX6 hq6 B6 ho6 hi6 ⊢
        clear x0_2 x1_2 x2_2 x3_2 x4_2 xl2 xf2 nl2 n0_2 nf2 ol2 of2 o0_2 o1_2 o2_2 o3_2 o4_2 rl2 rf2 r0_2 r1_2 r2_2 r3_2 r4_2 ql2 q0_2 qf2  xl5 x0_5 x1_5 x2_5 x3_5 x4_5 xf5
        obtain ⟨xl6, x0_6, x1_6, x2_6, x3_6, x4_6, xf6⟩ := box5 hX6.1
        obtain ⟨nl6, n0_6, nf6⟩ := box1 hX6.2.1
        obtain ⟨ol6, o0_6, o1_6, o2_6, o3_6, o4_6, of6⟩ := box5 hX6.2.2.1
        obtain ⟨rl6, r0_6, r1_6, r2_6, r3_6, r4_6, rf6⟩ := box5 hX6.2.2.2
        obtain ⟨ql6, q0_6, qf6⟩ := box1 hq6
        have HO6 := Lib.hid ho6; have HI6 := Lib.hid hi6; have HB6 := Lib.hid B6; have HX6 := Lib.hid hX6
        clear ho6 hi6 B6 ho5 hi5 hX5 B5 hX6 hq6 hq5
        go_upto_region 10 with (go_at_call 54; refine (held_any g h' t' p A2 l'.length c2 _ n ty).mono ?_; rintro e w7 ⟨rfl, hb7⟩; have hX7 := HX6.out.below hb7; have B7 := stepB HB6.out hb7; have ho7 := HO6.out.below hb7; have hi7 := HI6.out.below hb7; clear hb7; obtain ⟨xl7, x0_7, x1_7, x2_7, x3_7, x4_7, xf7⟩ := box5 hX7.1)
        have hX8 := hX7.set5 (.int .u32 g) (.slice A2 l'.length c2) (.int .i64 n) (.int .i64 ty) (.bool p)
        have B8 := set5B B7 (Nat.le_refl w.heap.size) (.int .u32 g) (.slice A2 l'.length c2) (.int .i64 n) (.int .i64 ty) (.bool p)
        have ho8 := ho7.set5 (b := w.heap.size) (by omega) (.int .u32 g) (.slice A2 l'.length c2) (.int .i64 n) (.int .i64 ty) (.bool p)
        have hi8 := hi7.set5 (b := w.heap.size) (by omega) (.int .u32 g) (.slice A2 l'.length c2) (.int .i64 n) (.int .i64 ty) (.bool p)
        generalize ((((w7.setCell ⟨w.heap.size, 0, none⟩ (.int .u32 g)).setCell ⟨w.heap.size, 1, none⟩ (.slice A2 l'.length c2)).setCell ⟨w.heap.size, 2, none⟩ (.int .i64 n)).setCell ⟨w.heap.size, 3, none⟩ (.int .i64 ty)).setCell ⟨w.heap.size, 4, none⟩ (.bool p) = w8 at hX8 B8 ho8 hi8 ⊢
        clear x0_6 x1_6 x2_6 x3_6 x4_6 xl6 xf6 nl6 n0_6 nf6 ol6 of6 o0_6 o1_6 o2_6 o3_6 o4_6 rl6 rf6 r0_6 r1_6 r2_6 r3_6 r4_6 ql6 q0_6 qf6 xl7 x0_7 x1_7 x2_7 x3_7 x4_7 xf7
        obtain ⟨xl8, x0_8, x1_8, x2_8, x3_8, x4_8, xf8⟩ := box5 hX8.1
        obtain ⟨nl8, n0_8, nf8⟩ := box1 hX8.2.1
        obtain ⟨ol8, o0_8, o1_8, o2_8, o3_8, o4_8, of8⟩ := box5 hX8.2.2.1
        obtain ⟨rl8, r0_8, r1_8, r2_8, r3_8, r4_8, rf8⟩ := box5 hX8.2.2.2
        have HO8 := Lib.hid ho8; have HI8 := Lib.hid hi8; have HB8 := Lib.hid B8
        clear ho8 hi8 B8 ho7 hi7 hX7 B7 hX8
        go_wp2
        obtain rfl := HG.out
        obtain rfl := Hh'.out
        obtain rfl := Ht'.out
        obtain rfl := Hl'.out
        obtain rfl := Hgn.out
        have ho9 := (HO8.out.set (p := ⟨w.heap.size, 0, none⟩) (by show w.heap.size < _; omega) (.int .u32 (nextG g))).set5 (b := w.heap.size + 3) (by omega) (.int .u32 (nextG g)) (.slice A2 (leftOf (namedB true n other) l).length c2) (.int .i64 (n)) (.int .i64 (ty)) (.bool p)
        have hi9 := (HI8.out.set (p := ⟨w.heap.size, 0, none⟩) (by show w.heap.size < _; omega) (.int .u32 (nextG g))).set5 (b := w.heap.size + 3) (by omega) (.int .u32 (nextG g)) (.slice A2 (leftOf (namedB true n other) l).length c2) (.int .i64 (n)) (.int .i64 (ty)) (.bool p)
        exact bodyPost_ret (v := .tuple #[.agg #[.int .u32 (nextG g), .slice A2 (leftOf (namedB true n other) l).length c2, .int .i64 (n), .int .i64 (ty), .bool p], .int .i64 0, u]) (by simp [results, Try.results47, go_sem, r0_8, r1_8, r2_8, r3_8, r4_8, rl8, xl8]) rfl ⟨A2, _, c2, _, rfl, (.inr (ho9.lower (by omega))), hi9.lower (by omega), set5B (HB8.out.setCell (p := ⟨w.heap.size, 0, none⟩) (Nat.le_refl _) _) (by omega) _ _ _ _ _⟩
      | false =>
        have e : R = (⟨nextG g, leftOf (namedB true n other) l, n, ty, p⟩, 0, goneOf (namedB true n other) l) := by rw [← HR.out, preL]; rw [if_neg H1.out, if_neg (show ¬ (takesB l h t other = true ∧ isTyB ty = false) from H2.out), if_pos (show takesB l h t other = true from Htk.out)]; rfl
        subst e
        clear HR
        obtain ⟨l', Hl'⟩ : ∃ x, Hid (leftOf (namedB true n other) l = x) := ⟨_, Lib.hid rfl⟩
        rw [Hl'.out] at Krm
        obtain ⟨h', Hh'⟩ : ∃ x, Hid (remH l' h t = x) := ⟨_, Lib.hid rfl⟩
        rw [Hh'.out] at Krm
        obtain ⟨t', Ht'⟩ : ∃ x, Hid (remT l' h t = x) := ⟨_, Lib.hid rfl⟩
        rw [Ht'.out] at Krm
        obtain ⟨gn, Hgn⟩ : ∃ x, Hid (goneOf (namedB true n other) l = x) := ⟨_, Lib.hid rfl⟩
        rw [Hgn.out] at Krm
        obtain ⟨G, HG⟩ : ∃ G, Hid (nextG g = G) := ⟨_, Lib.hid rfl⟩
        have hw : IntKind.u32.wrap (g + 1) = G := HG.out
        go_upto_region 8 with (first | (go_at_call 25; refine (Ky.out _).mono ?_; rintro e w' ⟨rfl, rfl⟩) | fail | (go_at_call 51; refine (Krm.out _ _ _ _ HB2.out q0_2 n0_2 o3_2).mono ?_; rintro e w5 ⟨v, u, rfl, ho5, hi5, hb5⟩; obtain ⟨A2, c2, rfl, hs5⟩ := ho5.sl; have hX5 := HX2.out.below hb5; have hq5 := (hb5.block q ql2).trans HQ2.out; have B5 := stepB HB2.out hb5; clear hs5 hb5; obtain ⟨xl5, x0_5, x1_5, x2_5, x3_5, x4_5, xf5⟩ := box5 hX5.1))
        have hX6 := hX5.set5 (.int .u32 g) (.slice A2 l'.length c2) (.int .i64 h') (.int .i64 t') (.bool p)
        have hq6 := (set5_other (w := w5) (b := w.heap.size) (j := q) (by omega) (.int .u32 g) (.slice A2 l'.length c2) (.int .i64 h') (.int .i64 t') (.bool p)).trans hq5
        have B6 := set5B B5 (Nat.le_refl w.heap.size) (.int .u32 g) (.slice A2 l'.length c2) (.int .i64 h') (.int .i64 t') (.bool p)
        have ho6 := (ho5.lower (B' := w.heap.size + 4) (by omega)).set5 (b := w.heap.size) (by omega) (.int .u32 g) (.slice A2 l'.length c2) (.int .i64 h') (.int .i64 t') (.bool p)
        have hi6 := (hi5.lower (B' := w.heap.size + 4) (by omega)).set5 (b := w.heap.size) (by omega) (.int .u32 g) (.slice A2 l'.length c2) (.int .i64 h') (.int .i64 t') (.bool p)
        generalize ((((w5.setCell ⟨w.heap.size, 0, none⟩ (.int .u32 g)).setCell ⟨w.heap.size, 1, none⟩ (.slice A2 l'.length c2)).setCell ⟨w.heap.size, 2, none⟩ (.int .i64 h')).setCell ⟨w.heap.size, 3, none⟩ (.int .i64 t')).setCell ⟨w.heap.size, 4, none⟩ (.bool p) = w6 at hX6 hq6 B6 ho6 hi6 ⊢
        clear x0_2 x1_2 x2_2 x3_2 x4_2 xl2 xf2 nl2 n0_2 nf2 ol2 of2 o0_2 o1_2 o2_2 o3_2 o4_2 rl2 rf2 r0_2 r1_2 r2_2 r3_2 r4_2 ql2 q0_2 qf2  xl5 x0_5 x1_5 x2_5 x3_5 x4_5 xf5
        obtain ⟨xl6, x0_6, x1_6, x2_6, x3_6, x4_6, xf6⟩ := box5 hX6.1
        obtain ⟨nl6, n0_6, nf6⟩ := box1 hX6.2.1
        obtain ⟨ol6, o0_6, o1_6, o2_6, o3_6, o4_6, of6⟩ := box5 hX6.2.2.1
        obtain ⟨rl6, r0_6, r1_6, r2_6, r3_6, r4_6, rf6⟩ := box5 hX6.2.2.2
        obtain ⟨ql6, q0_6, qf6⟩ := box1 hq6
        have HO6 := Lib.hid ho6; have HI6 := Lib.hid hi6; have HB6 := Lib.hid B6; have HX6 := Lib.hid hX6
        clear ho6 hi6 B6 ho5 hi5 hX5 B5 hX6 hq6 hq5
        go_upto_region 10 with (go_at_call 54; refine (held_any g h' t' p A2 l'.length c2 _ n ty).mono ?_; rintro e w7 ⟨rfl, hb7⟩; have hX7 := HX6.out.below hb7; have B7 := stepB HB6.out hb7; have ho7 := HO6.out.below hb7; have hi7 := HI6.out.below hb7; clear hb7; obtain ⟨xl7, x0_7, x1_7, x2_7, x3_7, x4_7, xf7⟩ := box5 hX7.1)
        have hX8 := hX7.set5 (.int .u32 g) (.slice A2 l'.length c2) (.int .i64 n) (.int .i64 ty) (.bool p)
        have B8 := set5B B7 (Nat.le_refl w.heap.size) (.int .u32 g) (.slice A2 l'.length c2) (.int .i64 n) (.int .i64 ty) (.bool p)
        have ho8 := ho7.set5 (b := w.heap.size) (by omega) (.int .u32 g) (.slice A2 l'.length c2) (.int .i64 n) (.int .i64 ty) (.bool p)
        have hi8 := hi7.set5 (b := w.heap.size) (by omega) (.int .u32 g) (.slice A2 l'.length c2) (.int .i64 n) (.int .i64 ty) (.bool p)
        generalize ((((w7.setCell ⟨w.heap.size, 0, none⟩ (.int .u32 g)).setCell ⟨w.heap.size, 1, none⟩ (.slice A2 l'.length c2)).setCell ⟨w.heap.size, 2, none⟩ (.int .i64 n)).setCell ⟨w.heap.size, 3, none⟩ (.int .i64 ty)).setCell ⟨w.heap.size, 4, none⟩ (.bool p) = w8 at hX8 B8 ho8 hi8 ⊢
        clear x0_6 x1_6 x2_6 x3_6 x4_6 xl6 xf6 nl6 n0_6 nf6 ol6 of6 o0_6 o1_6 o2_6 o3_6 o4_6 rl6 rf6 r0_6 r1_6 r2_6 r3_6 r4_6 ql6 q0_6 qf6 xl7 x0_7 x1_7 x2_7 x3_7 x4_7 xf7
        obtain ⟨xl8, x0_8, x1_8, x2_8, x3_8, x4_8, xf8⟩ := box5 hX8.1
        obtain ⟨nl8, n0_8, nf8⟩ := box1 hX8.2.1
        obtain ⟨ol8, o0_8, o1_8, o2_8, o3_8, o4_8, of8⟩ := box5 hX8.2.2.1
        obtain ⟨rl8, r0_8, r1_8, r2_8, r3_8, r4_8, rf8⟩ := box5 hX8.2.2.2
        have HO8 := Lib.hid ho8; have HI8 := Lib.hid hi8; have HB8 := Lib.hid B8
        clear ho8 hi8 B8 ho7 hi7 hX7 B7 hX8
        go_wp2
        obtain rfl := HG.out
        obtain rfl := Hh'.out
        obtain rfl := Ht'.out
        obtain rfl := Hl'.out
        obtain rfl := Hgn.out
        have ho9 := (HO8.out.set (p := ⟨w.heap.size, 0, none⟩) (by show w.heap.size < _; omega) (.int .u32 (nextG g))).set5 (b := w.heap.size + 3) (by omega) (.int .u32 (nextG g)) (.slice A2 (leftOf (namedB true n other) l).length c2) (.int .i64 (n)) (.int .i64 (ty)) (.bool p)
        have hi9 := (HI8.out.set (p := ⟨w.heap.size, 0, none⟩) (by show w.heap.size < _; omega) (.int .u32 (nextG g))).set5 (b := w.heap.size + 3) (by omega) (.int .u32 (nextG g)) (.slice A2 (leftOf (namedB true n other) l).length c2) (.int .i64 (n)) (.int .i64 (ty)) (.bool p)
        exact bodyPost_ret (v := .tuple #[.agg #[.int .u32 (nextG g), .slice A2 (leftOf (namedB true n other) l).length c2, .int .i64 (n), .int .i64 (ty), .bool p], .int .i64 0, u]) (by simp [results, Try.results47, go_sem, r0_8, r1_8, r2_8, r3_8, r4_8, rl8, xl8]) rfl ⟨A2, _, c2, _, rfl, (.inr (ho9.lower (by omega))), hi9.lower (by omega), set5B (HB8.out.setCell (p := ⟨w.heap.size, 0, none⟩) (Nat.le_refl _) _) (by omega) _ _ _ _ _⟩
  | false =>
    have H2 : Hid (¬ (takesB l h t other = true ∧ isTyB ty = false)) := Lib.hid (fun hh => by rw [Htk.out] at hh; cases hh.1)
    have H3 : Hid (¬ takesB l h t other = true) := Lib.hid (by rw [Htk.out]; simp)
    by_cases ho : other = 0
    · have ho0 : (other == 0) = true := by simpa using ho
      have e : R = (⟨g, l, h, t, p⟩, 2, []) := by rw [← HR.out, preL]; rw [if_pos (show other = 0 ∧ takesB l h t other = false from ⟨ho, Htk.out⟩)]
      subst e
      clear HR ho
      go_wp2_with (first | (go_at_call 25; refine (Ky.out _).mono ?_; rintro e w' ⟨rfl, rfl⟩) | (go_at_call 59; refine (Kc.out _ _ _ _ HB2.out q0_2 n0_2 o3_2).mono ?_; rintro e w3 ⟨rfl, hb3⟩; have hX3 := HX2.out.below hb3; have hq3 := (hb3.block q ql2).trans HQ2.out; have B3 := stepB HB2.out hb3; clear hb3; obtain ⟨xl3, x0_3, x1_3, x2_3, x3_3, x4_3, xf3⟩ := box5 hX3.1; obtain ⟨nl3, n0_3, nf3⟩ := box1 hX3.2.1; obtain ⟨ol3, o0_3, o1_3, o2_3, o3_3, o4_3, of3⟩ := box5 hX3.2.2.1; obtain ⟨rl3, r0_3, r1_3, r2_3, r3_3, r4_3, rf3⟩ := box5 hX3.2.2.2; obtain ⟨ql3, q0_3, qf3⟩ := box1 hq3; have HX3 := Lib.hid hX3; have HQ3 := Lib.hid hq3; have HB3 := Lib.hid B3; clear hX3 hq3 B3))
      exact bodyPost_ret (v := .tuple #[.agg #[.int .u32 (g), .slice A len cap, .int .i64 (h), .int .i64 (t), .bool p], .int .i64 2, .slice none 0 0]) (by simp [results, Try.results47, go_sem, r0_2, r1_2, r2_2, r3_2, r4_2, rl2, xl2]) rfl ⟨A, len, cap, _, rfl, (.inl ⟨rfl, rfl, rfl, rfl⟩), OwnI.nil _ _, set5B HB2.out (by omega) _ _ _ _ _⟩
    · have ho0 : (other == 0) = false := by simpa using ho
      have H1 : Hid (¬ (other = 0 ∧ takesB l h t other = false)) := Lib.hid (fun hh => ho hh.1)
      clear ho
      cases an with
      | false =>
        have e : R = (⟨g, l, h, t, p⟩, 24, []) := by rw [← HR.out, preL]; rw [if_neg H1.out, if_neg (show ¬ (takesB l h t other = true ∧ isTyB ty = false) from H2.out), if_neg (show ¬ takesB l h t other = true from H3.out), if_pos (show l.any (namedB false n other) = false from Han.out)]
        subst e
        clear HR 
        go_wp2_with (first | (go_at_call 25; refine (Ky.out _).mono ?_; rintro e w' ⟨rfl, rfl⟩) | (go_at_call 59; refine (Kc.out _ _ _ _ HB2.out q0_2 n0_2 o3_2).mono ?_; rintro e w3 ⟨rfl, hb3⟩; have hX3 := HX2.out.below hb3; have hq3 := (hb3.block q ql2).trans HQ2.out; have B3 := stepB HB2.out hb3; clear hb3; obtain ⟨xl3, x0_3, x1_3, x2_3, x3_3, x4_3, xf3⟩ := box5 hX3.1; obtain ⟨nl3, n0_3, nf3⟩ := box1 hX3.2.1; obtain ⟨ol3, o0_3, o1_3, o2_3, o3_3, o4_3, of3⟩ := box5 hX3.2.2.1; obtain ⟨rl3, r0_3, r1_3, r2_3, r3_3, r4_3, rf3⟩ := box5 hX3.2.2.2; obtain ⟨ql3, q0_3, qf3⟩ := box1 hq3; have HX3 := Lib.hid hX3; have HQ3 := Lib.hid hq3; have HB3 := Lib.hid B3; clear hX3 hq3 B3))
        exact bodyPost_ret (v := .tuple #[.agg #[.int .u32 (g), .slice A len cap, .int .i64 (h), .int .i64 (t), .bool p], .int .i64 24, .slice none 0 0]) (by simp [results, Try.results47, go_sem, r0_3, r1_3, r2_3, r3_3, r4_3, rl3, xl3]) rfl ⟨A, len, cap, _, rfl, (.inl ⟨rfl, rfl, rfl, rfl⟩), OwnI.nil _ _, set5B HB3.out (by omega) _ _ _ _ _⟩
      | true =>
        have e : R = (⟨nextG g, leftOf (namedB false n other) l, remH (leftOf (namedB false n other) l) h t, remT (leftOf (namedB false n other) l) h t, p⟩, 0, goneOf (namedB false n other) l) := by rw [← HR.out, preL]; rw [if_neg H1.out, if_neg (show ¬ (takesB l h t other = true ∧ isTyB ty = false) from H2.out), if_neg (show ¬ takesB l h t other = true from H3.out), if_neg (show ¬ l.any (namedB false n other) = false by rw [Han.out]; simp)]; rfl
        subst e
        clear HR
        obtain ⟨l', Hl'⟩ : ∃ x, Hid (leftOf (namedB false n other) l = x) := ⟨_, Lib.hid rfl⟩
        rw [Hl'.out] at Krm
        obtain ⟨h', Hh'⟩ : ∃ x, Hid (remH l' h t = x) := ⟨_, Lib.hid rfl⟩
        rw [Hh'.out] at Krm
        obtain ⟨t', Ht'⟩ : ∃ x, Hid (remT l' h t = x) := ⟨_, Lib.hid rfl⟩
        rw [Ht'.out] at Krm
        obtain ⟨gn, Hgn⟩ : ∃ x, Hid (goneOf (namedB false n other) l = x) := ⟨_, Lib.hid rfl⟩
        rw [Hgn.out] at Krm
        obtain ⟨G, HG⟩ : ∃ G, Hid (nextG g = G) := ⟨_, Lib.hid rfl⟩
        have hw : IntKind.u32.wrap (g + 1) = G := HG.out
        go_upto_region 8 with (first | (go_at_call 25; refine (Ky.out _).mono ?_; rintro e w' ⟨rfl, rfl⟩) | (go_at_call 59; refine (Kc.out _ _ _ _ HB2.out q0_2 n0_2 o3_2).mono ?_; rintro e w3 ⟨rfl, hb3⟩; have hX3 := HX2.out.below hb3; have hq3 := (hb3.block q ql2).trans HQ2.out; have B3 := stepB HB2.out hb3; clear hb3; obtain ⟨xl3, x0_3, x1_3, x2_3, x3_3, x4_3, xf3⟩ := box5 hX3.1; obtain ⟨nl3, n0_3, nf3⟩ := box1 hX3.2.1; obtain ⟨ol3, o0_3, o1_3, o2_3, o3_3, o4_3, of3⟩ := box5 hX3.2.2.1; obtain ⟨rl3, r0_3, r1_3, r2_3, r3_3, r4_3, rf3⟩ := box5 hX3.2.2.2; obtain ⟨ql3, q0_3, qf3⟩ := box1 hq3; have HX3 := Lib.hid hX3; have HQ3 := Lib.hid hq3; have HB3 := Lib.hid B3; clear hX3 hq3 B3) | (go_at_call 51; refine (Krm.out _ _ _ _ HB3.out q0_3 n0_3 o3_3).mono ?_; rintro e w5 ⟨v, u, rfl, ho5, hi5, hb5⟩; obtain ⟨A2, c2, rfl, hs5⟩ := ho5.sl; have hX5 := HX3.out.below hb5; have hq5 := (hb5.block q ql3).trans HQ3.out; have B5 := stepB HB3.out hb5; clear hs5 hb5; obtain ⟨xl5, x0_5, x1_5, x2_5, x3_5, x4_5, xf5⟩ := box5 hX5.1))
        have hX6 := hX5.set5 (.int .u32 g) (.slice A2 l'.length c2) (.int .i64 h') (.int .i64 t') (.bool p)
        have hq6 := (set5_other (w := w5) (b := w.heap.size) (j := q) (by omega) (.int .u32 g) (.slice A2 l'.length c2) (.int .i64 h') (.int .i64 t') (.bool p)).trans hq5
        have B6 := set5B B5 (Nat.le_refl w.heap.size) (.int .u32 g) (.slice A2 l'.length c2) (.int .i64 h') (.int .i64 t') (.bool p)
        have ho6 := (ho5.lower (B' := w.heap.size + 4) (by omega)).set5 (b := w.heap.size) (by omega) (.int .u32 g) (.slice A2 l'.length c2) (.int .i64 h') (.int .i64 t') (.bool p)
        have hi6 := (hi5.lower (B' := w.heap.size + 4) (by omega)).set5 (b := w.heap.size) (by omega) (.int .u32 g) (.slice A2 l'.length c2) (.int .i64 h') (.int .i64 t') (.bool p)
        generalize ((((w5.setCell ⟨w.heap.size, 0, none⟩ (.int .u32 g)).setCell ⟨w.heap.size, 1, none⟩ (.slice A2 l'.length c2)).setCell ⟨w.heap.size, 2, none⟩ (.int .i64 h')).setCell ⟨w.heap.size, 3, none⟩ (.int .i64 t')).setCell ⟨w.heap.size, 4, none⟩ (.bool p) = w6 at hX6 hq6 B6 ho6 hi6 ⊢
        clear x0_2 x1_2 x2_2 x3_2 x4_2 xl2 xf2 nl2 n0_2 nf2 ol2 of2 o0_2 o1_2 o2_2 o3_2 o4_2 rl2 rf2 r0_2 r1_2 r2_2 r3_2 r4_2 ql2 q0_2 qf2 x0_3 x1_3 x2_3 x3_3 x4_3 xl3 xf3 nl3 n0_3 nf3 ol3 of3 o0_3 o1_3 o2_3 o3_3 o4_3 rl3 rf3 r0_3 r1_3 r2_3 r3_3 r4_3 ql3 q0_3 qf3  xl5 x0_5 x1_5 x2_5 x3_5 x4_5 xf5
        obtain ⟨xl6, x0_6, x1_6, x2_6, x3_6, x4_6, xf6⟩ := box5 hX6.1
        obtain ⟨nl6, n0_6, nf6⟩ := box1 hX6.2.1
        obtain ⟨ol6, o0_6, o1_6, o2_6, o3_6, o4_6, of6⟩ := box5 hX6.2.2.1
        obtain ⟨rl6, r0_6, r1_6, r2_6, r3_6, r4_6, rf6⟩ := box5 hX6.2.2.2
        obtain ⟨ql6, q0_6, qf6⟩ := box1 hq6
        have HO6 := Lib.hid ho6; have HI6 := Lib.hid hi6; have HB6 := Lib.hid B6; have HX6 := Lib.hid hX6
        clear ho6 hi6 B6 ho5 hi5 hX5 B5 hX6 hq6 hq5
        go_wp2
        obtain rfl := HG.out
        obtain rfl := Hh'.out
        obtain rfl := Ht'.out
        obtain rfl := Hl'.out
        obtain rfl := Hgn.out
        have ho9 := (HO6.out.set (p := ⟨w.heap.size, 0, none⟩) (by show w.heap.size < _; omega) (.int .u32 (nextG g))).set5 (b := w.heap.size + 3) (by omega) (.int .u32 (nextG g)) (.slice A2 (leftOf (namedB false n other) l).length c2) (.int .i64 (remH (leftOf (namedB false n other) l) h t)) (.int .i64 (remT (leftOf (namedB false n other) l) h t)) (.bool p)
        have hi9 := (HI6.out.set (p := ⟨w.heap.size, 0, none⟩) (by show w.heap.size < _; omega) (.int .u32 (nextG g))).set5 (b := w.heap.size + 3) (by omega) (.int .u32 (nextG g)) (.slice A2 (leftOf (namedB false n other) l).length c2) (.int .i64 (remH (leftOf (namedB false n other) l) h t)) (.int .i64 (remT (leftOf (namedB false n other) l) h t)) (.bool p)
        exact bodyPost_ret (v := .tuple #[.agg #[.int .u32 (nextG g), .slice A2 (leftOf (namedB false n other) l).length c2, .int .i64 (remH (leftOf (namedB false n other) l) h t), .int .i64 (remT (leftOf (namedB false n other) l) h t), .bool p], .int .i64 0, u]) (by simp [results, Try.results47, go_sem, r0_6, r1_6, r2_6, r3_6, r4_6, rl6, xl6]) rfl ⟨A2, _, c2, _, rfl, (.inr (ho9.lower (by omega))), hi9.lower (by omega), set5B (HB6.out.setCell (p := ⟨w.heap.size, 0, none⟩) (Nat.le_refl _) _) (by omega) _ _ _ _ _⟩
end
end Go.Proofs.Ytkpogmigfjmacaa
