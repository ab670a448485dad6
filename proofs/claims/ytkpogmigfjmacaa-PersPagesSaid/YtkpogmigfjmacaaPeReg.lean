/-
  pers: register.
-/
import Derived.Test.YtkpogmigfjmacaaPeOrd1
set_option linter.unusedSimpArgs false
set_option linter.unusedVariables false
namespace Go.Proofs.Ytkpogmigfjmacaa
open Go.RowKit

section
variable (T : Tb) (A : Option Addr) (len cap : Nat) (w : World)
set_option maxRecDepth 100000 in
set_option maxHeartbeats 8000000 in
theorem register_any (hS : SlR w A len cap T.l) (hm : len ≤ 6) (n a ty key other : Int) (ap : Bool) :
    Calls Try.prog 43 #[.agg #[.int .u32 T.g, .slice A len cap, .int .i64 T.h, .int .i64 T.t, .bool T.p], .int .i64 n, .agg #[.int .i64 a, .int .i64 ty, .int .u64 key, .int .u64 other, .bool ap]] w (ActP w A len cap T.l (regL T n a key other ap)) := by
  obtain ⟨g, l, h, t, p⟩ := T
  simp only at hS
  obtain ⟨R, HR⟩ : ∃ R, Hid (regL ⟨g, l, h, t, p⟩ n a key other ap = R) := ⟨_, Lib.hid rfl⟩
  rw [HR.out]
  have hlen : l.length = len := hS.1
  have Kk : Hid (∀ W, Below w.heap.size w W → Calls Try.prog 42 #[.agg #[.int .u32 g, .slice A len cap, .int .i64 h, .int .i64 t, .bool p], .int .i64 n] W (Ret (.int .u64 (keyL l n)) W)) :=
    Lib.hid fun W hb => key_any g h t p A len cap l n W hS.1 (by omega) (hS.below hb).2.2.2
  have Kw : Hid (∀ W, Below w.heap.size w W → Calls Try.prog 53 #[.slice A len cap, .agg #[.int .i64 n, .int .u64 other]] W (CloneP W (withL l n other))) :=
    Lib.hid fun W hb => with_any A len cap l n other W (hS.below hb) hm
  have egc : ∀ args w, (callFunc 52 args).run Try.prog w = .ok (.enter 52 args) w := enters_of Try.func52 (by kernel_rfl) rfl
  have Krm : Hid (∀ W b, Below w.heap.size w W → W.cell? ⟨b, 0, none⟩ = some (.int .i64 n) → Calls Try.prog 51 #[.agg #[.int .u32 g, .slice A len cap, .int .i64 h, .int .i64 t, .bool p], .func (.func 52) #[] #[.pointer (some ⟨b, 0, none⟩)]] W
      (RemP W g (leftOf (isN n) l) (remH (leftOf (isN n) l) h t) (remT (leftOf (isN n) l) h t) p (goneOf (isN n) l))) :=
    Lib.hid fun W b hb hc => remove_any g h t p A len cap l W hS.1 hm (hS.below hb).2.2.2 52 #[.pointer (some ⟨b, 0, none⟩)] egc (isN n)
      (fun W' q1 q2 hb' => cloReg_any q1 q2 n b W' ((hb'.cell (p := ⟨b, 0, none⟩) (World.block_lt_of_cell? W _ hc)).trans hc))
  have HS := Lib.hid hS
  have Hlen := Lib.hid hlen
  clear hS egc hlen
  obtain ⟨own, Hown⟩ : ∃ own, Hid (keyL l n = own) := ⟨_, Lib.hid rfl⟩
  rw [Hown.out] at Kk
  go_enter Try.func43, Try.ntmps43
  go_upto_region 1 with (fail)
  have hX := Bx.start w #[.int .u32 g, .slice A len cap, .int .i64 h, .int .i64 t, .bool p] #[.int .i64 n] #[.int .i64 a, .int .i64 ty, .int .u64 key, .int .u64 other, .bool ap] #[.int .u32 0, .slice none 0 0, .int .i64 0, .int .i64 0, .bool false]
  have hb0 := bel4 w (.cells #[.int .u32 g, .slice A len cap, .int .i64 h, .int .i64 t, .bool p] 25) (.cells #[.int .i64 n] 3) (.cells #[.int .i64 a, .int .i64 ty, .int .u64 key, .int .u64 other, .bool ap] 28) (.cells #[.int .u32 0, .slice none 0 0, .int .i64 0, .int .i64 0, .bool false] 25)
  try simp only [World.size_alloc]
  generalize (((w.alloc (.cells #[.int .u32 g, .slice A len cap, .int .i64 h, .int .i64 t, .bool p] 25)).alloc (.cells #[.int .i64 n] 3)).alloc (.cells #[.int .i64 a, .int .i64 ty, .int .u64 key, .int .u64 other, .bool ap] 28)).alloc (.cells #[.int .u32 0, .slice none 0 0, .int .i64 0, .int .i64 0, .bool false] 25) = w0 at hX hb0 ⊢
  obtain ⟨xl0, x0_0, x1_0, x2_0, x3_0, x4_0, xf0⟩ := box5 hX.1
  obtain ⟨nl0, n0_0, nf0⟩ := box1 hX.2.1
  obtain ⟨ol0, o0_0, o1_0, o2_0, o3_0, o4_0, of0⟩ := box5 hX.2.2.1
  obtain ⟨rl0, r0_0, r1_0, r2_0, r3_0, r4_0, rf0⟩ := box5 hX.2.2.2
  go_upto_region 2 with (go_at_call 42; refine (Kk.out _ hb0).mono ?_; rintro e w2 ⟨rfl, hb2⟩; have hX2 := hX.below hb2; have B2 := stepB hb0 hb2; clear hb2)
  clear x0_0 x1_0 x2_0 x3_0 x4_0 xl0 xf0 nl0 n0_0 nf0 ol0 of0 o0_0 o1_0 o2_0 o3_0 o4_0 rl0 rf0 r0_0 r1_0 r2_0 r3_0 r4_0 hX hb0
  obtain ⟨xl2, x0_2, x1_2, x2_2, x3_2, x4_2, xf2⟩ := box5 hX2.1
  obtain ⟨nl2, n0_2, nf2⟩ := box1 hX2.2.1
  obtain ⟨ol2, o0_2, o1_2, o2_2, o3_2, o4_2, of2⟩ := box5 hX2.2.2.1
  obtain ⟨rl2, r0_2, r1_2, r2_2, r3_2, r4_2, rf2⟩ := box5 hX2.2.2.2
  have HX2 := Lib.hid hX2
  have HB2 := Lib.hid B2
  clear hX2 B2
  by_cases ha : a = 0
  · have ha1 : (a == 0) = true := by simpa using ha
    by_cases hk : key = own
    · have hk1 : (key == own) = true := by simpa using hk
      have hk2 : (key != own) = false := by simpa using hk
      have hc0 : ¬ (a = 0 ∧ key ≠ keyL l n) := fun hh => hh.2 (by rw [Hown.out]; exact hk)
      have Hc0 := Lib.hid hc0
      clear hc0 ha hk
      by_cases hz : own = 0
      · have hz1 : (own == 0) = true := by simpa using hz
        by_cases ho : other = 0
        · have ho1 : (other == 0) = true := by simpa using ho
          have e : R = (⟨g, l, h, t, p⟩, 0, []) := by rw [← HR.out, regL]; rw [if_neg Hc0.out]; rw [Hown.out, if_pos ⟨hz, ho⟩]
          subst e
          clear HR hz ho
          go_wp2
          exact bodyPost_ret (v := .tuple #[.agg #[.int .u32 (g), .slice A len cap, .int .i64 (h), .int .i64 (t), .bool p], .int .i64 0, .slice none 0 0]) (by simp [results, Try.results43, go_sem, r0_2, r1_2, r2_2, r3_2, r4_2, rl2, xl2]) rfl ⟨A, len, cap, _, rfl, (.inl ⟨rfl, rfl, rfl, rfl⟩), OwnI.nil _ _, set5B HB2.out (by omega) _ _ _ _ _⟩
        · have ho1 : (other == 0) = false := by simpa using ho
          by_cases h6 : 6 ≤ len
          · have h6d : decide (6 ≤ len) = true := by simpa using h6
            have h6z : (6 : Int) ≤ (len : Int) := by omega
            have e : R = (⟨g, l, h, t, p⟩, 8, []) := by rw [← HR.out, regL]; rw [if_neg Hc0.out]; rw [Hown.out, if_neg (fun hh => ho hh.2), if_pos ⟨hz, (show 6 ≤ l.length by rw [Hlen.out]; exact h6)⟩]
            subst e
            clear HR hz ho
            go_wp2
            exact bodyPost_ret (v := .tuple #[.agg #[.int .u32 (g), .slice A len cap, .int .i64 (h), .int .i64 (t), .bool p], .int .i64 8, .slice none 0 0]) (by simp [results, Try.results43, go_sem, r0_2, r1_2, r2_2, r3_2, r4_2, rl2, xl2]) rfl ⟨A, len, cap, _, rfl, (.inl ⟨rfl, rfl, rfl, rfl⟩), OwnI.nil _ _, set5B HB2.out (by omega) _ _ _ _ _⟩
          · have h6d : decide (6 ≤ len) = false := by simpa using h6
            have h6z : ¬ (6 : Int) ≤ (len : Int) := by omega
            have hru : ¬ (keyL l n = 0 ∧ other = 0) ∧ ¬ (keyL l n = 0 ∧ 6 ≤ l.length) := ⟨fun hh => ho hh.2, fun hh => h6 (by have := hh.2; rwa [Hlen.out] at this)⟩
            have Hru := Lib.hid hru
            clear hru hz
            have e : R = (⟨nextG g, withL l n other, h, t, ap⟩, 0, []) := by rw [← HR.out, regL]; rw [if_neg Hc0.out]; rw [if_neg Hru.out.1, if_neg (show ¬ (keyL l n = 0 ∧ 6 ≤ l.length) from Hru.out.2)]; rw [if_neg ho]
            subst e
            clear HR ho
            obtain ⟨l', Hl'⟩ : ∃ x, Hid (withL l n other = x) := ⟨_, Lib.hid rfl⟩
            rw [Hl'.out] at Kw
            obtain ⟨G, HG⟩ : ∃ G, Hid (nextG g = G) := ⟨_, Lib.hid rfl⟩
            have hw : IntKind.u32.wrap (g + 1) = G := HG.out
            go_upto_region 12 with (go_at_call 53; refine (Kw.out _ HB2.out).mono ?_; rintro e w3 ⟨v, rfl, ho3, hb3⟩; obtain ⟨A2, c2, rfl, hs3⟩ := ho3.sl; have hX3 := HX2.out.below hb3; have B3 := stepB HB2.out hb3; clear hs3 hb3; obtain ⟨xl3, x0_3, x1_3, x2_3, x3_3, x4_3, xf3⟩ := box5 hX3.1)
            have hX4 := hX3.set 1 (.slice A2 l'.length c2)
            have B4 := B3.setCell (p := ⟨w.heap.size, 1, none⟩) (Nat.le_refl w.heap.size) (.slice A2 l'.length c2)
            have ho4 := (ho3.lower (B' := w.heap.size + 4) (by omega)).set (p := ⟨w.heap.size, 1, none⟩) (by show w.heap.size < _; omega) (.slice A2 l'.length c2)
            simp only [List.setIfInBounds_toArray, List.set_cons_succ, List.set_cons_zero] at hX4
            generalize w3.setCell ⟨w.heap.size, 1, none⟩ (.slice A2 l'.length c2) = w4 at hX4 B4 ho4 ⊢
            clear x0_2 x1_2 x2_2 x3_2 x4_2 xl2 xf2 nl2 n0_2 nf2 ol2 of2 o0_2 o1_2 o2_2 o3_2 o4_2 rl2 rf2 r0_2 r1_2 r2_2 r3_2 r4_2 xl3 x0_3 x1_3 x2_3 x3_3 x4_3 xf3
            obtain ⟨xl4, x0_4, x1_4, x2_4, x3_4, x4_4, xf4⟩ := box5 hX4.1
            obtain ⟨nl4, n0_4, nf4⟩ := box1 hX4.2.1
            obtain ⟨ol4, o0_4, o1_4, o2_4, o3_4, o4_4, of4⟩ := box5 hX4.2.2.1
            obtain ⟨rl4, r0_4, r1_4, r2_4, r3_4, r4_4, rf4⟩ := box5 hX4.2.2.2
            have HO4 := Lib.hid ho4; have HB4 := Lib.hid B4
            clear ho4 B4 ho3 hX3 B3 hX4
            go_wp2
            obtain rfl := HG.out
            obtain rfl := Hl'.out
            have ho5 := ((HO4.out.set (p := ⟨w.heap.size, 4, none⟩) (by show w.heap.size < _; omega) (.bool ap)).set (p := ⟨w.heap.size, 0, none⟩) (by show w.heap.size < _; omega) (.int .u32 (nextG g))).set5 (b := w.heap.size + 3) (by omega) (.int .u32 (nextG g)) (.slice A2 (withL l n other).length c2) (.int .i64 h) (.int .i64 t) (.bool ap)
            exact bodyPost_ret (v := .tuple #[.agg #[.int .u32 (nextG g), .slice A2 (withL l n other).length c2, .int .i64 (h), .int .i64 (t), .bool ap], .int .i64 0, .slice none 0 0]) (by simp [results, Try.results43, go_sem, r0_4, r1_4, r2_4, r3_4, r4_4, rl4, xl4]) rfl ⟨A2, _, c2, _, rfl, (.inr (ho5.lower (by omega))), OwnI.nil _ _, set5B ((HB4.out.setCell (p := ⟨w.heap.size, 4, none⟩) (Nat.le_refl _) _).setCell (p := ⟨w.heap.size, 0, none⟩) (Nat.le_refl _) _) (by omega) _ _ _ _ _⟩
      · have hz1 : (own == 0) = false := by simpa using hz
        have hru : ¬ (keyL l n = 0 ∧ other = 0) ∧ ¬ (keyL l n = 0 ∧ 6 ≤ l.length) := ⟨fun hh => hz (by rw [← Hown.out]; exact hh.1), fun hh => hz (by rw [← Hown.out]; exact hh.1)⟩
        have Hru := Lib.hid hru
        clear hru hz
        by_cases ho : other = 0
        · have ho1 : (other == 0) = true := by simpa using ho
          have e : R = (⟨nextG g, leftOf (isN n) l, remH (leftOf (isN n) l) h t, remT (leftOf (isN n) l) h t, ap⟩, 0, goneOf (isN n) l) := by rw [← HR.out, regL]; rw [if_neg Hc0.out]; rw [if_neg Hru.out.1, if_neg (show ¬ (keyL l n = 0 ∧ 6 ≤ l.length) from Hru.out.2)]; rw [if_pos ho]; rfl
          subst e
          clear HR ho
          obtain ⟨l', Hl'⟩ : ∃ x, Hid (leftOf (isN n) l = x) := ⟨_, Lib.hid rfl⟩
          rw [Hl'.out] at Krm
          obtain ⟨h', Hh'⟩ : ∃ x, Hid (remH l' h t = x) := ⟨_, Lib.hid rfl⟩
          rw [Hh'.out] at Krm
          obtain ⟨t', Ht'⟩ : ∃ x, Hid (remT l' h t = x) := ⟨_, Lib.hid rfl⟩
          rw [Ht'.out] at Krm
          obtain ⟨gn, Hgn⟩ : ∃ x, Hid (goneOf (isN n) l = x) := ⟨_, Lib.hid rfl⟩
          rw [Hgn.out] at Krm
          obtain ⟨G, HG⟩ : ∃ G, Hid (nextG g = G) := ⟨_, Lib.hid rfl⟩
          have hw : IntKind.u32.wrap (g + 1) = G := HG.out
          go_upto_region 12 with (go_at_call 51; refine (Krm.out _ _ HB2.out n0_2).mono ?_; rintro e w3 ⟨v, u, rfl, ho3, hi3, hb3⟩; obtain ⟨A2, c2, rfl, hs3⟩ := ho3.sl; have hX3 := HX2.out.below hb3; have B3 := stepB HB2.out hb3; clear hs3 hb3; obtain ⟨xl3, x0_3, x1_3, x2_3, x3_3, x4_3, xf3⟩ := box5 hX3.1)
          have hX4 := hX3.set5 (.int .u32 g) (.slice A2 l'.length c2) (.int .i64 h') (.int .i64 t') (.bool p)
          have B4 := set5B B3 (Nat.le_refl w.heap.size) (.int .u32 g) (.slice A2 l'.length c2) (.int .i64 h') (.int .i64 t') (.bool p)
          have ho4 := (ho3.lower (B' := w.heap.size + 4) (by omega)).set5 (b := w.heap.size) (by omega) (.int .u32 g) (.slice A2 l'.length c2) (.int .i64 h') (.int .i64 t') (.bool p)
          have hi4 := (hi3.lower (B' := w.heap.size + 4) (by omega)).set5 (b := w.heap.size) (by omega) (.int .u32 g) (.slice A2 l'.length c2) (.int .i64 h') (.int .i64 t') (.bool p)
          generalize ((((w3.setCell ⟨w.heap.size, 0, none⟩ (.int .u32 g)).setCell ⟨w.heap.size, 1, none⟩ (.slice A2 l'.length c2)).setCell ⟨w.heap.size, 2, none⟩ (.int .i64 h')).setCell ⟨w.heap.size, 3, none⟩ (.int .i64 t')).setCell ⟨w.heap.size, 4, none⟩ (.bool p) = w4 at hX4 B4 ho4 hi4 ⊢
          clear x0_2 x1_2 x2_2 x3_2 x4_2 xl2 xf2 nl2 n0_2 nf2 ol2 of2 o0_2 o1_2 o2_2 o3_2 o4_2 rl2 rf2 r0_2 r1_2 r2_2 r3_2 r4_2 xl3 x0_3 x1_3 x2_3 x3_3 x4_3 xf3
          obtain ⟨xl4, x0_4, x1_4, x2_4, x3_4, x4_4, xf4⟩ := box5 hX4.1
          obtain ⟨nl4, n0_4, nf4⟩ := box1 hX4.2.1
          obtain ⟨ol4, o0_4, o1_4, o2_4, o3_4, o4_4, of4⟩ := box5 hX4.2.2.1
          obtain ⟨rl4, r0_4, r1_4, r2_4, r3_4, r4_4, rf4⟩ := box5 hX4.2.2.2
          have HO4 := Lib.hid ho4; have HI4 := Lib.hid hi4; have HB4 := Lib.hid B4
          clear ho4 hi4 B4 ho3 hi3 hX3 B3 hX4
          go_wp2
          obtain rfl := HG.out
          obtain rfl := Hh'.out
          obtain rfl := Ht'.out
          obtain rfl := Hl'.out
          obtain rfl := Hgn.out
          have ho5 := ((HO4.out.set (p := ⟨w.heap.size, 4, none⟩) (by show w.heap.size < _; omega) (.bool ap)).set (p := ⟨w.heap.size, 0, none⟩) (by show w.heap.size < _; omega) (.int .u32 (nextG g))).set5 (b := w.heap.size + 3) (by omega) (.int .u32 (nextG g)) (.slice A2 (leftOf (isN n) l).length c2) (.int .i64 (remH (leftOf (isN n) l) h t)) (.int .i64 (remT (leftOf (isN n) l) h t)) (.bool ap)
          have hi5 := ((HI4.out.set (p := ⟨w.heap.size, 4, none⟩) (by show w.heap.size < _; omega) (.bool ap)).set (p := ⟨w.heap.size, 0, none⟩) (by show w.heap.size < _; omega) (.int .u32 (nextG g))).set5 (b := w.heap.size + 3) (by omega) (.int .u32 (nextG g)) (.slice A2 (leftOf (isN n) l).length c2) (.int .i64 (remH (leftOf (isN n) l) h t)) (.int .i64 (remT (leftOf (isN n) l) h t)) (.bool ap)
          exact bodyPost_ret (v := .tuple #[.agg #[.int .u32 (nextG g), .slice A2 (leftOf (isN n) l).length c2, .int .i64 (remH (leftOf (isN n) l) h t), .int .i64 (remT (leftOf (isN n) l) h t), .bool ap], .int .i64 0, u]) (by simp [results, Try.results43, go_sem, r0_4, r1_4, r2_4, r3_4, r4_4, rl4, xl4]) rfl ⟨A2, _, c2, _, rfl, (.inr (ho5.lower (by omega))), hi5.lower (by omega), set5B ((HB4.out.setCell (p := ⟨w.heap.size, 4, none⟩) (Nat.le_refl _) _).setCell (p := ⟨w.heap.size, 0, none⟩) (Nat.le_refl _) _) (by omega) _ _ _ _ _⟩
        · have ho1 : (other == 0) = false := by simpa using ho
          have e : R = (⟨nextG g, withL l n other, h, t, ap⟩, 0, []) := by rw [← HR.out, regL]; rw [if_neg Hc0.out]; rw [if_neg Hru.out.1, if_neg (show ¬ (keyL l n = 0 ∧ 6 ≤ l.length) from Hru.out.2)]; rw [if_neg ho]
          subst e
          clear HR ho
          obtain ⟨l', Hl'⟩ : ∃ x, Hid (withL l n other = x) := ⟨_, Lib.hid rfl⟩
          rw [Hl'.out] at Kw
          obtain ⟨G, HG⟩ : ∃ G, Hid (nextG g = G) := ⟨_, Lib.hid rfl⟩
          have hw : IntKind.u32.wrap (g + 1) = G := HG.out
          go_upto_region 12 with (go_at_call 53; refine (Kw.out _ HB2.out).mono ?_; rintro e w3 ⟨v, rfl, ho3, hb3⟩; obtain ⟨A2, c2, rfl, hs3⟩ := ho3.sl; have hX3 := HX2.out.below hb3; have B3 := stepB HB2.out hb3; clear hs3 hb3; obtain ⟨xl3, x0_3, x1_3, x2_3, x3_3, x4_3, xf3⟩ := box5 hX3.1)
          have hX4 := hX3.set 1 (.slice A2 l'.length c2)
          have B4 := B3.setCell (p := ⟨w.heap.size, 1, none⟩) (Nat.le_refl w.heap.size) (.slice A2 l'.length c2)
          have ho4 := (ho3.lower (B' := w.heap.size + 4) (by omega)).set (p := ⟨w.heap.size, 1, none⟩) (by show w.heap.size < _; omega) (.slice A2 l'.length c2)
          simp only [List.setIfInBounds_toArray, List.set_cons_succ, List.set_cons_zero] at hX4
          generalize w3.setCell ⟨w.heap.size, 1, none⟩ (.slice A2 l'.length c2) = w4 at hX4 B4 ho4 ⊢
          clear x0_2 x1_2 x2_2 x3_2 x4_2 xl2 xf2 nl2 n0_2 nf2 ol2 of2 o0_2 o1_2 o2_2 o3_2 o4_2 rl2 rf2 r0_2 r1_2 r2_2 r3_2 r4_2 xl3 x0_3 x1_3 x2_3 x3_3 x4_3 xf3
          obtain ⟨xl4, x0_4, x1_4, x2_4, x3_4, x4_4, xf4⟩ := box5 hX4.1
          obtain ⟨nl4, n0_4, nf4⟩ := box1 hX4.2.1
          obtain ⟨ol4, o0_4, o1_4, o2_4, o3_4, o4_4, of4⟩ := box5 hX4.2.2.1
          obtain ⟨rl4, r0_4, r1_4, r2_4, r3_4, r4_4, rf4⟩ := box5 hX4.2.2.2
          have HO4 := Lib.hid ho4; have HB4 := Lib.hid B4
          clear ho4 B4 ho3 hX3 B3 hX4
          go_wp2
          obtain rfl := HG.out
          obtain rfl := Hl'.out
          have ho5 := ((HO4.out.set (p := ⟨w.heap.size, 4, none⟩) (by show w.heap.size < _; omega) (.bool ap)).set (p := ⟨w.heap.size, 0, none⟩) (by show w.heap.size < _; omega) (.int .u32 (nextG g))).set5 (b := w.heap.size + 3) (by omega) (.int .u32 (nextG g)) (.slice A2 (withL l n other).length c2) (.int .i64 h) (.int .i64 t) (.bool ap)
          exact bodyPost_ret (v := .tuple #[.agg #[.int .u32 (nextG g), .slice A2 (withL l n other).length c2, .int .i64 (h), .int .i64 (t), .bool ap], .int .i64 0, .slice none 0 0]) (by simp [results, Try.results43, go_sem, r0_4, r1_4, r2_4, r3_4, r4_4, rl4, xl4]) rfl ⟨A2, _, c2, _, rfl, (.inr (ho5.lower (by omega))), OwnI.nil _ _, set5B ((HB4.out.setCell (p := ⟨w.heap.size, 4, none⟩) (Nat.le_refl _) _).setCell (p := ⟨w.heap.size, 0, none⟩) (Nat.le_refl _) _) (by omega) _ _ _ _ _⟩
    · have hk1 : (key == own) = false := by simpa using hk
      have hk2 : (key != own) = true := by simpa using hk
      have e : R = (⟨g, l, h, t, p⟩, 24, []) := by rw [← HR.out, regL]; rw [if_pos ⟨ha, (show key ≠ keyL l n by rw [Hown.out]; exact hk)⟩]
      subst e
      clear HR hk ha
      go_wp2
      exact bodyPost_ret (v := .tuple #[.agg #[.int .u32 (g), .slice A len cap, .int .i64 (h), .int .i64 (t), .bool p], .int .i64 24, .slice none 0 0]) (by simp [results, Try.results43, go_sem, r0_2, r1_2, r2_2, r3_2, r4_2, rl2, xl2]) rfl ⟨A, len, cap, _, rfl, (.inl ⟨rfl, rfl, rfl, rfl⟩), OwnI.nil _ _, set5B HB2.out (by omega) _ _ _ _ _⟩
  · have ha1 : (a == 0) = false := by simpa using ha
    have hc0 : ¬ (a = 0 ∧ key ≠ keyL l n) := fun hh => ha hh.1
    have Hc0 := Lib.hid hc0
    clear hc0 ha
    by_cases hz : own = 0
    · have hz1 : (own == 0) = true := by simpa using hz
      by_cases ho : other = 0
      · have ho1 : (other == 0) = true := by simpa using ho
        have e : R = (⟨g, l, h, t, p⟩, 0, []) := by rw [← HR.out, regL]; rw [if_neg Hc0.out]; rw [Hown.out, if_pos ⟨hz, ho⟩]
        subst e
        clear HR hz ho
        go_wp2
        exact bodyPost_ret (v := .tuple #[.agg #[.int .u32 (g), .slice A len cap, .int .i64 (h), .int .i64 (t), .bool p], .int .i64 0, .slice none 0 0]) (by simp [results, Try.results43, go_sem, r0_2, r1_2, r2_2, r3_2, r4_2, rl2, xl2]) rfl ⟨A, len, cap, _, rfl, (.inl ⟨rfl, rfl, rfl, rfl⟩), OwnI.nil _ _, set5B HB2.out (by omega) _ _ _ _ _⟩
      · have ho1 : (other == 0) = false := by simpa using ho
        by_cases h6 : 6 ≤ len
        · have h6d : decide (6 ≤ len) = true := by simpa using h6
          have h6z : (6 : Int) ≤ (len : Int) := by omega
          have e : R = (⟨g, l, h, t, p⟩, 8, []) := by rw [← HR.out, regL]; rw [if_neg Hc0.out]; rw [Hown.out, if_neg (fun hh => ho hh.2), if_pos ⟨hz, (show 6 ≤ l.length by rw [Hlen.out]; exact h6)⟩]
          subst e
          clear HR hz ho
          go_wp2
          exact bodyPost_ret (v := .tuple #[.agg #[.int .u32 (g), .slice A len cap, .int .i64 (h), .int .i64 (t), .bool p], .int .i64 8, .slice none 0 0]) (by simp [results, Try.results43, go_sem, r0_2, r1_2, r2_2, r3_2, r4_2, rl2, xl2]) rfl ⟨A, len, cap, _, rfl, (.inl ⟨rfl, rfl, rfl, rfl⟩), OwnI.nil _ _, set5B HB2.out (by omega) _ _ _ _ _⟩
        · have h6d : decide (6 ≤ len) = false := by simpa using h6
          have h6z : ¬ (6 : Int) ≤ (len : Int) := by omega
          have hru : ¬ (keyL l n = 0 ∧ other = 0) ∧ ¬ (keyL l n = 0 ∧ 6 ≤ l.length) := ⟨fun hh => ho hh.2, fun hh => h6 (by have := hh.2; rwa [Hlen.out] at this)⟩
          have Hru := Lib.hid hru
          clear hru hz
          have e : R = (⟨nextG g, withL l n other, h, t, ap⟩, 0, []) := by rw [← HR.out, regL]; rw [if_neg Hc0.out]; rw [if_neg Hru.out.1, if_neg (show ¬ (keyL l n = 0 ∧ 6 ≤ l.length) from Hru.out.2)]; rw [if_neg ho]
          subst e
          clear HR ho
          obtain ⟨l', Hl'⟩ : ∃ x, Hid (withL l n other = x) := ⟨_, Lib.hid rfl⟩
          rw [Hl'.out] at Kw
          obtain ⟨G, HG⟩ : ∃ G, Hid (nextG g = G) := ⟨_, Lib.hid rfl⟩
          have hw : IntKind.u32.wrap (g + 1) = G := HG.out
          go_upto_region 12 with (go_at_call 53; refine (Kw.out _ HB2.out).mono ?_; rintro e w3 ⟨v, rfl, ho3, hb3⟩; obtain ⟨A2, c2, rfl, hs3⟩ := ho3.sl; have hX3 := HX2.out.below hb3; have B3 := stepB HB2.out hb3; clear hs3 hb3; obtain ⟨xl3, x0_3, x1_3, x2_3, x3_3, x4_3, xf3⟩ := box5 hX3.1)
          have hX4 := hX3.set 1 (.slice A2 l'.length c2)
          have B4 := B3.setCell (p := ⟨w.heap.size, 1, none⟩) (Nat.le_refl w.heap.size) (.slice A2 l'.length c2)
          have ho4 := (ho3.lower (B' := w.heap.size + 4) (by omega)).set (p := ⟨w.heap.size, 1, none⟩) (by show w.heap.size < _; omega) (.slice A2 l'.length c2)
          simp only [List.setIfInBounds_toArray, List.set_cons_succ, List.set_cons_zero] at hX4
          generalize w3.setCell ⟨w.heap.size, 1, none⟩ (.slice A2 l'.length c2) = w4 at hX4 B4 ho4 ⊢
          clear x0_2 x1_2 x2_2 x3_2 x4_2 xl2 xf2 nl2 n0_2 nf2 ol2 of2 o0_2 o1_2 o2_2 o3_2 o4_2 rl2 rf2 r0_2 r1_2 r2_2 r3_2 r4_2 xl3 x0_3 x1_3 x2_3 x3_3 x4_3 xf3
          obtain ⟨xl4, x0_4, x1_4, x2_4, x3_4, x4_4, xf4⟩ := box5 hX4.1
          obtain ⟨nl4, n0_4, nf4⟩ := box1 hX4.2.1
          obtain ⟨ol4, o0_4, o1_4, o2_4, o3_4, o4_4, of4⟩ := box5 hX4.2.2.1
          obtain ⟨rl4, r0_4, r1_4, r2_4, r3_4, r4_4, rf4⟩ := box5 hX4.2.2.2
          have HO4 := Lib.hid ho4; have HB4 := Lib.hid B4
          clear ho4 B4 ho3 hX3 B3 hX4
          go_wp2
          obtain rfl := HG.out
          obtain rfl := Hl'.out
          have ho5 := ((HO4.out.set (p := ⟨w.heap.size, 4, none⟩) (by show w.heap.size < _; omega) (.bool ap)).set (p := ⟨w.heap.size, 0, none⟩) (by show w.heap.size < _; omega) (.int .u32 (nextG g))).set5 (b := w.heap.size + 3) (by omega) (.int .u32 (nextG g)) (.slice A2 (withL l n other).length c2) (.int .i64 h) (.int .i64 t) (.bool ap)
          exact bodyPost_ret (v := .tuple #[.agg #[.int .u32 (nextG g), .slice A2 (withL l n other).length c2, .int .i64 (h), .int .i64 (t), .bool ap], .int .i64 0, .slice none 0 0]) (by simp [results, Try.results43, go_sem, r0_4, r1_4, r2_4, r3_4, r4_4, rl4, xl4]) rfl ⟨A2, _, c2, _, rfl, (.inr (ho5.lower (by omega))), OwnI.nil _ _, set5B ((HB4.out.setCell (p := ⟨w.heap.size, 4, none⟩) (Nat.le_refl _) _).setCell (p := ⟨w.heap.size, 0, none⟩) (Nat.le_refl _) _) (by omega) _ _ _ _ _⟩
    · have hz1 : (own == 0) = false := by simpa using hz
      have hru : ¬ (keyL l n = 0 ∧ other = 0) ∧ ¬ (keyL l n = 0 ∧ 6 ≤ l.length) := ⟨fun hh => hz (by rw [← Hown.out]; exact hh.1), fun hh => hz (by rw [← Hown.out]; exact hh.1)⟩
      have Hru := Lib.hid hru
      clear hru hz
      by_cases ho : other = 0
      · have ho1 : (other == 0) = true := by simpa using ho
        have e : R = (⟨nextG g, leftOf (isN n) l, remH (leftOf (isN n) l) h t, remT (leftOf (isN n) l) h t, ap⟩, 0, goneOf (isN n) l) := by rw [← HR.out, regL]; rw [if_neg Hc0.out]; rw [if_neg Hru.out.1, if_neg (show ¬ (keyL l n = 0 ∧ 6 ≤ l.length) from Hru.out.2)]; rw [if_pos ho]; rfl
        subst e
        clear HR ho
        obtain ⟨l', Hl'⟩ : ∃ x, Hid (leftOf (isN n) l = x) := ⟨_, Lib.hid rfl⟩
        rw [Hl'.out] at Krm
        obtain ⟨h', Hh'⟩ : ∃ x, Hid (remH l' h t = x) := ⟨_, Lib.hid rfl⟩
        rw [Hh'.out] at Krm
        obtain ⟨t', Ht'⟩ : ∃ x, Hid (remT l' h t = x) := ⟨_, Lib.hid rfl⟩
        rw [Ht'.out] at Krm
        obtain ⟨gn, Hgn⟩ : ∃ x, Hid (goneOf (isN n) l = x) := ⟨_, Lib.hid rfl⟩
        rw [Hgn.out] at Krm
        obtain ⟨G, HG⟩ : ∃ G, Hid (nextG g = G) := ⟨_, Lib.hid rfl⟩
        have hw : IntKind.u32.wrap (g + 1) = G := HG.out
        go_upto_region 12 with (go_at_call 51; refine (Krm.out _ _ HB2.out n0_2).mono ?_; rintro e w3 ⟨v, u, rfl, ho3, hi3, hb3⟩; obtain ⟨A2, c2, rfl, hs3⟩ := ho3.sl; have hX3 := HX2.out.below hb3; have B3 := stepB HB2.out hb3; clear hs3 hb3; obtain ⟨xl3, x0_3, x1_3, x2_3, x3_3, x4_3, xf3⟩ := box5 hX3.1)
        have hX4 := hX3.set5 (.int .u32 g) (.slice A2 l'.length c2) (.int .i64 h') (.int .i64 t') (.bool p)
        have B4 := set5B B3 (Nat.le_refl w.heap.size) (.int .u32 g) (.slice A2 l'.length c2) (.int .i64 h') (.int .i64 t') (.bool p)
        have ho4 := (ho3.lower (B' := w.heap.size + 4) (by omega)).set5 (b := w.heap.size) (by omega) (.int .u32 g) (.slice A2 l'.length c2) (.int .i64 h') (.int .i64 t') (.bool p)
        have hi4 := (hi3.lower (B' := w.heap.size + 4) (by omega)).set5 (b := w.heap.size) (by omega) (.int .u32 g) (.slice A2 l'.length c2) (.int .i64 h') (.int .i64 t') (.bool p)
        generalize ((((w3.setCell ⟨w.heap.size, 0, none⟩ (.int .u32 g)).setCell ⟨w.heap.size, 1, none⟩ (.slice A2 l'.length c2)).setCell ⟨w.heap.size, 2, none⟩ (.int .i64 h')).setCell ⟨w.heap.size, 3, none⟩ (.int .i64 t')).setCell ⟨w.heap.size, 4, none⟩ (.bool p) = w4 at hX4 B4 ho4 hi4 ⊢
        clear x0_2 x1_2 x2_2 x3_2 x4_2 xl2 xf2 nl2 n0_2 nf2 ol2 of2 o0_2 o1_2 o2_2 o3_2 o4_2 rl2 rf2 r0_2 r1_2 r2_2 r3_2 r4_2 xl3 x0_3 x1_3 x2_3 x3_3 x4_3 xf3
        obtain ⟨xl4, x0_4, x1_4, x2_4, x3_4, x4_4, xf4⟩ := box5 hX4.1
        obtain ⟨nl4, n0_4, nf4⟩ := box1 hX4.2.1
        obtain ⟨ol4, o0_4, o1_4, o2_4, o3_4, o4_4, of4⟩ := box5 hX4.2.2.1
        obtain ⟨rl4, r0_4, r1_4, r2_4, r3_4, r4_4, rf4⟩ := box5 hX4.2.2.2
        have HO4 := Lib.hid ho4; have HI4 := Lib.hid hi4; have HB4 := Lib.hid B4
        clear ho4 hi4 B4 ho3 hi3 hX3 B3 hX4
        go_wp2
        obtain rfl := HG.out
        obtain rfl := Hh'.out
        obtain rfl := Ht'.out
        obtain rfl := Hl'.out
        obtain rfl := Hgn.out
        have ho5 := ((HO4.out.set (p := ⟨w.heap.size, 4, none⟩) (by show w.heap.size < _; omega) (.bool ap)).set (p := ⟨w.heap.size, 0, none⟩) (by show w.heap.size < _; omega) (.int .u32 (nextG g))).set5 (b := w.heap.size + 3) (by omega) (.int .u32 (nextG g)) (.slice A2 (leftOf (isN n) l).length c2) (.int .i64 (remH (leftOf (isN n) l) h t)) (.int .i64 (remT (leftOf (isN n) l) h t)) (.bool ap)
        have hi5 := ((HI4.out.set (p := ⟨w.heap.size, 4, none⟩) (by show w.heap.size < _; omega) (.bool ap)).set (p := ⟨w.heap.size, 0, none⟩) (by show w.heap.size < _; omega) (.int .u32 (nextG g))).set5 (b := w.heap.size + 3) (by omega) (.int .u32 (nextG g)) (.slice A2 (leftOf (isN n) l).length c2) (.int .i64 (remH (leftOf (isN n) l) h t)) (.int .i64 (remT (leftOf (isN n) l) h t)) (.bool ap)
        exact bodyPost_ret (v := .tuple #[.agg #[.int .u32 (nextG g), .slice A2 (leftOf (isN n) l).length c2, .int .i64 (remH (leftOf (isN n) l) h t), .int .i64 (remT (leftOf (isN n) l) h t), .bool ap], .int .i64 0, u]) (by simp [results, Try.results43, go_sem, r0_4, r1_4, r2_4, r3_4, r4_4, rl4, xl4]) rfl ⟨A2, _, c2, _, rfl, (.inr (ho5.lower (by omega))), hi5.lower (by omega), set5B ((HB4.out.setCell (p := ⟨w.heap.size, 4, none⟩) (Nat.le_refl _) _).setCell (p := ⟨w.heap.size, 0, none⟩) (Nat.le_refl _) _) (by omega) _ _ _ _ _⟩
      · have ho1 : (other == 0) = false := by simpa using ho
        have e : R = (⟨nextG g, withL l n other, h, t, ap⟩, 0, []) := by rw [← HR.out, regL]; rw [if_neg Hc0.out]; rw [if_neg Hru.out.1, if_neg (show ¬ (keyL l n = 0 ∧ 6 ≤ l.length) from Hru.out.2)]; rw [if_neg ho]
        subst e
        clear HR ho
        obtain ⟨l', Hl'⟩ : ∃ x, Hid (withL l n other = x) := ⟨_, Lib.hid rfl⟩
        rw [Hl'.out] at Kw
        obtain ⟨G, HG⟩ : ∃ G, Hid (nextG g = G) := ⟨_, Lib.hid rfl⟩
        have hw : IntKind.u32.wrap (g + 1) = G := HG.out
        go_upto_region 12 with (go_at_call 53; refine (Kw.out _ HB2.out).mono ?_; rintro e w3 ⟨v, rfl, ho3, hb3⟩; obtain ⟨A2, c2, rfl, hs3⟩ := ho3.sl; have hX3 := HX2.out.below hb3; have B3 := stepB HB2.out hb3; clear hs3 hb3; obtain ⟨xl3, x0_3, x1_3, x2_3, x3_3, x4_3, xf3⟩ := box5 hX3.1)
        have hX4 := hX3.set 1 (.slice A2 l'.length c2)
        have B4 := B3.setCell (p := ⟨w.heap.size, 1, none⟩) (Nat.le_refl w.heap.size) (.slice A2 l'.length c2)
        have ho4 := (ho3.lower (B' := w.heap.size + 4) (by omega)).set (p := ⟨w.heap.size, 1, none⟩) (by show w.heap.size < _; omega) (.slice A2 l'.length c2)
        simp only [List.setIfInBounds_toArray, List.set_cons_succ, List.set_cons_zero] at hX4
        generalize w3.setCell ⟨w.heap.size, 1, none⟩ (.slice A2 l'.length c2) = w4 at hX4 B4 ho4 ⊢
        clear x0_2 x1_2 x2_2 x3_2 x4_2 xl2 xf2 nl2 n0_2 nf2 ol2 of2 o0_2 o1_2 o2_2 o3_2 o4_2 rl2 rf2 r0_2 r1_2 r2_2 r3_2 r4_2 xl3 x0_3 x1_3 x2_3 x3_3 x4_3 xf3
        obtain ⟨xl4, x0_4, x1_4, x2_4, x3_4, x4_4, xf4⟩ := box5 hX4.1
        obtain ⟨nl4, n0_4, nf4⟩ := box1 hX4.2.1
        obtain ⟨ol4, o0_4, o1_4, o2_4, o3_4, o4_4, of4⟩ := box5 hX4.2.2.1
        obtain ⟨rl4, r0_4, r1_4, r2_4, r3_4, r4_4, rf4⟩ := box5 hX4.2.2.2
        have HO4 := Lib.hid ho4; have HB4 := Lib.hid B4
        clear ho4 B4 ho3 hX3 B3 hX4
        go_wp2
        obtain rfl := HG.out
        obtain rfl := Hl'.out
        have ho5 := ((HO4.out.set (p := ⟨w.heap.size, 4, none⟩) (by show w.heap.size < _; omega) (.bool ap)).set (p := ⟨w.heap.size, 0, none⟩) (by show w.heap.size < _; omega) (.int .u32 (nextG g))).set5 (b := w.heap.size + 3) (by omega) (.int .u32 (nextG g)) (.slice A2 (withL l n other).length c2) (.int .i64 h) (.int .i64 t) (.bool ap)
        exact bodyPost_ret (v := .tuple #[.agg #[.int .u32 (nextG g), .slice A2 (withL l n other).length c2, .int .i64 (h), .int .i64 (t), .bool ap], .int .i64 0, .slice none 0 0]) (by simp [results, Try.results43, go_sem, r0_4, r1_4, r2_4, r3_4, r4_4, rl4, xl4]) rfl ⟨A2, _, c2, _, rfl, (.inr (ho5.lower (by omega))), OwnI.nil _ _, set5B ((HB4.out.setCell (p := ⟨w.heap.size, 4, none⟩) (Nat.le_refl _) _).setCell (p := ⟨w.heap.size, 0, none⟩) (Nat.le_refl _) _) (by omega) _ _ _ _ _⟩
end
end Go.Proofs.Ytkpogmigfjmacaa
