/-
  The law PersActs walked.
-/
import Derived.Test.YtkpogmigfjmacaaPeStands
import Derived.Test.YtkpogmigfjmacaaPeOpen2
set_option linter.unusedSimpArgs false
set_option linter.unusedVariables false
namespace Go.Proofs.Ytkpogmigfjmacaa
open Go.RowKit

theorem cut6 {K R : Option Addr → Nat → Nat → Value → Nat → World → Prop} {G : Prop} (walk : (∀ a b c d e w, R a b c d e w → K a b c d e w) → G) (pf : ∀ a b c d e w, R a b c d e w → K a b c d e w) : G := walk pf
theorem wpAnyH_two {P : Program} {md : Region.Mode} {ops : Array Oper} {Q : Exit → Act → World → Prop} {S : World → Prop} {fuel : Nat} {listed : Array Bool} {a : Act} {w : World} (i j : Nat) (oi oj : Oper) (hi : ops[i]? = some oi) (hj : ops[j]? = some oj) (hr : Region.ready md ops listed = [i, j])
    (hwi : Region.wanted oi (yielded ops a.tmps) = true) (hwj : Region.wanted oj (yielded ops a.tmps) = true)
    (h1 : ∀ K : Act → World → Prop, (∀ a' w', S w' → wpAnyH P md ops Q S fuel (listed.setIfInBounds i true) a' w' → K a' w') → Oper.wp P oi a w K Q)
    (h2 : ∀ K : Act → World → Prop, (∀ a' w', S w' → wpAnyH P md ops Q S fuel (listed.setIfInBounds j true) a' w' → K a' w') → Oper.wp P oj a w K Q) : wpAnyH P md ops Q S (fuel + 1) listed a w := by
  refine wpAnyH_all hr (by simp) (fun k hk => ?_)
  unfold wpOp
  rcases (by simpa using hk : k = i ∨ k = j) with rfl | rfl
  · simp only [hi, hwi, if_true]
    exact .inl (h1 _ fun _ _ h1 h2 => ⟨h1, h2⟩)
  · simp only [hj, hwj, if_true]
    exact .inl (h2 _ fun _ _ h1 h2 => ⟨h1, h2⟩)
/-- A row is kept by what turns one block of another type. -/
theorem own_keep {B size n q : Nat} {e T : TypeId} {w w' : World} {v : Value} {xs : List Value} {cs : Array Value} (h : w.ownsRow B e size v n xs) (hoth : ∀ i, i ≠ q → w'.heap[i]? = w.heap[i]?) (hq : w.heap[q]? = some (.cells cs T (0, 0))) (hne : e ≠ T) : w'.ownsRow B e size v n xs := by
  have hno := own_other h hq hne
  refine ⟨h.1, h.2.imp id fun ⟨g, cap, cur, h1, h2, h3, h4⟩ => ⟨g, cap, cur, h1, h2, ?_, h4⟩⟩
  subst h1
  exact (hoth g (fun e => hno (by rw [e]; rfl))).trans h3
theorem OwnI.keep {B q : Nat} {T : TypeId} {w w' : World} {v : Value} {l : List Int} {cs : Array Value} (h : OwnI B w v l) (hoth : ∀ i, i ≠ q → w'.heap[i]? = w.heap[i]?) (hq : w.heap[q]? = some (.cells cs T (0, 0))) (hne : 3 ≠ T) : OwnI B w' v l := own_keep h hoth hq hne
theorem box2 {w : World} {b : Nat} {T : TypeId} {v0 v1 : Value} (h : w.heap[b]? = some (.cells #[v0, v1] T (0, 0))) :
    b < w.heap.size ∧ w.cell? ⟨b, 0, none⟩ = some v0 ∧ w.cell? ⟨b, 1, none⟩ = some v1 ∧ ∀ o, w.frozen? ⟨b, o, none⟩ = false :=
  ⟨(Array.getElem?_eq_some_iff.1 h).1, cell_of_row w b 0 _ _ _ h, cell_of_row w b 1 _ _ _ h, fun o => by simp [World.frozen?, h]⟩
theorem OwnR.sl2 {B : Nat} {w : World} {A : Option Addr} {n c : Nat} {l : List (Int × Int)} (h : OwnR B w (.slice A n c) l) : SlR w A n c l := by
  obtain ⟨A', c', he, hs⟩ := h.sl
  injection he with h1 h2 h3
  subst h1 h2 h3
  exact hs
theorem KeptR.below {w w1 w' : World} {A0 : Option Addr} {len0 cap0 : Nat} {l0 : List (Int × Int)} {A : Option Addr} {len cap : Nat} {l : List (Int × Int)} (h : KeptR w A0 len0 cap0 l0 A len cap l w1) (hb : Below w1.heap.size w1 w') : KeptR w A0 len0 cap0 l0 A len cap l w' :=
  h.imp id fun h => h.below hb
theorem KeptR.last {w v v' wf : World} {A0 : Option Addr} {len0 cap0 : Nat} {l0 : List (Int × Int)} {A : Option Addr} {len cap : Nat} {l : List (Int × Int)} {q : Nat} {T : TypeId} {cs : Array Value} (h : KeptR v A0 len0 cap0 l0 A len cap l v') (hS : SlR w A0 len0 cap0 l0) (hb : Below w.heap.size w wf)
    (hoth : ∀ i, i ≠ q → wf.heap[i]? = v'.heap[i]?) (hq : v'.heap[q]? = some (.cells cs T (0, 0))) (hne : 38 ≠ T) : SlR wf A len cap l := by
  rcases h with ⟨rfl, rfl, rfl, rfl⟩ | h
  · exact hS.below hb
  · exact OwnR.sl2 (B := v.heap.size) (own_keep h hoth hq hne)

set_option maxRecDepth 100000 in
set_option maxHeartbeats 16000000 in
theorem persActs_any (T : Tb) (A : Option Addr) (len cap : Nat) {w : World} (hS : SlR w A len cap T.l) (hm : len ≤ 9223372036854775807) (_ : ∀ q ∈ T.l, I64 q.1 ∧ U64 q.2) (_ : U32 T.g) (n : Int) (_ : I64 n) (a ty key other : Int) (ap : Bool) (_ : I64 a ∧ I64 ty ∧ U64 key ∧ U64 other) (W : World) (hW : w = W) :
    Calls Try.prog 3 #[.agg #[.int .u32 T.g, .slice A len cap, .int .i64 T.h, .int .i64 T.t, .bool T.p], .int .i64 n, .agg #[.int .i64 a, .int .i64 ty, .int .u64 key, .int .u64 other, .bool ap]] W (Ret (.bool true) W) := by
  subst hW
  obtain ⟨g, l, h, t, p⟩ := T
  simp only at hS ⊢
  have Kst : Hid (∀ W, Calls Try.prog 10 #[] W (Ret (.bool true) W)) := Lib.hid stands_any
  have Krs : Hid (∀ W, Below w.heap.size w W → Calls Try.prog 12 #[.agg #[.int .u32 g, .slice A len cap, .int .i64 h, .int .i64 t, .bool p]] W (Ret (.bool (soundB l h t)) W)) := Lib.hid fun W hb => rsound_any g h t p A len cap l W (hS.below hb) hm
  have Kso : Hid (∀ W, Below w.heap.size w W → Calls Try.prog 11 #[.agg #[.int .u32 g, .slice A len cap, .int .i64 h, .int .i64 t, .bool p]] W (Ret (.bool (soundB l h t)) W)) := Lib.hid fun W hb => sound_any g h t p A len cap l W hS.1 hm (hS.below hb).2.2.2
  obtain ⟨sb, Hsb⟩ : ∃ x, Hid (soundB l h t = x) := ⟨_, Lib.hid rfl⟩
  rw [Hsb.out] at Krs Kso
  have HS := Lib.hid hS
  clear hS
  go_enter Try.func3, Try.ntmps3
  go_upto_region 1 with (fail)
  have hz := heap_alloc2 w (.cells #[.int .u32 g, .slice A len cap, .int .i64 h, .int .i64 t, .bool p] 25) (.cells #[.int .i64 a, .int .i64 ty, .int .u64 key, .int .u64 other, .bool ap] 28)
  have hb0 := bel2 w (.cells #[.int .u32 g, .slice A len cap, .int .i64 h, .int .i64 t, .bool p] 25) (.cells #[.int .i64 a, .int .i64 ty, .int .u64 key, .int .u64 other, .bool ap] 28)
  try simp only [World.size_alloc]
  generalize (w.alloc (.cells #[.int .u32 g, .slice A len cap, .int .i64 h, .int .i64 t, .bool p] 25)).alloc (.cells #[.int .i64 a, .int .i64 ty, .int .u64 key, .int .u64 other, .bool ap] 28) = w1 at hz hb0 ⊢
  have hl1 : w.heap.size + 1 < w1.heap.size := (Array.getElem?_eq_some_iff.1 hz.2).1
  go_upto_region 3 with (go_at_call 10; refine (Kst.out _).mono ?_; rintro e w2 ⟨rfl, hb2⟩)
  have HX2 := Lib.hid ((hb2.block w.heap.size (by omega)).trans hz.1); have HY2 := Lib.hid ((hb2.block (w.heap.size + 1) hl1).trans hz.2); have HB2 := Lib.hid (stepB hb0 hb2)
  clear hz hb0 hb2 hl1
  obtain ⟨xl2, x0_2, x1_2, x2_2, x3_2, x4_2, xf2⟩ := box5 HX2.out
  obtain ⟨yl2, y0_2, y1_2, y2_2, y3_2, y4_2, yf2⟩ := box5 HY2.out
  cases sb with
  | false =>
    refine held_start (w0 := w2) (Below.refl _ _) (by kernel_rfl) (fun wd hS => ?_)
    refine wpAnyH_take (i := 0) (v := .agg #[.int .u32 g, .slice A len cap, .int .i64 h, .int .i64 t, .bool p]) rfl (by kernel_rfl) (by kernel_rfl) (by kernel_rfl) (fun _ _ _ h => h) (Or.inl ⟨by rfl, ?_⟩) hS ?_
    · intro W hW; exact exec_load5 rfl rfl (load5 ((hW.block _ xl2).trans HX2.out) Try.underlying25 infoTb)
    try simp only [List.getElem_toArray, List.getElem_cons_succ, List.getElem_cons_zero, Act.put, List.setIfInBounds_toArray, List.set]
    refine wpAnyH_take (i := 2) (v := .agg #[.int .u32 g, .slice A len cap, .int .i64 h, .int .i64 t, .bool p]) rfl (by kernel_rfl) (by kernel_rfl) (by kernel_rfl) (fun _ _ _ h => h) (Or.inl ⟨by rfl, ?_⟩) hS ?_
    · intro W hW; exact exec_load5 rfl rfl (load5 ((hW.block _ xl2).trans HX2.out) Try.underlying25 infoTb)
    try simp only [List.getElem_toArray, List.getElem_cons_succ, List.getElem_cons_zero, Act.put, List.setIfInBounds_toArray, List.set]
    refine wpAnyH_one 1 _ rfl (by kernel_rfl) (by rfl) (fun K hK => ?_)
    go_simp
    refine (Kso.out _ (stepB HB2.out hS)).mono ?_
    rintro e w3 ⟨rfl, hb3⟩
    have hS3 : Below w2.heap.size w2 w3 := stepB hS hb3
    refine hK _ _ hS3 ?_
    clear hK K
    try simp only [List.getElem_toArray, List.getElem_cons_succ, List.getElem_cons_zero, Act.put, List.setIfInBounds_toArray, List.set]
    refine wpAnyH_one 3 _ rfl (by kernel_rfl) (by rfl) (fun K hK => ?_)
    go_simp
    refine (Krs.out _ (stepB HB2.out hS3)).mono ?_
    rintro e w4 ⟨rfl, hb4⟩
    have hS4 : Below w2.heap.size w2 w4 := stepB hS3 hb4
    refine hK _ _ hS4 ?_
    clear hK K
    try simp only [List.getElem_toArray, List.getElem_cons_succ, List.getElem_cons_zero, Act.put, List.setIfInBounds_toArray, List.set]
    refine wpAnyH_take (i := 4) (v := .bool false) rfl (by kernel_rfl) (by kernel_rfl) (by kernel_rfl) (fun _ _ _ h => h) (Or.inl ⟨by rfl, ?_⟩) hS4 ?_
    · intro W hW; go_simp
    try simp only [List.getElem_toArray, List.getElem_cons_succ, List.getElem_cons_zero, Act.put, List.setIfInBounds_toArray, List.set]
    refine wpAnyH_done (by kernel_rfl) ?_ _
    have HX4 := Lib.hid ((hS4.block w.heap.size xl2).trans HX2.out); have HY4 := Lib.hid ((hS4.block (w.heap.size + 1) yl2).trans HY2.out); have HB4 := Lib.hid (stepB HB2.out hS4)
    clear hS hS3 hS4 hb3 hb4 HX2 HY2 HB2 xl2 x0_2 x1_2 x2_2 x3_2 x4_2 xf2 yl2 y0_2 y1_2 y2_2 y3_2 y4_2 yf2
    obtain ⟨xl4, x0_4, x1_4, x2_4, x3_4, x4_4, xf4⟩ := box5 HX4.out
    obtain ⟨yl4, y0_4, y1_4, y2_4, y3_4, y4_4, yf4⟩ := box5 HY4.out
    go_wp2_with (go_at_call 12; refine (Krs.out _ HB4.out).mono ?_; rintro e w5 ⟨rfl, hb5⟩)
    all_goals (go_ret; exact ⟨rfl, stepB HB4.out hb5⟩)
  | true =>
  have hle := (sound_iff.1 Hsb.out).1
  have hlen6 : len ≤ 6 := by have := HS.out.1; omega
  clear hle
  by_cases hn0 : n < 0
  · have hn0' := hn0
    refine held_start (w0 := w2) (Below.refl _ _) (by kernel_rfl) (fun wd hS => ?_)
    refine wpAnyH_take (i := 0) (v := .agg #[.int .u32 g, .slice A len cap, .int .i64 h, .int .i64 t, .bool p]) rfl (by kernel_rfl) (by kernel_rfl) (by kernel_rfl) (fun _ _ _ h => h) (Or.inl ⟨by rfl, ?_⟩) hS ?_
    · intro W hW; exact exec_load5 rfl rfl (load5 ((hW.block _ xl2).trans HX2.out) Try.underlying25 infoTb)
    try simp only [List.getElem_toArray, List.getElem_cons_succ, List.getElem_cons_zero, Act.put, List.setIfInBounds_toArray, List.set]
    refine wpAnyH_take (i := 2) (v := .agg #[.int .u32 g, .slice A len cap, .int .i64 h, .int .i64 t, .bool p]) rfl (by kernel_rfl) (by kernel_rfl) (by kernel_rfl) (fun _ _ _ h => h) (Or.inl ⟨by rfl, ?_⟩) hS ?_
    · intro W hW; exact exec_load5 rfl rfl (load5 ((hW.block _ xl2).trans HX2.out) Try.underlying25 infoTb)
    try simp only [List.getElem_toArray, List.getElem_cons_succ, List.getElem_cons_zero, Act.put, List.setIfInBounds_toArray, List.set]
    refine wpAnyH_one 1 _ rfl (by kernel_rfl) (by rfl) (fun K hK => ?_)
    go_simp
    refine (Kso.out _ (stepB HB2.out hS)).mono ?_
    rintro e w3 ⟨rfl, hb3⟩
    have hS3 : Below w2.heap.size w2 w3 := stepB hS hb3
    refine hK _ _ hS3 ?_
    clear hK K
    try simp only [List.getElem_toArray, List.getElem_cons_succ, List.getElem_cons_zero, Act.put, List.setIfInBounds_toArray, List.set]
    refine wpAnyH_one 3 _ rfl (by kernel_rfl) (by rfl) (fun K hK => ?_)
    go_simp
    refine (Krs.out _ (stepB HB2.out hS3)).mono ?_
    rintro e w4 ⟨rfl, hb4⟩
    have hS4 : Below w2.heap.size w2 w4 := stepB hS3 hb4
    refine hK _ _ hS4 ?_
    clear hK K
    try simp only [List.getElem_toArray, List.getElem_cons_succ, List.getElem_cons_zero, Act.put, List.setIfInBounds_toArray, List.set]
    refine wpAnyH_take (i := 4) (v := .bool false) rfl (by kernel_rfl) (by kernel_rfl) (by kernel_rfl) (fun _ _ _ h => h) (Or.inl ⟨by rfl, ?_⟩) hS4 ?_
    · intro W hW; go_simp
    try simp only [List.getElem_toArray, List.getElem_cons_succ, List.getElem_cons_zero, Act.put, List.setIfInBounds_toArray, List.set]
    refine wpAnyH_done (by kernel_rfl) ?_ _
    have HX4 := Lib.hid ((hS4.block w.heap.size xl2).trans HX2.out); have HY4 := Lib.hid ((hS4.block (w.heap.size + 1) yl2).trans HY2.out); have HB4 := Lib.hid (stepB HB2.out hS4)
    clear hS hS3 hS4 hb3 hb4 HX2 HY2 HB2 xl2 x0_2 x1_2 x2_2 x3_2 x4_2 xf2 yl2 y0_2 y1_2 y2_2 y3_2 y4_2 yf2
    obtain ⟨xl4, x0_4, x1_4, x2_4, x3_4, x4_4, xf4⟩ := box5 HX4.out
    obtain ⟨yl4, y0_4, y1_4, y2_4, y3_4, y4_4, yf4⟩ := box5 HY4.out
    go_wp2_with (go_at_call 12; refine (Krs.out _ HB4.out).mono ?_; rintro e w5 ⟨rfl, hb5⟩)
    all_goals (go_ret; exact ⟨rfl, stepB HB4.out hb5⟩)
  by_cases hn7 : 7 < n
  · have hn7' : ¬ n ≤ 7 := by omega
    refine held_start (w0 := w2) (Below.refl _ _) (by kernel_rfl) (fun wd hS => ?_)
    refine wpAnyH_take (i := 0) (v := .agg #[.int .u32 g, .slice A len cap, .int .i64 h, .int .i64 t, .bool p]) rfl (by kernel_rfl) (by kernel_rfl) (by kernel_rfl) (fun _ _ _ h => h) (Or.inl ⟨by rfl, ?_⟩) hS ?_
    · intro W hW; exact exec_load5 rfl rfl (load5 ((hW.block _ xl2).trans HX2.out) Try.underlying25 infoTb)
    try simp only [List.getElem_toArray, List.getElem_cons_succ, List.getElem_cons_zero, Act.put, List.setIfInBounds_toArray, List.set]
    refine wpAnyH_take (i := 2) (v := .agg #[.int .u32 g, .slice A len cap, .int .i64 h, .int .i64 t, .bool p]) rfl (by kernel_rfl) (by kernel_rfl) (by kernel_rfl) (fun _ _ _ h => h) (Or.inl ⟨by rfl, ?_⟩) hS ?_
    · intro W hW; exact exec_load5 rfl rfl (load5 ((hW.block _ xl2).trans HX2.out) Try.underlying25 infoTb)
    try simp only [List.getElem_toArray, List.getElem_cons_succ, List.getElem_cons_zero, Act.put, List.setIfInBounds_toArray, List.set]
    refine wpAnyH_one 1 _ rfl (by kernel_rfl) (by rfl) (fun K hK => ?_)
    go_simp
    refine (Kso.out _ (stepB HB2.out hS)).mono ?_
    rintro e w3 ⟨rfl, hb3⟩
    have hS3 : Below w2.heap.size w2 w3 := stepB hS hb3
    refine hK _ _ hS3 ?_
    clear hK K
    try simp only [List.getElem_toArray, List.getElem_cons_succ, List.getElem_cons_zero, Act.put, List.setIfInBounds_toArray, List.set]
    refine wpAnyH_one 3 _ rfl (by kernel_rfl) (by rfl) (fun K hK => ?_)
    go_simp
    refine (Krs.out _ (stepB HB2.out hS3)).mono ?_
    rintro e w4 ⟨rfl, hb4⟩
    have hS4 : Below w2.heap.size w2 w4 := stepB hS3 hb4
    refine hK _ _ hS4 ?_
    clear hK K
    try simp only [List.getElem_toArray, List.getElem_cons_succ, List.getElem_cons_zero, Act.put, List.setIfInBounds_toArray, List.set]
    refine wpAnyH_take (i := 4) (v := .bool false) rfl (by kernel_rfl) (by kernel_rfl) (by kernel_rfl) (fun _ _ _ h => h) (Or.inl ⟨by rfl, ?_⟩) hS4 ?_
    · intro W hW; go_simp
    try simp only [List.getElem_toArray, List.getElem_cons_succ, List.getElem_cons_zero, Act.put, List.setIfInBounds_toArray, List.set]
    refine wpAnyH_done (by kernel_rfl) ?_ _
    have HX4 := Lib.hid ((hS4.block w.heap.size xl2).trans HX2.out); have HY4 := Lib.hid ((hS4.block (w.heap.size + 1) yl2).trans HY2.out); have HB4 := Lib.hid (stepB HB2.out hS4)
    clear hS hS3 hS4 hb3 hb4 HX2 HY2 HB2 xl2 x0_2 x1_2 x2_2 x3_2 x4_2 xf2 yl2 y0_2 y1_2 y2_2 y3_2 y4_2 yf2
    obtain ⟨xl4, x0_4, x1_4, x2_4, x3_4, x4_4, xf4⟩ := box5 HX4.out
    obtain ⟨yl4, y0_4, y1_4, y2_4, y3_4, y4_4, yf4⟩ := box5 HY4.out
    go_wp2_with (go_at_call 12; refine (Krs.out _ HB4.out).mono ?_; rintro e w5 ⟨rfl, hb5⟩)
    all_goals (go_ret; exact ⟨rfl, stepB HB4.out hb5⟩)
  obtain ⟨j, rfl⟩ : ∃ j : Nat, n = (j : Int) := ⟨n.toNat, by omega⟩
  have hj : j < 8 := by omega
  have n1 : decide ((j : Int) < 0) = false := by simp
  have n2 : decide (7 < (j : Int)) = false := by simp; omega
  have n3 : ¬ 7 < (j : Int) := by omega
  clear hn0 hn7
  refine held_start (w0 := w2) (Below.refl _ _) (by kernel_rfl) (fun wd hS => ?_)
  refine wpAnyH_take (i := 0) (v := .agg #[.int .u32 g, .slice A len cap, .int .i64 h, .int .i64 t, .bool p]) rfl (by kernel_rfl) (by kernel_rfl) (by kernel_rfl) (fun _ _ _ h => h) (Or.inl ⟨by rfl, ?_⟩) hS ?_
  · intro W hW; exact exec_load5 rfl rfl (load5 ((hW.block _ xl2).trans HX2.out) Try.underlying25 infoTb)
  try simp only [List.getElem_toArray, List.getElem_cons_succ, List.getElem_cons_zero, Act.put, List.setIfInBounds_toArray, List.set]
  refine wpAnyH_take (i := 2) (v := .agg #[.int .u32 g, .slice A len cap, .int .i64 h, .int .i64 t, .bool p]) rfl (by kernel_rfl) (by kernel_rfl) (by kernel_rfl) (fun _ _ _ h => h) (Or.inl ⟨by rfl, ?_⟩) hS ?_
  · intro W hW; exact exec_load5 rfl rfl (load5 ((hW.block _ xl2).trans HX2.out) Try.underlying25 infoTb)
  try simp only [List.getElem_toArray, List.getElem_cons_succ, List.getElem_cons_zero, Act.put, List.setIfInBounds_toArray, List.set]
  refine wpAnyH_one 1 _ rfl (by kernel_rfl) (by rfl) (fun K hK => ?_)
  go_simp
  refine (Kso.out _ (stepB HB2.out hS)).mono ?_
  rintro e w3 ⟨rfl, hb3⟩
  have hS3 : Below w2.heap.size w2 w3 := stepB hS hb3
  refine hK _ _ hS3 ?_
  clear hK K
  try simp only [List.getElem_toArray, List.getElem_cons_succ, List.getElem_cons_zero, Act.put, List.setIfInBounds_toArray, List.set]
  refine wpAnyH_one 3 _ rfl (by kernel_rfl) (by rfl) (fun K hK => ?_)
  go_simp
  refine (Krs.out _ (stepB HB2.out hS3)).mono ?_
  rintro e w4 ⟨rfl, hb4⟩
  have hS4 : Below w2.heap.size w2 w4 := stepB hS3 hb4
  refine hK _ _ hS4 ?_
  clear hK K
  try simp only [List.getElem_toArray, List.getElem_cons_succ, List.getElem_cons_zero, Act.put, List.setIfInBounds_toArray, List.set]
  refine wpAnyH_take (i := 4) (v := .bool false) rfl (by kernel_rfl) (by kernel_rfl) (by kernel_rfl) (fun _ _ _ h => h) (Or.inl ⟨by rfl, ?_⟩) hS4 ?_
  · intro W hW; go_simp
  try simp only [List.getElem_toArray, List.getElem_cons_succ, List.getElem_cons_zero, Act.put, List.setIfInBounds_toArray, List.set]
  refine wpAnyH_done (by kernel_rfl) ?_ _
  have HX4 := Lib.hid ((hS4.block w.heap.size xl2).trans HX2.out); have HY4 := Lib.hid ((hS4.block (w.heap.size + 1) yl2).trans HY2.out); have HB4 := Lib.hid (stepB HB2.out hS4)
  clear hS hS3 hS4 hb3 hb4 HX2 HY2 HB2 xl2 x0_2 x1_2 x2_2 x3_2 x4_2 xf2 yl2 y0_2 y1_2 y2_2 y3_2 y4_2 yf2
  obtain ⟨xl4, x0_4, x1_4, x2_4, x3_4, x4_4, xf4⟩ := box5 HX4.out
  obtain ⟨yl4, y0_4, y1_4, y2_4, y3_4, y4_4, yf4⟩ := box5 HY4.out
  obtain ⟨R, HR⟩ : ∃ R, Hid (actL ⟨g, l, h, t, p⟩ (j : Int) a ty key other ap = R) := ⟨_, Lib.hid rfl⟩
  have Ka : Hid (∀ W, Below w.heap.size w W → Calls Try.prog 13 #[.agg #[.int .u32 g, .slice A len cap, .int .i64 h, .int .i64 t, .bool p], .int .i64 (j : Int), .agg #[.int .i64 a, .int .i64 ty, .int .u64 key, .int .u64 other, .bool ap]] W (AcP W (j : Int) R)) :=
    Lib.hid fun W hb => actc (T := ⟨g, l, h, t, p⟩) (HS.out.below hb) Hsb.out (by omega) (by omega) HR.out
  have Kra : Hid (∀ W, Below w.heap.size w W → Calls Try.prog 14 #[.agg #[.int .u32 g, .slice A len cap, .int .i64 h, .int .i64 t, .bool p], .int .i64 (j : Int), .agg #[.int .i64 a, .int .i64 ty, .int .u64 key, .int .u64 other, .bool ap]] W (ActP W A len cap l (refR (j : Int) R))) :=
    Lib.hid fun W hb => by rw [← HR.out]; exact ract_any ⟨g, l, h, t, p⟩ A len cap W (HS.out.below hb) hlen6 Hsb.out j hj a ty key other ap
  have Kto : Hid (∀ W, Calls Try.prog 15 #[.agg #[.int .i64 a, .int .i64 ty, .int .u64 key, .int .u64 other, .bool ap]] W (Ret (.agg #[.int .i64 a, .int .i64 ty, .int .u64 key, .int .u64 other, .bool ap]) W)) := Lib.hid fun W => told_any a ty key other ap W
  obtain ⟨hsR, hgR⟩ := act_sound (T := ⟨g, l, h, t, p⟩) Hsb.out (j : Int) a ty key other (by omega) (by omega) ap
  rw [HR.out] at hsR hgR
  obtain ⟨⟨g8, l8, h8, t8, p8⟩, st8, gn8⟩ := R
  simp only at hsR hgR
  have hgk : (keepN (j : Int) gn8).length ≤ 6 := Nat.le_trans (keepN_le _ _) hgR
  obtain ⟨gk, Hgk⟩ : ∃ x, Hid (keepN (j : Int) gn8 = x) := ⟨_, Lib.hid rfl⟩
  have Ka : Hid (∀ W, Below w.heap.size w W → Calls Try.prog 13 #[.agg #[.int .u32 g, .slice A len cap, .int .i64 h, .int .i64 t, .bool p], .int .i64 (j : Int), .agg #[.int .i64 a, .int .i64 ty, .int .u64 key, .int .u64 other, .bool ap]] W (fun e w' => ∃ A len cap u, e = .returned (.tuple #[.agg #[.int .u32 g8, .slice A len cap, .int .i64 h8, .int .i64 t8, .bool p8], .int .i64 st8, u]) ∧ OwnR W.heap.size w' (.slice A len cap) l8 ∧ OwnI W.heap.size w' u gk ∧ Below W.heap.size W w')) := Lib.hid fun W hb => by rw [← Hgk.out]; exact Ka.out W hb
  have Kra : Hid (∀ W, Below w.heap.size w W → Calls Try.prog 14 #[.agg #[.int .u32 g, .slice A len cap, .int .i64 h, .int .i64 t, .bool p], .int .i64 (j : Int), .agg #[.int .i64 a, .int .i64 ty, .int .u64 key, .int .u64 other, .bool ap]] W (fun e w' => ∃ A' len' cap' u, e = .returned (.tuple #[.agg #[.int .u32 g8, .slice A' len' cap', .int .i64 h8, .int .i64 t8, .bool p8], .int .i64 st8, u]) ∧ KeptR W A len cap l A' len' cap' l8 w' ∧ OwnI W.heap.size w' u gk ∧ Below W.heap.size W w')) := Lib.hid fun W hb => by rw [← Hgk.out]; exact Kra.out W hb
  rw [Hgk.out] at hgk
  have HsR := Lib.hid hsR; have Hgk6 := Lib.hid hgk
  clear hsR hgR hgk HR Hgk
  have hl8 : l8.length ≤ 6 := (sound_iff.1 HsR.out).1
  have Hll := Lib.hid HS.out.1
  go_upto_region 7 with (go_at_call 12; refine (Krs.out _ HB4.out).mono ?_; rintro e w5 ⟨rfl, hb5⟩)
  have hx5 := (hb5.block w.heap.size xl4).trans HX4.out
  have hy5 := (hb5.block (w.heap.size + 1) yl4).trans HY4.out
  have HX5 := Lib.hid hx5; have HY5 := Lib.hid hy5; have HB5 := Lib.hid (stepB HB4.out hb5)
  clear hx5 hy5 hb5 HX4 HY4 HB4 xl4 x0_4 x1_4 x2_4 x3_4 x4_4 xf4 yl4 y0_4 y1_4 y2_4 y3_4 y4_4 yf4
  obtain ⟨xl5, x0_5, x1_5, x2_5, x3_5, x4_5, xf5⟩ := box5 HX5.out
  obtain ⟨yl5, y0_5, y1_5, y2_5, y3_5, y4_5, yf5⟩ := box5 HY5.out
  go_upto_region 8 with (at_builtin; refine wpList_plain rfl fun K hK => ?_; refine wp_behind (.const (.slice none 0 0)) (.tmp 35) rfl w5.heap.size (.slice none 0 0) [] rfl (OwnR.nil _ _) (Nat.le_refl _) A len cap _ l rfl HS.out.1 (HS.out.below HB5.out).2.2.2 (by simp; omega) ?_; intro v6 w6 ho6 hg6; refine hK _ _ ?_; clear hK)
  have hb56 : Below w5.heap.size w5 w6 := below_grown (Below.refl _ _) (OwnR.nil w5.heap.size w5) hg6 (Nat.le_refl _)
  have ho6' : OwnR w5.heap.size w6 v6 l := by simpa using ho6
  obtain ⟨A6, c6, rfl, hs6⟩ := ho6'.sl
  rw [Hll.out] at hs6
  rw [Hll.out]
  have HX6 := Lib.hid ((hb56.block w.heap.size xl5).trans HX5.out); have HY6 := Lib.hid ((hb56.block (w.heap.size + 1) yl5).trans HY5.out); have HB6 := Lib.hid (stepB HB5.out hb56); have HS6 := Lib.hid hs6
  clear ho6 ho6' hg6 hs6 hb56 HX5 HY5 HB5 xl5 x0_5 x1_5 x2_5 x3_5 x4_5 xf5 yl5 y0_5 y1_5 y2_5 y3_5 y4_5 yf5
  obtain ⟨xl6, x0_6, x1_6, x2_6, x3_6, x4_6, xf6⟩ := box5 HX6.out
  obtain ⟨yl6, y0_6, y1_6, y2_6, y3_6, y4_6, yf6⟩ := box5 HY6.out
  go_upto_region 9 with (go_at_call 13; refine (Ka.out _ HB6.out).mono ?_; rintro e w7 ⟨A1, n1', c1, u1, rfl, ho7, hi7, hb7⟩)
  have hq8 := heap_alloc_new w7 (.cells #[.int .u32 g8, .slice A1 n1' c1, .int .i64 h8, .int .i64 t8, .bool p8] 25)
  have hb78 := bel1 w7 (.cells #[.int .u32 g8, .slice A1 n1' c1, .int .i64 h8, .int .i64 t8, .bool p8] 25)
  have hs8 := (OwnR.sl2 ho7).below hb78
  have hi8 := hi7.below hb78
  have hb68 := stepB hb7 hb78
  obtain ⟨q1, Hq1⟩ : ∃ q, Hid (w7.heap.size = q) := ⟨_, Lib.hid rfl⟩
  rw [Hq1.out] at hq8
  generalize w7.alloc (.cells #[.int .u32 g8, .slice A1 n1' c1, .int .i64 h8, .int .i64 t8, .bool p8] 25) = w8 at hq8 hb78 hs8 hi8 hb68 ⊢
  rw [Hq1.out]
  have HX8 := Lib.hid ((hb68.block w.heap.size xl6).trans HX6.out); have HY8 := Lib.hid ((hb68.block (w.heap.size + 1) yl6).trans HY6.out); have HB8 := Lib.hid (stepB HB6.out hb68); have HQ8 := Lib.hid hq8; have HS8 := Lib.hid hs8; have HI8 := Lib.hid hi8; have HS68 := Lib.hid (HS6.out.below hb68)
  clear hq8 hb78 hs8 hi8 hb68 ho7 hi7 hb7 Hq1 HX6 HY6 HB6 HS6 Ka xl6 x0_6 x1_6 x2_6 x3_6 x4_6 xf6 yl6 y0_6 y1_6 y2_6 y3_6 y4_6 yf6
  obtain ⟨xl8, x0_8, x1_8, x2_8, x3_8, x4_8, xf8⟩ := box5 HX8.out
  obtain ⟨yl8, y0_8, y1_8, y2_8, y3_8, y4_8, yf8⟩ := box5 HY8.out
  refine held_start (w0 := w8) (Below.refl _ _) (by kernel_rfl) (fun wd hS => ?_)
  apply cut6 (R := fun A3 n3 c3 u3 q2 wf => wf.heap[q2]? = some (.cells #[.int .u32 g8, .slice A3 n3 c3, .int .i64 h8, .int .i64 t8, .bool p8] 25 (0, 0)) ∧ SlR wf A3 n3 c3 l8 ∧ (∃ B, OwnI B wf u3 gk) ∧ Below w8.heap.size w8 wf ∧ w8.heap.size ≤ q2)
  case walk =>
    intro kont
    refine wpAnyH_take (i := 0) (v := .agg #[.int .u32 g, .slice A len cap, .int .i64 h, .int .i64 t, .bool p]) rfl (by kernel_rfl) (by kernel_rfl) (by kernel_rfl) (fun _ _ _ h => h) (Or.inl ⟨by rfl, ?_⟩) hS ?_
    · intro W hW; exact exec_load5 rfl rfl (load5 ((hW.block _ xl8).trans HX8.out) Try.underlying25 infoTb)
    try simp only [List.getElem_toArray, List.getElem_cons_succ, List.getElem_cons_zero, Act.put, List.setIfInBounds_toArray, List.set]
    refine wpAnyH_take (i := 1) (v := .int .i64 (j : Int)) rfl (by kernel_rfl) (by kernel_rfl) (by kernel_rfl) (fun _ _ _ h => h) (Or.inl ⟨by rfl, ?_⟩) hS ?_
    · intro W hW; go_simp
    try simp only [List.getElem_toArray, List.getElem_cons_succ, List.getElem_cons_zero, Act.put, List.setIfInBounds_toArray, List.set]
    refine wpAnyH_take (i := 2) (v := .agg #[.int .i64 a, .int .i64 ty, .int .u64 key, .int .u64 other, .bool ap]) rfl (by kernel_rfl) (by kernel_rfl) (by kernel_rfl) (fun _ _ _ h => h) (Or.inl ⟨by rfl, ?_⟩) hS ?_
    · intro W hW; exact exec_load5 rfl rfl (load5 ((hW.block _ yl8).trans HY8.out) Try.underlying28 infoOrd)
    try simp only [List.getElem_toArray, List.getElem_cons_succ, List.getElem_cons_zero, Act.put, List.setIfInBounds_toArray, List.set]
    refine wpAnyH_two 3 9 _ _ rfl rfl (by kernel_rfl) (by rfl) (by rfl) (fun K hK => ?p1) (fun K hK => ?q1)
    case' p1 =>
      go_simp
      refine (Kto.out _).mono ?_
      rintro e v3 ⟨rfl, hbn⟩
      have hS3 : Below w8.heap.size w8 v3 := stepB hS hbn
      refine hK _ _ hS3 ?_
      clear hK K
      try simp only [List.getElem_toArray, List.getElem_cons_succ, List.getElem_cons_zero, Act.put, List.setIfInBounds_toArray, List.set]
      refine wpAnyH_two 4 9 _ _ rfl rfl (by kernel_rfl) (by rfl) (by rfl) (fun K hK => ?p2) (fun K hK => ?q2)
      case' p2 =>
        go_simp
        refine (Kra.out _ (stepB HB8.out hS3)).mono ?_
        rintro e v4 ⟨A3, n3, c3, u3, rfl, hk3, hi3, hbn⟩
        have hS4 : Below w8.heap.size w8 v4 := stepB hS3 hbn
        refine hK _ _ hS4 ?_
        clear hK K
        try simp only [List.getElem_toArray, List.getElem_cons_succ, List.getElem_cons_zero, Act.put, List.setIfInBounds_toArray, List.set]
        refine wpAnyH_take (i := 5) (v := .tuple #[.agg #[.int .u32 g8, .slice A3 n3 c3, .int .i64 h8, .int .i64 t8, .bool p8], .int .i64 st8, u3]) rfl (by kernel_rfl) (by kernel_rfl) (by kernel_rfl) (fun _ _ _ h => h) (Or.inl ⟨by rfl, ?_⟩) hS4 ?_
        · intro W hW; go_simp
        try simp only [List.getElem_toArray, List.getElem_cons_succ, List.getElem_cons_zero, Act.put, List.setIfInBounds_toArray, List.set]
        refine wpAnyH_take (i := 6) (v := .agg #[.int .u32 g8, .slice A3 n3 c3, .int .i64 h8, .int .i64 t8, .bool p8]) rfl (by kernel_rfl) (by kernel_rfl) (by kernel_rfl) (fun _ _ _ h => h) (Or.inl ⟨by rfl, ?_⟩) hS4 ?_
        · intro W hW; go_simp
        try simp only [List.getElem_toArray, List.getElem_cons_succ, List.getElem_cons_zero, Act.put, List.setIfInBounds_toArray, List.set]
        refine wpAnyH_take (i := 7) (v := .int .i64 st8) rfl (by kernel_rfl) (by kernel_rfl) (by kernel_rfl) (fun _ _ _ h => h) (Or.inl ⟨by rfl, ?_⟩) hS4 ?_
        · intro W hW; go_simp
        try simp only [List.getElem_toArray, List.getElem_cons_succ, List.getElem_cons_zero, Act.put, List.setIfInBounds_toArray, List.set]
        refine wpAnyH_take (i := 8) (v := u3) rfl (by kernel_rfl) (by kernel_rfl) (by kernel_rfl) (fun _ _ _ h => h) (Or.inl ⟨by rfl, ?_⟩) hS4 ?_
        · intro W hW; go_simp
        try simp only [List.getElem_toArray, List.getElem_cons_succ, List.getElem_cons_zero, Act.put, List.setIfInBounds_toArray, List.set]
        refine wpAnyH_one 9 _ rfl (by kernel_rfl) (by rfl) (fun K hK => ?_)
        go_simp
        have hS5 : Below w8.heap.size w8 (v4.alloc (.cells #[.int .u32 0, .slice none 0 0, .int .i64 0, .int .i64 0, .bool false] 25)) := stepB hS4 (bel1 v4 (.cells #[.int .u32 0, .slice none 0 0, .int .i64 0, .int .i64 0, .bool false] 25))
        have hq5 := heap_alloc_new v4 (.cells #[.int .u32 0, .slice none 0 0, .int .i64 0, .int .i64 0, .bool false] 25)
        have hb45 := bel1 v4 (.cells #[.int .u32 0, .slice none 0 0, .int .i64 0, .int .i64 0, .bool false] 25)
        obtain ⟨q2, Hq2⟩ : ∃ q, Hid (v4.heap.size = q) := ⟨_, Lib.hid rfl⟩
        have hqb : w8.heap.size ≤ q2 := by rw [← Hq2.out]; exact hS4.size
        generalize hva : v4.alloc (.cells #[.int .u32 0, .slice none 0 0, .int .i64 0, .int .i64 0, .bool false] 25) = v5 at *
        rw [Hq2.out] at hq5 ⊢
        clear hva
        have hq := hq5
        have hk := hk3.below hb45
        have hi := hi3.below hb45
        refine hK _ _ hS5 ?_
        clear hK K
        try simp only [List.getElem_toArray, List.getElem_cons_succ, List.getElem_cons_zero, Act.put, List.setIfInBounds_toArray, List.set]
        obtain ⟨dl, d0, d1, d2, d3, d4, df⟩ := box5 hq
        refine wpAnyH_one 10 _ rfl (by kernel_rfl) (by rfl) (fun K hK => ?_)
        go_simp
        have ho5 := set5_heap hq (.int .u32 g8) (.slice A3 n3 c3) (.int .i64 h8) (.int .i64 t8) (.bool p8)
        have hoth : ∀ i, i ≠ q2 → _ := fun i hi => set5_other (w := v5) (b := q2) (j := i) hi (.int .u32 g8) (.slice A3 n3 c3) (.int .i64 h8) (.int .i64 t8) (.bool p8)
        have hS9 := set5B hS5 hqb (.int .u32 g8) (.slice A3 n3 c3) (.int .i64 h8) (.int .i64 t8) (.bool p8)
        refine hK _ _ hS9 ?_
        clear hK K
        try simp only [List.getElem_toArray, List.getElem_cons_succ, List.getElem_cons_zero, Act.put, List.setIfInBounds_toArray, List.set]
        refine wpAnyH_take (i := 11) (v := .int .i64 st8) rfl (by kernel_rfl) (by kernel_rfl) (by kernel_rfl) (fun _ _ _ h => h) (Or.inl ⟨by rfl, ?_⟩) hS9 ?_
        · intro W hW; go_simp
        try simp only [List.getElem_toArray, List.getElem_cons_succ, List.getElem_cons_zero, Act.put, List.setIfInBounds_toArray, List.set]
        refine wpAnyH_take (i := 12) (v := u3) rfl (by kernel_rfl) (by kernel_rfl) (by kernel_rfl) (fun _ _ _ h => h) (Or.inl ⟨by rfl, ?_⟩) hS9 ?_
        · intro W hW; go_simp
        try simp only [List.getElem_toArray, List.getElem_cons_succ, List.getElem_cons_zero, Act.put, List.setIfInBounds_toArray, List.set]
        refine wpAnyH_done (by kernel_rfl) ?_ _
        exact kont A3 n3 c3 u3 q2 _ ⟨ho5, KeptR.last hk HS.out (stepB HB8.out hS9) hoth hq (by decide), ⟨_, hi.keep hoth hq (by decide)⟩, hS9, hqb⟩
      case' q2 =>
        go_simp
        have hS4 : Below w8.heap.size w8 (v3.alloc (.cells #[.int .u32 0, .slice none 0 0, .int .i64 0, .int .i64 0, .bool false] 25)) := stepB hS3 (bel1 v3 (.cells #[.int .u32 0, .slice none 0 0, .int .i64 0, .int .i64 0, .bool false] 25))
        have hq4 := heap_alloc_new v3 (.cells #[.int .u32 0, .slice none 0 0, .int .i64 0, .int .i64 0, .bool false] 25)
        obtain ⟨q2, Hq2⟩ : ∃ q, Hid (v3.heap.size = q) := ⟨_, Lib.hid rfl⟩
        have hqb : w8.heap.size ≤ q2 := by rw [← Hq2.out]; exact hS3.size
        generalize hva : v3.alloc (.cells #[.int .u32 0, .slice none 0 0, .int .i64 0, .int .i64 0, .bool false] 25) = v4 at *
        rw [Hq2.out] at hq4 ⊢
        clear hva
        refine hK _ _ hS4 ?_
        clear hK K
        try simp only [List.getElem_toArray, List.getElem_cons_succ, List.getElem_cons_zero, Act.put, List.setIfInBounds_toArray, List.set]
        refine wpAnyH_one 4 _ rfl (by kernel_rfl) (by rfl) (fun K hK => ?_)
        go_simp
        refine (Kra.out _ (stepB HB8.out hS4)).mono ?_
        rintro e v5 ⟨A3, n3, c3, u3, rfl, hk3, hi3, hbn⟩
        have hS5 : Below w8.heap.size w8 v5 := stepB hS4 hbn
        have hk := hk3
        have hi := hi3
        have hq := (hbn.block q2 (Array.getElem?_eq_some_iff.1 hq4).1).trans hq4
        refine hK _ _ hS5 ?_
        clear hK K
        try simp only [List.getElem_toArray, List.getElem_cons_succ, List.getElem_cons_zero, Act.put, List.setIfInBounds_toArray, List.set]
        refine wpAnyH_take (i := 5) (v := .tuple #[.agg #[.int .u32 g8, .slice A3 n3 c3, .int .i64 h8, .int .i64 t8, .bool p8], .int .i64 st8, u3]) rfl (by kernel_rfl) (by kernel_rfl) (by kernel_rfl) (fun _ _ _ h => h) (Or.inl ⟨by rfl, ?_⟩) hS5 ?_
        · intro W hW; go_simp
        try simp only [List.getElem_toArray, List.getElem_cons_succ, List.getElem_cons_zero, Act.put, List.setIfInBounds_toArray, List.set]
        refine wpAnyH_take (i := 6) (v := .agg #[.int .u32 g8, .slice A3 n3 c3, .int .i64 h8, .int .i64 t8, .bool p8]) rfl (by kernel_rfl) (by kernel_rfl) (by kernel_rfl) (fun _ _ _ h => h) (Or.inl ⟨by rfl, ?_⟩) hS5 ?_
        · intro W hW; go_simp
        try simp only [List.getElem_toArray, List.getElem_cons_succ, List.getElem_cons_zero, Act.put, List.setIfInBounds_toArray, List.set]
        refine wpAnyH_take (i := 7) (v := .int .i64 st8) rfl (by kernel_rfl) (by kernel_rfl) (by kernel_rfl) (fun _ _ _ h => h) (Or.inl ⟨by rfl, ?_⟩) hS5 ?_
        · intro W hW; go_simp
        try simp only [List.getElem_toArray, List.getElem_cons_succ, List.getElem_cons_zero, Act.put, List.setIfInBounds_toArray, List.set]
        refine wpAnyH_take (i := 8) (v := u3) rfl (by kernel_rfl) (by kernel_rfl) (by kernel_rfl) (fun _ _ _ h => h) (Or.inl ⟨by rfl, ?_⟩) hS5 ?_
        · intro W hW; go_simp
        try simp only [List.getElem_toArray, List.getElem_cons_succ, List.getElem_cons_zero, Act.put, List.setIfInBounds_toArray, List.set]
        obtain ⟨dl, d0, d1, d2, d3, d4, df⟩ := box5 hq
        refine wpAnyH_one 10 _ rfl (by kernel_rfl) (by rfl) (fun K hK => ?_)
        go_simp
        have ho5 := set5_heap hq (.int .u32 g8) (.slice A3 n3 c3) (.int .i64 h8) (.int .i64 t8) (.bool p8)
        have hoth : ∀ i, i ≠ q2 → _ := fun i hi => set5_other (w := v5) (b := q2) (j := i) hi (.int .u32 g8) (.slice A3 n3 c3) (.int .i64 h8) (.int .i64 t8) (.bool p8)
        have hS9 := set5B hS5 hqb (.int .u32 g8) (.slice A3 n3 c3) (.int .i64 h8) (.int .i64 t8) (.bool p8)
        refine hK _ _ hS9 ?_
        clear hK K
        try simp only [List.getElem_toArray, List.getElem_cons_succ, List.getElem_cons_zero, Act.put, List.setIfInBounds_toArray, List.set]
        refine wpAnyH_take (i := 11) (v := .int .i64 st8) rfl (by kernel_rfl) (by kernel_rfl) (by kernel_rfl) (fun _ _ _ h => h) (Or.inl ⟨by rfl, ?_⟩) hS9 ?_
        · intro W hW; go_simp
        try simp only [List.getElem_toArray, List.getElem_cons_succ, List.getElem_cons_zero, Act.put, List.setIfInBounds_toArray, List.set]
        refine wpAnyH_take (i := 12) (v := u3) rfl (by kernel_rfl) (by kernel_rfl) (by kernel_rfl) (fun _ _ _ h => h) (Or.inl ⟨by rfl, ?_⟩) hS9 ?_
        · intro W hW; go_simp
        try simp only [List.getElem_toArray, List.getElem_cons_succ, List.getElem_cons_zero, Act.put, List.setIfInBounds_toArray, List.set]
        refine wpAnyH_done (by kernel_rfl) ?_ _
        exact kont A3 n3 c3 u3 q2 _ ⟨ho5, KeptR.last hk HS.out (stepB HB8.out hS9) hoth hq (by decide), ⟨_, hi.keep hoth hq (by decide)⟩, hS9, hqb⟩
    case' q1 =>
      go_simp
      have hS3 : Below w8.heap.size w8 (wd.alloc (.cells #[.int .u32 0, .slice none 0 0, .int .i64 0, .int .i64 0, .bool false] 25)) := stepB hS (bel1 wd (.cells #[.int .u32 0, .slice none 0 0, .int .i64 0, .int .i64 0, .bool false] 25))
      have hq3 := heap_alloc_new wd (.cells #[.int .u32 0, .slice none 0 0, .int .i64 0, .int .i64 0, .bool false] 25)
      obtain ⟨q2, Hq2⟩ : ∃ q, Hid (wd.heap.size = q) := ⟨_, Lib.hid rfl⟩
      have hqb : w8.heap.size ≤ q2 := by rw [← Hq2.out]; exact hS.size
      generalize hva : wd.alloc (.cells #[.int .u32 0, .slice none 0 0, .int .i64 0, .int .i64 0, .bool false] 25) = v3 at *
      rw [Hq2.out] at hq3 ⊢
      clear hva
      refine hK _ _ hS3 ?_
      clear hK K
      try simp only [List.getElem_toArray, List.getElem_cons_succ, List.getElem_cons_zero, Act.put, List.setIfInBounds_toArray, List.set]
      refine wpAnyH_one 3 _ rfl (by kernel_rfl) (by rfl) (fun K hK => ?_)
      go_simp
      refine (Kto.out _).mono ?_
      rintro e v4 ⟨rfl, hbn⟩
      have hS4 : Below w8.heap.size w8 v4 := stepB hS3 hbn
      have hq4 := (hbn.block q2 (Array.getElem?_eq_some_iff.1 hq3).1).trans hq3
      clear hbn
      refine hK _ _ hS4 ?_
      clear hK K
      try simp only [List.getElem_toArray, List.getElem_cons_succ, List.getElem_cons_zero, Act.put, List.setIfInBounds_toArray, List.set]
      refine wpAnyH_one 4 _ rfl (by kernel_rfl) (by rfl) (fun K hK => ?_)
      go_simp
      refine (Kra.out _ (stepB HB8.out hS4)).mono ?_
      rintro e v5 ⟨A3, n3, c3, u3, rfl, hk3, hi3, hbn⟩
      have hS5 : Below w8.heap.size w8 v5 := stepB hS4 hbn
      have hk := hk3
      have hi := hi3
      have hq := (hbn.block q2 (Array.getElem?_eq_some_iff.1 hq4).1).trans hq4
      refine hK _ _ hS5 ?_
      clear hK K
      try simp only [List.getElem_toArray, List.getElem_cons_succ, List.getElem_cons_zero, Act.put, List.setIfInBounds_toArray, List.set]
      refine wpAnyH_take (i := 5) (v := .tuple #[.agg #[.int .u32 g8, .slice A3 n3 c3, .int .i64 h8, .int .i64 t8, .bool p8], .int .i64 st8, u3]) rfl (by kernel_rfl) (by kernel_rfl) (by kernel_rfl) (fun _ _ _ h => h) (Or.inl ⟨by rfl, ?_⟩) hS5 ?_
      · intro W hW; go_simp
      try simp only [List.getElem_toArray, List.getElem_cons_succ, List.getElem_cons_zero, Act.put, List.setIfInBounds_toArray, List.set]
      refine wpAnyH_take (i := 6) (v := .agg #[.int .u32 g8, .slice A3 n3 c3, .int .i64 h8, .int .i64 t8, .bool p8]) rfl (by kernel_rfl) (by kernel_rfl) (by kernel_rfl) (fun _ _ _ h => h) (Or.inl ⟨by rfl, ?_⟩) hS5 ?_
      · intro W hW; go_simp
      try simp only [List.getElem_toArray, List.getElem_cons_succ, List.getElem_cons_zero, Act.put, List.setIfInBounds_toArray, List.set]
      refine wpAnyH_take (i := 7) (v := .int .i64 st8) rfl (by kernel_rfl) (by kernel_rfl) (by kernel_rfl) (fun _ _ _ h => h) (Or.inl ⟨by rfl, ?_⟩) hS5 ?_
      · intro W hW; go_simp
      try simp only [List.getElem_toArray, List.getElem_cons_succ, List.getElem_cons_zero, Act.put, List.setIfInBounds_toArray, List.set]
      refine wpAnyH_take (i := 8) (v := u3) rfl (by kernel_rfl) (by kernel_rfl) (by kernel_rfl) (fun _ _ _ h => h) (Or.inl ⟨by rfl, ?_⟩) hS5 ?_
      · intro W hW; go_simp
      try simp only [List.getElem_toArray, List.getElem_cons_succ, List.getElem_cons_zero, Act.put, List.setIfInBounds_toArray, List.set]
      obtain ⟨dl, d0, d1, d2, d3, d4, df⟩ := box5 hq
      refine wpAnyH_one 10 _ rfl (by kernel_rfl) (by rfl) (fun K hK => ?_)
      go_simp
      have ho5 := set5_heap hq (.int .u32 g8) (.slice A3 n3 c3) (.int .i64 h8) (.int .i64 t8) (.bool p8)
      have hoth : ∀ i, i ≠ q2 → _ := fun i hi => set5_other (w := v5) (b := q2) (j := i) hi (.int .u32 g8) (.slice A3 n3 c3) (.int .i64 h8) (.int .i64 t8) (.bool p8)
      have hS9 := set5B hS5 hqb (.int .u32 g8) (.slice A3 n3 c3) (.int .i64 h8) (.int .i64 t8) (.bool p8)
      refine hK _ _ hS9 ?_
      clear hK K
      try simp only [List.getElem_toArray, List.getElem_cons_succ, List.getElem_cons_zero, Act.put, List.setIfInBounds_toArray, List.set]
      refine wpAnyH_take (i := 11) (v := .int .i64 st8) rfl (by kernel_rfl) (by kernel_rfl) (by kernel_rfl) (fun _ _ _ h => h) (Or.inl ⟨by rfl, ?_⟩) hS9 ?_
      · intro W hW; go_simp
      try simp only [List.getElem_toArray, List.getElem_cons_succ, List.getElem_cons_zero, Act.put, List.setIfInBounds_toArray, List.set]
      refine wpAnyH_take (i := 12) (v := u3) rfl (by kernel_rfl) (by kernel_rfl) (by kernel_rfl) (fun _ _ _ h => h) (Or.inl ⟨by rfl, ?_⟩) hS9 ?_
      · intro W hW; go_simp
      try simp only [List.getElem_toArray, List.getElem_cons_succ, List.getElem_cons_zero, Act.put, List.setIfInBounds_toArray, List.set]
      refine wpAnyH_done (by kernel_rfl) ?_ _
      exact kont A3 n3 c3 u3 q2 _ ⟨ho5, KeptR.last hk HS.out (stepB HB8.out hS9) hoth hq (by decide), ⟨_, hi.keep hoth hq (by decide)⟩, hS9, hqb⟩
  intro A3 n3' c3 u3 q2 w9 ⟨hq9, hs9, ⟨B9, hi9⟩, hb9, hqb9⟩
  have HX9 := Lib.hid ((hb9.block w.heap.size xl8).trans HX8.out); have HQ1 := Lib.hid ((hb9.block q1 (Array.getElem?_eq_some_iff.1 HQ8.out).1).trans HQ8.out); have HQ2 := Lib.hid hq9; have HS1 := Lib.hid (HS8.out.below hb9); have HS2 := Lib.hid hs9; have HI1 := Lib.hid (HI8.out.below hb9); have HI2 := Lib.hid hi9; have HSw := Lib.hid (HS68.out.below hb9); have HB9 := Lib.hid (stepB HB8.out hb9)
  clear hq9 hs9 hi9 hb9 hqb9 HX8 HY8 HQ8 HS8 HI8 HS68 HB8 Kra Kto xl8 x0_8 x1_8 x2_8 x3_8 x4_8 xf8 yl8 y0_8 y1_8 y2_8 y3_8 y4_8 yf8
  obtain ⟨xl9, x0_9, x1_9, x2_9, x3_9, x4_9, xf9⟩ := box5 HX9.out
  obtain ⟨Au, cu, rfl, hRu⟩ := HI1.out.form
  obtain ⟨Av, cv, rfl, hRv⟩ := HI2.out.form
  obtain ⟨K, HK⟩ : ∃ K, Hid (gk.length = K) := ⟨_, Lib.hid rfl⟩
  rw [HK.out]
  have hK6 : K ≤ 6 := by rw [← HK.out]; exact Hgk6.out
  have HRu := Lib.hid hRu; have HRv := Lib.hid hRv
  clear hRu hRv HI1 HI2
  have Ksm : Hid (∀ W, Below w9.heap.size w9 W → Calls Try.prog 16 #[.agg #[.int .u32 g8, .slice A1 n1' c1, .int .i64 h8, .int .i64 t8, .bool p8], .agg #[.int .u32 g8, .slice A3 n3' c3, .int .i64 h8, .int .i64 t8, .bool p8]] W (Ret (.bool true) W)) :=
    Lib.hid fun W hb => same_any ⟨g8, l8, h8, t8, p8⟩ A1 A3 n1' n3' c1 c3 W hl8 (HS1.out.below hb) (HS2.out.below hb)
  have Kin : Hid (∀ W, Below w9.heap.size w9 W → Calls Try.prog 17 #[.slice Au K cu, .slice Av K cv] W (Ret (.bool true) W)) :=
    Lib.hid fun W hb => ints_any Au Av K cu cv gk W HK.out hK6 ((HRu.out.below hb).mono hb.size) ((HRv.out.below hb).mono hb.size)
  have Ksd : Hid (∀ W, Below w9.heap.size w9 W → Calls Try.prog 11 #[.agg #[.int .u32 g8, .slice A1 n1' c1, .int .i64 h8, .int .i64 t8, .bool p8]] W (Ret (.bool true) W)) :=
    Lib.hid fun W hb => by
      rw [← HsR.out]
      have h1 := HS1.out.1
      exact sound_any g8 h8 t8 p8 A1 n1' c1 l8 W h1 (by omega) (HS1.out.below hb).2.2.2
  go_wp2
  go_loopg [57, 14, 15] len (fun m i _ _ wr => ∃ k : Nat, m = len - k ∧ k ≤ len ∧ i = .int .i64 k ∧ Below w9.heap.size w9 wr)
  case atStart => exact ⟨0, by omega, by omega, rfl, Below.refl _ _⟩
  case round =>
    clear xl9 x0_9 x1_9 x2_9 x3_9 x4_9 xf9
    obtain ⟨k, rfl, hk, rfl, hb⟩ := hrel
    by_cases hlt : k < len
    · have hltz : (k : Int) < (len : Int) := by omega
      obtain ⟨q, hq⟩ : ∃ q, l[k]? = some q := ⟨_, List.getElem?_eq_getElem (by rw [Hll.out]; exact hlt)⟩
      rcases (HS.out.below (stepB HB9.out hb)).2.2.2 with h0 | ⟨b, o, rfl, hbN, hc⟩
      · rw [h0] at hq; simp at hq
      rcases (HSw.out.below hb).2.2.2 with h0 | ⟨b', o', rfl, hbN', hc'⟩
      · rw [h0] at hq; simp at hq
      obtain ⟨c0, c1'⟩ := hc k q hq
      obtain ⟨d0, d1'⟩ := hc' k q hq
      have HB := Lib.hid hb
      clear hc hc' hq hb
      obtain ⟨r1, r2⟩ := q
      simp only at c0 c1' d0 d1'
      go_upto_region 13 with (fail)
      have hz := heap_alloc_new wr (.cells #[.int .i64 r1, .int .u64 r2] 38)
      have hbz := bel1 wr (.cells #[.int .i64 r1, .int .u64 r2] 38)
      have e0 := (hbz.cell (p := ⟨b', o' + k * 2, none⟩) hbN').trans d0
      have e1 := (hbz.cell (p := ⟨b', o' + k * 2 + 1, none⟩) hbN').trans d1'
      have HBz := Lib.hid (stepB HB.out hbz)
      clear c0 c1' d0 d1' hbz
      obtain ⟨z, Hz⟩ : ∃ z, Hid (wr.heap.size = z) := ⟨_, Lib.hid rfl⟩
      rw [Hz.out] at hz
      generalize wr.alloc (.cells #[.int .i64 r1, .int .u64 r2] 38) = w10 at hz e0 e1 HBz ⊢
      rw [Hz.out]
      obtain ⟨zl, z0, z1, zf⟩ := box2 hz
      clear hz
      go_quiet (fail)
      go_wp2
      go_roundg (len - (k + 1))
      case measure => omega
      case rel => exact ⟨k + 1, rfl, by omega, by go_num, below_drewN HBz.out _⟩
    · obtain rfl : k = len := by omega
      have hltz : ¬ ((k : Int) < (k : Int)) := by omega
      have HB := Lib.hid hb
      have HQ1r := Lib.hid ((hb.block q1 (Array.getElem?_eq_some_iff.1 HQ1.out).1).trans HQ1.out); have HQ2r := Lib.hid ((hb.block q2 (Array.getElem?_eq_some_iff.1 HQ2.out).1).trans HQ2.out)
      clear hb
      obtain ⟨al, a0, a1, a2, a3, a4, af⟩ := box5 HQ1r.out
      obtain ⟨bl, b0, b1, b2, b3, b4, bf⟩ := box5 HQ2r.out
      go_wp2_with (first
        | (go_at_call 16; refine (Ksm.out _ HB.out).mono ?_; rintro e y1 ⟨rfl, hy1⟩; have HB1 := Lib.hid (stepB HB.out hy1); have hqa := (hy1.block q1 al).trans HQ1r.out; clear hy1)
        | (go_at_call 17; refine (Kin.out _ HB1.out).mono ?_; rintro e y2 ⟨rfl, hy2⟩; have HB2 := Lib.hid (stepB HB1.out hy2); have hqb := (hy2.block q1 (Array.getElem?_eq_some_iff.1 hqa).1).trans hqa; clear hy2; obtain ⟨fl, f0, f1, f2, f3, f4, ff⟩ := box5 hqb)
        | (go_at_call 11; refine (Ksd.out _ HB2.out).mono ?_; rintro e y3 ⟨rfl, hy3⟩; have HB3 := Lib.hid (stepB HB2.out hy3); clear hy3))
      go_ret
      exact ⟨rfl, stepB HB9.out HB3.out⟩
end Go.Proofs.Ytkpogmigfjmacaa
