/-
  pers: act, of a table that can be and a nexus.
-/
import Derived.Test.YtkpogmigfjmacaaPePre
set_option linter.unusedSimpArgs false
set_option linter.unusedVariables false
namespace Go.Proofs.Ytkpogmigfjmacaa
open Go.RowKit

/-- act's boxes: a table, an order, the answer. -/
def Bz (w : World) (b : Nat) (tb od rs : Array Value) : Prop :=
  w.heap[b]? = some (.cells tb 25 (0, 0)) ∧ w.heap[b + 1]? = some (.cells od 28 (0, 0)) ∧ w.heap[b + 2]? = some (.cells rs 25 (0, 0))
theorem Bz.start (w : World) (tb od rs : Array Value) : Bz (((w.alloc (.cells tb 25)).alloc (.cells od 28)).alloc (.cells rs 25)) w.heap.size tb od rs := by
  refine ⟨?_, ?_, ?_⟩
  · rw [Below.heap_alloc _ _ _ (by simp only [World.size_alloc]; omega), Below.heap_alloc _ _ _ (by simp only [World.size_alloc]; omega)]; exact heap_alloc_new w _
  · rw [Below.heap_alloc _ _ _ (by simp only [World.size_alloc]; omega)]; simpa using heap_alloc_new (w.alloc _) (.cells od 28)
  · simpa using heap_alloc_new ((w.alloc _).alloc _) (.cells rs 25)
theorem Bz.lt {w : World} {b : Nat} {tb od rs : Array Value} (h : Bz w b tb od rs) : b + 2 < w.heap.size := (Array.getElem?_eq_some_iff.1 h.2.2).1
theorem Bz.below {w w' : World} {b : Nat} {tb od rs : Array Value} (h : Bz w b tb od rs) (hb : Below w.heap.size w w') : Bz w' b tb od rs := by
  have := h.lt
  exact ⟨(hb.block _ (by omega)).trans h.1, (hb.block _ (by omega)).trans h.2.1, (hb.block _ (by omega)).trans h.2.2⟩
theorem bel3 (w : World) (a b c : Obj) : Below w.heap.size w (((w.alloc a).alloc b).alloc c) := (bel2 w a b).alloc (by simp only [World.size_alloc]; omega) c
theorem load5 {w : World} {b : Nat} {T : TypeId} {v0 v1 v2 v3 v4 : Value} {fs : Array Field} (h : w.heap[b]? = some (.cells #[v0, v1, v2, v3, v4] T (0, 0))) (hu : Try.prog.underlying T = some (.struct fs)) (hi : (Try.prog.info? T).map (·.size) = some 5) :
    (Instr.loadAt T (.pointer (some ⟨b, 0, none⟩))).run Try.prog w = .ok (.agg #[v0, v1, v2, v3, v4]) w :=
  run_loadAt_mid (P := Try.prog) w b 0 T [v0, v1, v2, v3, v4] _ (fun j v hj => by rw [Nat.zero_add, cell_of_row w b j _ _ _ h]; simpa using hj) hu rfl hi
theorem infoTb : (Try.prog.info? 25).map (·.size) = some 5 := by kernel_rfl
theorem exec_load5 {w : World} {o : Oper} {ρ : Operand → Value} {ty : TypeId} {x : Operand} {b : Nat} {cs : Array Value} (ho : o.op = .load ty x) (hx : ρ x = .pointer (some ⟨b, 0, none⟩))
    (hr : (Instr.loadAt ty (.pointer (some ⟨b, 0, none⟩))).run Try.prog w = .ok (.agg cs) w) : (execOp ρ o).run Try.prog w = .ok (.value (.agg cs)) w := by
  unfold execOp
  simp only [ho, hx, Sem.run_bind, hr, Result.andThen_ok, Sem.run_pure]
section
variable (T : Tb) (A : Option Addr) (len cap : Nat) (w : World)
set_option maxRecDepth 100000 in
set_option maxHeartbeats 16000000 in
theorem act_any (hS : SlR w A len cap T.l) (hm : len ≤ 6) (hso : soundB T.l T.h T.t = true) (n a ty key other : Int) (hn0 : 0 ≤ n) (hn8 : n < 8) (ap : Bool) :
    Calls Try.prog 29 #[.agg #[.int .u32 T.g, .slice A len cap, .int .i64 T.h, .int .i64 T.t, .bool T.p], .int .i64 n, .agg #[.int .i64 a, .int .i64 ty, .int .u64 key, .int .u64 other, .bool ap]] w (ActP w A len cap T.l (actL T n a ty key other ap)) := by
  have Kr : Hid (∀ W, Below w.heap.size w W → Calls Try.prog 43 #[.agg #[.int .u32 T.g, .slice A len cap, .int .i64 T.h, .int .i64 T.t, .bool T.p], .int .i64 n, .agg #[.int .i64 a, .int .i64 ty, .int .u64 key, .int .u64 other, .bool ap]] W (ActP W A len cap T.l (regL T n a key other ap))) := Lib.hid fun W hb => register_any T A len cap W (hS.below hb) hm n a ty key other ap
  have Kv : Hid (∀ W, Below w.heap.size w W → Calls Try.prog 44 #[.agg #[.int .u32 T.g, .slice A len cap, .int .i64 T.h, .int .i64 T.t, .bool T.p], .int .i64 n, .int .i64 ty] W (ActP W A len cap T.l (resvL T n ty))) := Lib.hid fun W hb => reserve_any T A len cap W (hS.below hb) hm n ty
  have Ke : Hid (∀ W, Below w.heap.size w W → Calls Try.prog 45 #[.agg #[.int .u32 T.g, .slice A len cap, .int .i64 T.h, .int .i64 T.t, .bool T.p], .int .i64 n, .int .i64 ty] W (ActP W A len cap T.l (relsL T n ty))) := Lib.hid fun W hb => release_any T A len cap W (hS.below hb) hm n ty
  have Kc : Hid (∀ W, Below w.heap.size w W → Calls Try.prog 46 #[.agg #[.int .u32 T.g, .slice A len cap, .int .i64 T.h, .int .i64 T.t, .bool T.p]] W (ActP W A len cap T.l (clrL T))) := Lib.hid fun W hb => clear_any T A len cap W (hS.below hb) hm
  have Kp : Hid (∀ W, Below w.heap.size w W → Calls Try.prog 47 #[.agg #[.int .u32 T.g, .slice A len cap, .int .i64 T.h, .int .i64 T.t, .bool T.p], .int .i64 n, .agg #[.int .i64 a, .int .i64 ty, .int .u64 key, .int .u64 other, .bool ap]] W (ActP W A len cap T.l (preL T n ty other))) := Lib.hid fun W hb => preempt_any T A len cap W (hS.below hb) hm n a ty key other ap
  obtain ⟨R, HR⟩ : ∃ R, Hid (actL T n a ty key other ap = R) := ⟨_, Lib.hid rfl⟩
  rw [HR.out]
  obtain ⟨g, l, h, t, p⟩ := T
  simp only at hS hso Kr Kv Ke Kc Kp ⊢
  have Ks : Hid (∀ W, Below w.heap.size w W → Calls Try.prog 11 #[.agg #[.int .u32 g, .slice A len cap, .int .i64 h, .int .i64 t, .bool p]] W (Ret (.bool true) W)) :=
    Lib.hid fun W hb => by rw [← hso]; exact sound_any g h t p A len cap l W hS.1 (by omega) (hS.below hb).2.2.2
  have Kg : Hid (∀ W, Below w.heap.size w W → Calls Try.prog 26 #[.agg #[.int .u32 g, .slice A len cap, .int .i64 h, .int .i64 t, .bool p], .int .i64 n] W (Ret (.bool (regB l n)) W)) :=
    Lib.hid fun W hb => registered_any g h t p A len cap l W n hS.1 (by omega) (hS.below hb).2.2.2
  have Kk : Hid (∀ W, Below w.heap.size w W → Calls Try.prog 42 #[.agg #[.int .u32 g, .slice A len cap, .int .i64 h, .int .i64 t, .bool p], .int .i64 n] W (Ret (.int .u64 (keyL l n)) W)) :=
    Lib.hid fun W hb => key_any g h t p A len cap l n W hS.1 (by omega) (hS.below hb).2.2.2
  have HS := Lib.hid hS
  clear hS hso
  obtain ⟨own, Hown⟩ : ∃ x, Hid (keyL l n = x) := ⟨_, Lib.hid rfl⟩
  rw [Hown.out] at Kk
  obtain ⟨rg, Hrg⟩ : ∃ x, Hid (regB l n = x) := ⟨_, Lib.hid rfl⟩
  rw [Hrg.out] at Kg
  have hn1 : ¬ n < 0 := by omega
  have hn2 : ¬ 8 ≤ n := by omega
  have hn1d : decide (n < 0) = false := by simpa using hn1
  have hn2d : decide (8 ≤ n) = false := by simpa using hn2
  go_enter Try.func29, Try.ntmps29
  go_upto_region 1 with (fail)
  have hX := Bz.start w #[.int .u32 g, .slice A len cap, .int .i64 h, .int .i64 t, .bool p] #[.int .i64 a, .int .i64 ty, .int .u64 key, .int .u64 other, .bool ap] #[.int .u32 0, .slice none 0 0, .int .i64 0, .int .i64 0, .bool false]
  have hb0 := bel3 w (.cells #[.int .u32 g, .slice A len cap, .int .i64 h, .int .i64 t, .bool p] 25) (.cells #[.int .i64 a, .int .i64 ty, .int .u64 key, .int .u64 other, .bool ap] 28) (.cells #[.int .u32 0, .slice none 0 0, .int .i64 0, .int .i64 0, .bool false] 25)
  try simp only [World.size_alloc]
  generalize ((w.alloc (.cells #[.int .u32 g, .slice A len cap, .int .i64 h, .int .i64 t, .bool p] 25)).alloc (.cells #[.int .i64 a, .int .i64 ty, .int .u64 key, .int .u64 other, .bool ap] 28)).alloc (.cells #[.int .u32 0, .slice none 0 0, .int .i64 0, .int .i64 0, .bool false] 25) = w0 at hX hb0 ⊢
  obtain ⟨xl0, x0_0, x1_0, x2_0, x3_0, x4_0, xf0⟩ := box5 hX.1
  obtain ⟨ol0, o0_0, o1_0, o2_0, o3_0, o4_0, of0⟩ := box5 hX.2.1
  obtain ⟨rl0, r0_0, r1_0, r2_0, r3_0, r4_0, rf0⟩ := box5 hX.2.2
  go_upto_region 3 with (go_at_call 11; refine (Ks.out _ hb0).mono ?_; rintro e w2 ⟨rfl, hb2⟩; have hX2 := hX.below hb2; have B2 := stepB hb0 hb2; clear hb2)
  clear x0_0 x1_0 x2_0 x3_0 x4_0 xl0 xf0 ol0 of0 o0_0 o1_0 o2_0 o3_0 o4_0 rl0 rf0 r0_0 r1_0 r2_0 r3_0 r4_0 hX hb0
  obtain ⟨xl2, x0_2, x1_2, x2_2, x3_2, x4_2, xf2⟩ := box5 hX2.1
  obtain ⟨ol2, o0_2, o1_2, o2_2, o3_2, o4_2, of2⟩ := box5 hX2.2.1
  obtain ⟨rl2, r0_2, r1_2, r2_2, r3_2, r4_2, rf2⟩ := box5 hX2.2.2
  have HX2 := Lib.hid hX2
  have HB2 := Lib.hid B2
  clear hX2 B2
  obtain ⟨⟨g8, l8, h8, t8, p8⟩, st8, gn8⟩ := R
  by_cases a0 : a = 0
  · subst a0
    have e : regL ⟨g, l, h, t, p⟩ n 0 key other ap = (⟨g8, l8, h8, t8, p8⟩, st8, gn8) := by rw [← HR.out, actL]; rw [if_pos (.inl rfl)]
    rw [e] at Kr
    clear HR
    have hz2 : w.heap.size + 2 < w2.heap.size := by omega
    go_wp2_with (go_at_call 43; refine (Kr.out _ HB2.out).mono ?_; rintro e w8 ⟨A2, n2, c2, u, rfl, hs8, hi8, hb8⟩; have hX8 := HX2.out.below hb8; have B8 := stepB HB2.out hb8; obtain ⟨xl8, x0_8, x1_8, x2_8, x3_8, x4_8, xf8⟩ := box5 hX8.1; obtain ⟨rl8, r0_8, r1_8, r2_8, r3_8, r4_8, rf8⟩ := box5 hX8.2.2; have HS8 := Lib.hid hs8; have HI8 := Lib.hid hi8; have HB8 := Lib.hid B8; clear hb8 hs8 hi8 B8 hX8)
    have hle := HB2.out.size
    exact bodyPost_ret (v := .tuple #[.agg #[.int .u32 g8, .slice A2 n2 c2, .int .i64 h8, .int .i64 t8, .bool p8], .int .i64 st8, u]) (by simp [results, Try.results29, go_sem, r0_8, r1_8, r2_8, r3_8, r4_8, rl8]) rfl ⟨A2, n2, c2, u, rfl, HS8.out.fin (by omega) hle _ _ _ _ _, (HI8.out.set5 (b := w.heap.size + 1 + 1) (by omega) _ _ _ _ _).lower hle, set5B HB8.out (by omega) _ _ _ _ _⟩
  have a0d : (a == 0) = false := by simpa using a0
  by_cases a6 : a = 6
  · subst a6
    have e : regL ⟨g, l, h, t, p⟩ n 6 key other ap = (⟨g8, l8, h8, t8, p8⟩, st8, gn8) := by rw [← HR.out, actL]; rw [if_pos (.inr rfl)]
    rw [e] at Kr
    clear HR
    have hz2 : w.heap.size + 2 < w2.heap.size := by omega
    go_wp2_with (go_at_call 43; refine (Kr.out _ HB2.out).mono ?_; rintro e w8 ⟨A2, n2, c2, u, rfl, hs8, hi8, hb8⟩; have hX8 := HX2.out.below hb8; have B8 := stepB HB2.out hb8; obtain ⟨xl8, x0_8, x1_8, x2_8, x3_8, x4_8, xf8⟩ := box5 hX8.1; obtain ⟨rl8, r0_8, r1_8, r2_8, r3_8, r4_8, rf8⟩ := box5 hX8.2.2; have HS8 := Lib.hid hs8; have HI8 := Lib.hid hi8; have HB8 := Lib.hid B8; clear hb8 hs8 hi8 B8 hX8)
    have hle := HB2.out.size
    exact bodyPost_ret (v := .tuple #[.agg #[.int .u32 g8, .slice A2 n2 c2, .int .i64 h8, .int .i64 t8, .bool p8], .int .i64 st8, u]) (by simp [results, Try.results29, go_sem, r0_8, r1_8, r2_8, r3_8, r4_8, rl8]) rfl ⟨A2, n2, c2, u, rfl, HS8.out.fin (by omega) hle _ _ _ _ _, (HI8.out.set5 (b := w.heap.size + 1 + 1) (by omega) _ _ _ _ _).lower hle, set5B HB8.out (by omega) _ _ _ _ _⟩
  have a6d : (a == 6) = false := by simpa using a6
  by_cases an : a < 0
  · have and : decide (a < 0) = true := by simpa using an
    have e : ((⟨g8, l8, h8, t8, p8⟩, st8, gn8) : Res) = (⟨g, l, h, t, p⟩, 2, []) := by rw [← HR.out, actL]; rw [if_neg (by omega), if_pos (.inl an)]
    cases e
    clear HR
    go_wp2
    exact bodyPost_ret (v := .tuple #[.agg #[.int .u32 g, .slice A len cap, .int .i64 h, .int .i64 t, .bool p], .int .i64 2, .slice none 0 0]) (by simp [results, Try.results29, go_sem, r0_2, r1_2, r2_2, r3_2, r4_2, rl2]) rfl ⟨A, len, cap, _, rfl, .inl ⟨rfl, rfl, rfl, rfl⟩, OwnI.nil _ _, set5B HB2.out (by omega) _ _ _ _ _⟩
  have and : decide (a < 0) = false := by simpa using an
  by_cases ab : 6 < a
  · have abd : decide (6 < a) = true := by simpa using ab
    have e : ((⟨g8, l8, h8, t8, p8⟩, st8, gn8) : Res) = (⟨g, l, h, t, p⟩, 2, []) := by rw [← HR.out, actL]; rw [if_neg (by omega), if_pos (.inr ab)]
    cases e
    clear HR
    go_wp2
    exact bodyPost_ret (v := .tuple #[.agg #[.int .u32 g, .slice A len cap, .int .i64 h, .int .i64 t, .bool p], .int .i64 2, .slice none 0 0]) (by simp [results, Try.results29, go_sem, r0_2, r1_2, r2_2, r3_2, r4_2, rl2]) rfl ⟨A, len, cap, _, rfl, .inl ⟨rfl, rfl, rfl, rfl⟩, OwnI.nil _ _, set5B HB2.out (by omega) _ _ _ _ _⟩
  have abd : decide (6 < a) = false := by simpa using ab
  go_upto_region 7 with (fail)
  cases rg with
  | false =>
    refine held_start (w0 := w2) (Below.refl _ _) (by kernel_rfl) (fun wd hS => ?_)
    refine wpAnyH_take (i := 0) (v := .agg #[.int .u32 g, .slice A len cap, .int .i64 h, .int .i64 t, .bool p]) rfl (by kernel_rfl) (by kernel_rfl) (by kernel_rfl) (fun _ _ _ h => h) (Or.inl ⟨by rfl, ?_⟩) hS ?_
    · intro W hW; exact exec_load5 rfl rfl (load5 ((hW.block _ xl2).trans HX2.out.1) Try.underlying25 infoTb)
    try simp only [List.getElem_toArray, List.getElem_cons_succ, List.getElem_cons_zero, Act.put, List.setIfInBounds_toArray, List.set]
    refine wpAnyH_take (i := 1) (v := .int .i64 n) rfl (by kernel_rfl) (by kernel_rfl) (by kernel_rfl) (fun _ _ _ h => h) (Or.inl ⟨by rfl, ?_⟩) hS ?_
    · intro W hW; go_simp
    try simp only [List.getElem_toArray, List.getElem_cons_succ, List.getElem_cons_zero, Act.put, List.setIfInBounds_toArray, List.set]
    refine wpAnyH_one 2 _ rfl (by kernel_rfl) (by rfl) (fun K hK => ?_)
    go_simp
    refine (Kg.out _ (stepB HB2.out hS)).mono ?_
    rintro e w3 ⟨rfl, hb3⟩
    have hS3 : Below w2.heap.size w2 w3 := stepB hS hb3
    refine hK _ _ hS3 ?_
    clear hK K hb3
    try simp only [List.getElem_toArray, List.getElem_cons_succ, List.getElem_cons_zero, Act.put, List.setIfInBounds_toArray, List.set]
    refine wpAnyH_take (i := 3) (v := .bool true) rfl (by kernel_rfl) (by kernel_rfl) (by kernel_rfl) (fun _ _ _ h => h) (Or.inl ⟨by rfl, ?_⟩) hS3 ?_
    · intro W hW; go_simp
    try simp only [List.getElem_toArray, List.getElem_cons_succ, List.getElem_cons_zero, Act.put, List.setIfInBounds_toArray, List.set]
    refine wpAnyH_take (i := 4) (v := .bool true) rfl (by kernel_rfl) (by kernel_rfl) (by kernel_rfl) (fun _ _ _ h => h) (Or.inl ⟨by rfl, ?_⟩) hS3 ?_
    · intro W hW; go_simp
    try simp only [List.getElem_toArray, List.getElem_cons_succ, List.getElem_cons_zero, Act.put, List.setIfInBounds_toArray, List.set]
    refine wpAnyH_take (i := 5) (v := undef) rfl (by kernel_rfl) (by kernel_rfl) (by kernel_rfl) (fun _ _ _ h => h) (Or.inr ⟨by rfl, rfl⟩) hS3 ?_
    try simp only [List.getElem_toArray, List.getElem_cons_succ, List.getElem_cons_zero, Act.put, List.setIfInBounds_toArray, List.set]
    refine wpAnyH_take (i := 6) (v := undef) rfl (by kernel_rfl) (by kernel_rfl) (by kernel_rfl) (fun _ _ _ h => h) (Or.inr ⟨by rfl, rfl⟩) hS3 ?_
    try simp only [List.getElem_toArray, List.getElem_cons_succ, List.getElem_cons_zero, Act.put, List.setIfInBounds_toArray, List.set]
    refine wpAnyH_take (i := 8) (v := undef) rfl (by kernel_rfl) (by kernel_rfl) (by kernel_rfl) (fun _ _ _ h => h) (Or.inr ⟨by rfl, rfl⟩) hS3 ?_
    try simp only [List.getElem_toArray, List.getElem_cons_succ, List.getElem_cons_zero, Act.put, List.setIfInBounds_toArray, List.set]
    refine wpAnyH_take (i := 9) (v := undef) rfl (by kernel_rfl) (by kernel_rfl) (by kernel_rfl) (fun _ _ _ h => h) (Or.inr ⟨by rfl, rfl⟩) hS3 ?_
    try simp only [List.getElem_toArray, List.getElem_cons_succ, List.getElem_cons_zero, Act.put, List.setIfInBounds_toArray, List.set]
    refine wpAnyH_take (i := 7) (v := undef) rfl (by kernel_rfl) (by kernel_rfl) (by kernel_rfl) (fun _ _ _ h => h) (Or.inr ⟨by rfl, rfl⟩) hS3 ?_
    try simp only [List.getElem_toArray, List.getElem_cons_succ, List.getElem_cons_zero, Act.put, List.setIfInBounds_toArray, List.set]
    refine wpAnyH_take (i := 10) (v := undef) rfl (by kernel_rfl) (by kernel_rfl) (by kernel_rfl) (fun _ _ _ h => h) (Or.inr ⟨by rfl, rfl⟩) hS3 ?_
    try simp only [List.getElem_toArray, List.getElem_cons_succ, List.getElem_cons_zero, Act.put, List.setIfInBounds_toArray, List.set]
    refine wpAnyH_take (i := 11) (v := .bool true) rfl (by kernel_rfl) (by kernel_rfl) (by kernel_rfl) (fun _ _ _ h => h) (Or.inl ⟨by rfl, ?_⟩) hS3 ?_
    · intro W hW; go_simp
    try simp only [List.getElem_toArray, List.getElem_cons_succ, List.getElem_cons_zero, Act.put, List.setIfInBounds_toArray, List.set]
    refine wpAnyH_done (by kernel_rfl) ?_ _
    have hX5 := HX2.out.below hS3
    have B5 := stepB HB2.out hS3
    clear x0_2 x1_2 x2_2 x3_2 x4_2 xl2 xf2 ol2 of2 o0_2 o1_2 o2_2 o3_2 o4_2 rl2 rf2 r0_2 r1_2 r2_2 r3_2 r4_2 hS hS3
    obtain ⟨xl5, x0_5, x1_5, x2_5, x3_5, x4_5, xf5⟩ := box5 hX5.1
    obtain ⟨ol5, o0_5, o1_5, o2_5, o3_5, o4_5, of5⟩ := box5 hX5.2.1
    obtain ⟨rl5, r0_5, r1_5, r2_5, r3_5, r4_5, rf5⟩ := box5 hX5.2.2
    have HX5 := Lib.hid hX5; have HB5 := Lib.hid B5
    clear hX5 B5
    have e : ((⟨g8, l8, h8, t8, p8⟩, st8, gn8) : Res) = (⟨g, l, h, t, p⟩, 24, []) := by rw [← HR.out, actL]; rw [if_neg (by omega), if_neg (by omega)]; rw [if_pos (show regB l n = false from Hrg.out)]
    cases e
    clear HR
    go_wp2
    exact bodyPost_ret (v := .tuple #[.agg #[.int .u32 g, .slice A len cap, .int .i64 h, .int .i64 t, .bool p], .int .i64 24, .slice none 0 0]) (by simp [results, Try.results29, go_sem, r0_5, r1_5, r2_5, r3_5, r4_5, rl5]) rfl ⟨A, len, cap, _, rfl, .inl ⟨rfl, rfl, rfl, rfl⟩, OwnI.nil _ _, set5B HB5.out (by omega) _ _ _ _ _⟩
  | true =>
    have Hg : Hid (¬ regB l n = false) := Lib.hid (by rw [Hrg.out]; simp)
    by_cases hk : own = key
    · have hk1 : (own == key) = true := by simpa using hk
      have hk2 : (own != key) = false := by simpa using hk
      have Hk : Hid (keyL l n = key) := Lib.hid (by rw [Hown.out]; exact hk)
      clear hk
      refine held_start (w0 := w2) (Below.refl _ _) (by kernel_rfl) (fun wd hS => ?_)
      refine wpAnyH_take (i := 0) (v := .agg #[.int .u32 g, .slice A len cap, .int .i64 h, .int .i64 t, .bool p]) rfl (by kernel_rfl) (by kernel_rfl) (by kernel_rfl) (fun _ _ _ h => h) (Or.inl ⟨by rfl, ?_⟩) hS ?_
      · intro W hW; exact exec_load5 rfl rfl (load5 ((hW.block _ xl2).trans HX2.out.1) Try.underlying25 infoTb)
      try simp only [List.getElem_toArray, List.getElem_cons_succ, List.getElem_cons_zero, Act.put, List.setIfInBounds_toArray, List.set]
      refine wpAnyH_take (i := 1) (v := .int .i64 n) rfl (by kernel_rfl) (by kernel_rfl) (by kernel_rfl) (fun _ _ _ h => h) (Or.inl ⟨by rfl, ?_⟩) hS ?_
      · intro W hW; go_simp
      try simp only [List.getElem_toArray, List.getElem_cons_succ, List.getElem_cons_zero, Act.put, List.setIfInBounds_toArray, List.set]
      refine wpAnyH_one 2 _ rfl (by kernel_rfl) (by rfl) (fun K hK => ?_)
      go_simp
      refine (Kg.out _ (stepB HB2.out hS)).mono ?_
      rintro e w3 ⟨rfl, hb3⟩
      have hS3 : Below w2.heap.size w2 w3 := stepB hS hb3
      refine hK _ _ hS3 ?_
      clear hK K hb3
      try simp only [List.getElem_toArray, List.getElem_cons_succ, List.getElem_cons_zero, Act.put, List.setIfInBounds_toArray, List.set]
      refine wpAnyH_take (i := 3) (v := .bool false) rfl (by kernel_rfl) (by kernel_rfl) (by kernel_rfl) (fun _ _ _ h => h) (Or.inl ⟨by rfl, ?_⟩) hS3 ?_
      · intro W hW; go_simp
      try simp only [List.getElem_toArray, List.getElem_cons_succ, List.getElem_cons_zero, Act.put, List.setIfInBounds_toArray, List.set]
      refine wpAnyH_take (i := 4) (v := .bool false) rfl (by kernel_rfl) (by kernel_rfl) (by kernel_rfl) (fun _ _ _ h => h) (Or.inl ⟨by rfl, ?_⟩) hS3 ?_
      · intro W hW; go_simp
      try simp only [List.getElem_toArray, List.getElem_cons_succ, List.getElem_cons_zero, Act.put, List.setIfInBounds_toArray, List.set]
      refine wpAnyH_take (i := 5) (v := .agg #[.int .u32 g, .slice A len cap, .int .i64 h, .int .i64 t, .bool p]) rfl (by kernel_rfl) (by kernel_rfl) (by kernel_rfl) (fun _ _ _ h => h) (Or.inl ⟨by rfl, ?_⟩) hS3 ?_
      · intro W hW; exact exec_load5 rfl rfl (load5 ((hW.block _ xl2).trans HX2.out.1) Try.underlying25 infoTb)
      try simp only [List.getElem_toArray, List.getElem_cons_succ, List.getElem_cons_zero, Act.put, List.setIfInBounds_toArray, List.set]
      refine wpAnyH_take (i := 6) (v := .int .i64 n) rfl (by kernel_rfl) (by kernel_rfl) (by kernel_rfl) (fun _ _ _ h => h) (Or.inl ⟨by rfl, ?_⟩) hS3 ?_
      · intro W hW; go_simp
      try simp only [List.getElem_toArray, List.getElem_cons_succ, List.getElem_cons_zero, Act.put, List.setIfInBounds_toArray, List.set]
      refine wpAnyH_take (i := 8) (v := .pointer (some ⟨w.heap.size + 1, 2, none⟩)) rfl (by kernel_rfl) (by kernel_rfl) (by kernel_rfl) (fun _ _ _ h => h) (Or.inl ⟨by rfl, ?_⟩) hS3 ?_
      · intro W hW; go_simp
      try simp only [List.getElem_toArray, List.getElem_cons_succ, List.getElem_cons_zero, Act.put, List.setIfInBounds_toArray, List.set]
      refine wpAnyH_take (i := 9) (v := .int .u64 key) rfl (by kernel_rfl) (by kernel_rfl) (by kernel_rfl) (fun _ _ _ h => h) (Or.inl ⟨by rfl, ?_⟩) hS3 ?_
      · intro W hW; have e2 := (hW.cell (p := ⟨w.heap.size + 1, 2, none⟩) ol2).trans o2_2; go_simp
      try simp only [List.getElem_toArray, List.getElem_cons_succ, List.getElem_cons_zero, Act.put, List.setIfInBounds_toArray, List.set]
      refine wpAnyH_one 7 _ rfl (by kernel_rfl) (by rfl) (fun K hK => ?_)
      go_simp
      refine (Kk.out _ (stepB HB2.out hS3)).mono ?_
      rintro e w4 ⟨rfl, hb4⟩
      have hS4 : Below w2.heap.size w2 w4 := stepB hS3 hb4
      refine hK _ _ hS4 ?_
      clear hK K hb4
      try simp only [List.getElem_toArray, List.getElem_cons_succ, List.getElem_cons_zero, Act.put, List.setIfInBounds_toArray, List.set]
      refine wpAnyH_take (i := 10) (v := .bool false) rfl (by kernel_rfl) (by kernel_rfl) (by kernel_rfl) (fun _ _ _ h => h) (Or.inl ⟨by rfl, ?_⟩) hS4 ?_
      · intro W hW; go_simp
      try simp only [List.getElem_toArray, List.getElem_cons_succ, List.getElem_cons_zero, Act.put, List.setIfInBounds_toArray, List.set]
      refine wpAnyH_take (i := 11) (v := .bool false) rfl (by kernel_rfl) (by kernel_rfl) (by kernel_rfl) (fun _ _ _ h => h) (Or.inl ⟨by rfl, ?_⟩) hS4 ?_
      · intro W hW; go_simp
      try simp only [List.getElem_toArray, List.getElem_cons_succ, List.getElem_cons_zero, Act.put, List.setIfInBounds_toArray, List.set]
      refine wpAnyH_done (by kernel_rfl) ?_ _
      have hX5 := HX2.out.below hS4
      have B5 := stepB HB2.out hS4
      clear x0_2 x1_2 x2_2 x3_2 x4_2 xl2 xf2 ol2 of2 o0_2 o1_2 o2_2 o3_2 o4_2 rl2 rf2 r0_2 r1_2 r2_2 r3_2 r4_2 hS hS3 hS4
      obtain ⟨xl5, x0_5, x1_5, x2_5, x3_5, x4_5, xf5⟩ := box5 hX5.1
      obtain ⟨ol5, o0_5, o1_5, o2_5, o3_5, o4_5, of5⟩ := box5 hX5.2.1
      obtain ⟨rl5, r0_5, r1_5, r2_5, r3_5, r4_5, rf5⟩ := box5 hX5.2.2
      have HX5 := Lib.hid hX5; have HB5 := Lib.hid B5
      clear hX5 B5
      by_cases a1 : a = 1
      · subst a1
        have e : resvL ⟨g, l, h, t, p⟩ n ty = (⟨g8, l8, h8, t8, p8⟩, st8, gn8) := by rw [← HR.out, actL]; rw [if_neg (by omega), if_neg (by omega)]; rw [if_neg (show ¬ regB l n = false from Hg.out), if_pos (show keyL l n = key from Hk.out)]; rw [if_pos rfl]
        rw [e] at Kv
        clear HR
        have hz5 : w.heap.size + 2 < w4.heap.size := by omega
        go_wp2_with (go_at_call 44; refine (Kv.out _ HB5.out).mono ?_; rintro e w8 ⟨A2, n2, c2, u, rfl, hs8, hi8, hb8⟩; have hX8 := HX5.out.below hb8; have B8 := stepB HB5.out hb8; obtain ⟨xl8, x0_8, x1_8, x2_8, x3_8, x4_8, xf8⟩ := box5 hX8.1; obtain ⟨rl8, r0_8, r1_8, r2_8, r3_8, r4_8, rf8⟩ := box5 hX8.2.2; have HS8 := Lib.hid hs8; have HI8 := Lib.hid hi8; have HB8 := Lib.hid B8; clear hb8 hs8 hi8 B8 hX8)
        have hle := HB5.out.size
        exact bodyPost_ret (v := .tuple #[.agg #[.int .u32 g8, .slice A2 n2 c2, .int .i64 h8, .int .i64 t8, .bool p8], .int .i64 st8, u]) (by simp [results, Try.results29, go_sem, r0_8, r1_8, r2_8, r3_8, r4_8, rl8]) rfl ⟨A2, n2, c2, u, rfl, HS8.out.fin (by omega) hle _ _ _ _ _, (HI8.out.set5 (b := w.heap.size + 1 + 1) (by omega) _ _ _ _ _).lower hle, set5B HB8.out (by omega) _ _ _ _ _⟩
      have a1d : (a == 1) = false := by simpa using a1
      by_cases a2 : a = 2
      · subst a2
        have e : relsL ⟨g, l, h, t, p⟩ n ty = (⟨g8, l8, h8, t8, p8⟩, st8, gn8) := by rw [← HR.out, actL]; rw [if_neg (by omega), if_neg (by omega)]; rw [if_neg (show ¬ regB l n = false from Hg.out), if_pos (show keyL l n = key from Hk.out)]; rw [if_neg (by omega), if_pos rfl]
        rw [e] at Ke
        clear HR
        have hz5 : w.heap.size + 2 < w4.heap.size := by omega
        go_wp2_with (go_at_call 45; refine (Ke.out _ HB5.out).mono ?_; rintro e w8 ⟨A2, n2, c2, u, rfl, hs8, hi8, hb8⟩; have hX8 := HX5.out.below hb8; have B8 := stepB HB5.out hb8; obtain ⟨xl8, x0_8, x1_8, x2_8, x3_8, x4_8, xf8⟩ := box5 hX8.1; obtain ⟨rl8, r0_8, r1_8, r2_8, r3_8, r4_8, rf8⟩ := box5 hX8.2.2; have HS8 := Lib.hid hs8; have HI8 := Lib.hid hi8; have HB8 := Lib.hid B8; clear hb8 hs8 hi8 B8 hX8)
        have hle := HB5.out.size
        exact bodyPost_ret (v := .tuple #[.agg #[.int .u32 g8, .slice A2 n2 c2, .int .i64 h8, .int .i64 t8, .bool p8], .int .i64 st8, u]) (by simp [results, Try.results29, go_sem, r0_8, r1_8, r2_8, r3_8, r4_8, rl8]) rfl ⟨A2, n2, c2, u, rfl, HS8.out.fin (by omega) hle _ _ _ _ _, (HI8.out.set5 (b := w.heap.size + 1 + 1) (by omega) _ _ _ _ _).lower hle, set5B HB8.out (by omega) _ _ _ _ _⟩
      have a2d : (a == 2) = false := by simpa using a2
      by_cases a3 : a = 3
      · subst a3
        have e : clrL ⟨g, l, h, t, p⟩ = (⟨g8, l8, h8, t8, p8⟩, st8, gn8) := by rw [← HR.out, actL]; rw [if_neg (by omega), if_neg (by omega)]; rw [if_neg (show ¬ regB l n = false from Hg.out), if_pos (show keyL l n = key from Hk.out)]; rw [if_neg (by omega), if_neg (by omega), if_pos rfl]
        rw [e] at Kc
        clear HR
        have hz5 : w.heap.size + 2 < w4.heap.size := by omega
        go_wp2_with (go_at_call 46; refine (Kc.out _ HB5.out).mono ?_; rintro e w8 ⟨A2, n2, c2, u, rfl, hs8, hi8, hb8⟩; have hX8 := HX5.out.below hb8; have B8 := stepB HB5.out hb8; obtain ⟨xl8, x0_8, x1_8, x2_8, x3_8, x4_8, xf8⟩ := box5 hX8.1; obtain ⟨rl8, r0_8, r1_8, r2_8, r3_8, r4_8, rf8⟩ := box5 hX8.2.2; have HS8 := Lib.hid hs8; have HI8 := Lib.hid hi8; have HB8 := Lib.hid B8; clear hb8 hs8 hi8 B8 hX8)
        have hle := HB5.out.size
        exact bodyPost_ret (v := .tuple #[.agg #[.int .u32 g8, .slice A2 n2 c2, .int .i64 h8, .int .i64 t8, .bool p8], .int .i64 st8, u]) (by simp [results, Try.results29, go_sem, r0_8, r1_8, r2_8, r3_8, r4_8, rl8]) rfl ⟨A2, n2, c2, u, rfl, HS8.out.fin (by omega) hle _ _ _ _ _, (HI8.out.set5 (b := w.heap.size + 1 + 1) (by omega) _ _ _ _ _).lower hle, set5B HB8.out (by omega) _ _ _ _ _⟩
      have a3d : (a == 3) = false := by simpa using a3
      have e : preL ⟨g, l, h, t, p⟩ n ty other = (⟨g8, l8, h8, t8, p8⟩, st8, gn8) := by rw [← HR.out, actL]; rw [if_neg (by omega), if_neg (by omega)]; rw [if_neg (show ¬ regB l n = false from Hg.out), if_pos (show keyL l n = key from Hk.out)]; rw [if_neg a1, if_neg a2, if_neg a3]
      rw [e] at Kp
      clear HR
      have hz5 : w.heap.size + 2 < w4.heap.size := by omega
      go_wp2_with (go_at_call 47; refine (Kp.out _ HB5.out).mono ?_; rintro e w8 ⟨A2, n2, c2, u, rfl, hs8, hi8, hb8⟩; have hX8 := HX5.out.below hb8; have B8 := stepB HB5.out hb8; obtain ⟨xl8, x0_8, x1_8, x2_8, x3_8, x4_8, xf8⟩ := box5 hX8.1; obtain ⟨rl8, r0_8, r1_8, r2_8, r3_8, r4_8, rf8⟩ := box5 hX8.2.2; have HS8 := Lib.hid hs8; have HI8 := Lib.hid hi8; have HB8 := Lib.hid B8; clear hb8 hs8 hi8 B8 hX8)
      have hle := HB5.out.size
      exact bodyPost_ret (v := .tuple #[.agg #[.int .u32 g8, .slice A2 n2 c2, .int .i64 h8, .int .i64 t8, .bool p8], .int .i64 st8, u]) (by simp [results, Try.results29, go_sem, r0_8, r1_8, r2_8, r3_8, r4_8, rl8]) rfl ⟨A2, n2, c2, u, rfl, HS8.out.fin (by omega) hle _ _ _ _ _, (HI8.out.set5 (b := w.heap.size + 1 + 1) (by omega) _ _ _ _ _).lower hle, set5B HB8.out (by omega) _ _ _ _ _⟩
    · have hk1 : (own == key) = false := by simpa using hk
      have hk2 : (own != key) = true := by simpa using hk
      have Hk : Hid (¬ keyL l n = key) := Lib.hid (by rw [Hown.out]; exact hk)
      clear hk
      refine held_start (w0 := w2) (Below.refl _ _) (by kernel_rfl) (fun wd hS => ?_)
      refine wpAnyH_take (i := 0) (v := .agg #[.int .u32 g, .slice A len cap, .int .i64 h, .int .i64 t, .bool p]) rfl (by kernel_rfl) (by kernel_rfl) (by kernel_rfl) (fun _ _ _ h => h) (Or.inl ⟨by rfl, ?_⟩) hS ?_
      · intro W hW; exact exec_load5 rfl rfl (load5 ((hW.block _ xl2).trans HX2.out.1) Try.underlying25 infoTb)
      try simp only [List.getElem_toArray, List.getElem_cons_succ, List.getElem_cons_zero, Act.put, List.setIfInBounds_toArray, List.set]
      refine wpAnyH_take (i := 1) (v := .int .i64 n) rfl (by kernel_rfl) (by kernel_rfl) (by kernel_rfl) (fun _ _ _ h => h) (Or.inl ⟨by rfl, ?_⟩) hS ?_
      · intro W hW; go_simp
      try simp only [List.getElem_toArray, List.getElem_cons_succ, List.getElem_cons_zero, Act.put, List.setIfInBounds_toArray, List.set]
      refine wpAnyH_one 2 _ rfl (by kernel_rfl) (by rfl) (fun K hK => ?_)
      go_simp
      refine (Kg.out _ (stepB HB2.out hS)).mono ?_
      rintro e w3 ⟨rfl, hb3⟩
      have hS3 : Below w2.heap.size w2 w3 := stepB hS hb3
      refine hK _ _ hS3 ?_
      clear hK K hb3
      try simp only [List.getElem_toArray, List.getElem_cons_succ, List.getElem_cons_zero, Act.put, List.setIfInBounds_toArray, List.set]
      refine wpAnyH_take (i := 3) (v := .bool false) rfl (by kernel_rfl) (by kernel_rfl) (by kernel_rfl) (fun _ _ _ h => h) (Or.inl ⟨by rfl, ?_⟩) hS3 ?_
      · intro W hW; go_simp
      try simp only [List.getElem_toArray, List.getElem_cons_succ, List.getElem_cons_zero, Act.put, List.setIfInBounds_toArray, List.set]
      refine wpAnyH_take (i := 4) (v := .bool false) rfl (by kernel_rfl) (by kernel_rfl) (by kernel_rfl) (fun _ _ _ h => h) (Or.inl ⟨by rfl, ?_⟩) hS3 ?_
      · intro W hW; go_simp
      try simp only [List.getElem_toArray, List.getElem_cons_succ, List.getElem_cons_zero, Act.put, List.setIfInBounds_toArray, List.set]
      refine wpAnyH_take (i := 5) (v := .agg #[.int .u32 g, .slice A len cap, .int .i64 h, .int .i64 t, .bool p]) rfl (by kernel_rfl) (by kernel_rfl) (by kernel_rfl) (fun _ _ _ h => h) (Or.inl ⟨by rfl, ?_⟩) hS3 ?_
      · intro W hW; exact exec_load5 rfl rfl (load5 ((hW.block _ xl2).trans HX2.out.1) Try.underlying25 infoTb)
      try simp only [List.getElem_toArray, List.getElem_cons_succ, List.getElem_cons_zero, Act.put, List.setIfInBounds_toArray, List.set]
      refine wpAnyH_take (i := 6) (v := .int .i64 n) rfl (by kernel_rfl) (by kernel_rfl) (by kernel_rfl) (fun _ _ _ h => h) (Or.inl ⟨by rfl, ?_⟩) hS3 ?_
      · intro W hW; go_simp
      try simp only [List.getElem_toArray, List.getElem_cons_succ, List.getElem_cons_zero, Act.put, List.setIfInBounds_toArray, List.set]
      refine wpAnyH_take (i := 8) (v := .pointer (some ⟨w.heap.size + 1, 2, none⟩)) rfl (by kernel_rfl) (by kernel_rfl) (by kernel_rfl) (fun _ _ _ h => h) (Or.inl ⟨by rfl, ?_⟩) hS3 ?_
      · intro W hW; go_simp
      try simp only [List.getElem_toArray, List.getElem_cons_succ, List.getElem_cons_zero, Act.put, List.setIfInBounds_toArray, List.set]
      refine wpAnyH_take (i := 9) (v := .int .u64 key) rfl (by kernel_rfl) (by kernel_rfl) (by kernel_rfl) (fun _ _ _ h => h) (Or.inl ⟨by rfl, ?_⟩) hS3 ?_
      · intro W hW; have e2 := (hW.cell (p := ⟨w.heap.size + 1, 2, none⟩) ol2).trans o2_2; go_simp
      try simp only [List.getElem_toArray, List.getElem_cons_succ, List.getElem_cons_zero, Act.put, List.setIfInBounds_toArray, List.set]
      refine wpAnyH_one 7 _ rfl (by kernel_rfl) (by rfl) (fun K hK => ?_)
      go_simp
      refine (Kk.out _ (stepB HB2.out hS3)).mono ?_
      rintro e w4 ⟨rfl, hb4⟩
      have hS4 : Below w2.heap.size w2 w4 := stepB hS3 hb4
      refine hK _ _ hS4 ?_
      clear hK K hb4
      try simp only [List.getElem_toArray, List.getElem_cons_succ, List.getElem_cons_zero, Act.put, List.setIfInBounds_toArray, List.set]
      refine wpAnyH_take (i := 10) (v := .bool true) rfl (by kernel_rfl) (by kernel_rfl) (by kernel_rfl) (fun _ _ _ h => h) (Or.inl ⟨by rfl, ?_⟩) hS4 ?_
      · intro W hW; go_simp
      try simp only [List.getElem_toArray, List.getElem_cons_succ, List.getElem_cons_zero, Act.put, List.setIfInBounds_toArray, List.set]
      refine wpAnyH_take (i := 11) (v := .bool true) rfl (by kernel_rfl) (by kernel_rfl) (by kernel_rfl) (fun _ _ _ h => h) (Or.inl ⟨by rfl, ?_⟩) hS4 ?_
      · intro W hW; go_simp
      try simp only [List.getElem_toArray, List.getElem_cons_succ, List.getElem_cons_zero, Act.put, List.setIfInBounds_toArray, List.set]
      refine wpAnyH_done (by kernel_rfl) ?_ _
      have hX5 := HX2.out.below hS4
      have B5 := stepB HB2.out hS4
      clear x0_2 x1_2 x2_2 x3_2 x4_2 xl2 xf2 ol2 of2 o0_2 o1_2 o2_2 o3_2 o4_2 rl2 rf2 r0_2 r1_2 r2_2 r3_2 r4_2 hS hS3 hS4
      obtain ⟨xl5, x0_5, x1_5, x2_5, x3_5, x4_5, xf5⟩ := box5 hX5.1
      obtain ⟨ol5, o0_5, o1_5, o2_5, o3_5, o4_5, of5⟩ := box5 hX5.2.1
      obtain ⟨rl5, r0_5, r1_5, r2_5, r3_5, r4_5, rf5⟩ := box5 hX5.2.2
      have HX5 := Lib.hid hX5; have HB5 := Lib.hid B5
      clear hX5 B5
      have e : ((⟨g8, l8, h8, t8, p8⟩, st8, gn8) : Res) = (⟨g, l, h, t, p⟩, 24, []) := by rw [← HR.out, actL]; rw [if_neg (by omega), if_neg (by omega)]; rw [if_neg (show ¬ regB l n = false from Hg.out), if_neg (show ¬ keyL l n = key from Hk.out)]
      cases e
      clear HR
      go_wp2
      exact bodyPost_ret (v := .tuple #[.agg #[.int .u32 g, .slice A len cap, .int .i64 h, .int .i64 t, .bool p], .int .i64 24, .slice none 0 0]) (by simp [results, Try.results29, go_sem, r0_5, r1_5, r2_5, r3_5, r4_5, rl5]) rfl ⟨A, len, cap, _, rfl, .inl ⟨rfl, rfl, rfl, rfl⟩, OwnI.nil _ _, set5B HB5.out (by omega) _ _ _ _ _⟩
end
end Go.Proofs.Ytkpogmigfjmacaa
