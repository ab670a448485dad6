/-
  The law PersClears walked.
-/
import Derived.Test.YtkpogmigfjmacaaPeStands
import Derived.Test.YtkpogmigfjmacaaPeRHolds
import Derived.Test.YtkpogmigfjmacaaPeOpen
set_option linter.unusedSimpArgs false
set_option linter.unusedVariables false
namespace Go.Proofs.Ytkpogmigfjmacaa
open Go.RowKit

theorem box2 {w : World} {b : Nat} {T : TypeId} {v0 v1 : Value} (h : w.heap[b]? = some (.cells #[v0, v1] T (0, 0))) :
    b < w.heap.size ∧ w.cell? ⟨b, 0, none⟩ = some v0 ∧ w.cell? ⟨b, 1, none⟩ = some v1 :=
  ⟨(Array.getElem?_eq_some_iff.1 h).1, cell_of_row w b 0 _ _ _ h, cell_of_row w b 1 _ _ _ h⟩
theorem leftOf_all (l : List (Int × Int)) : leftOf (fun _ => true) l = [] := by unfold leftOf; simp
theorem goneOf_all (l : List (Int × Int)) : goneOf (fun _ => true) l = l.map (·.1) := by rw [goneOf, List.filter_eq_self.2 fun _ _ => rfl]
theorem act_clear {T : Tb} (hs : soundB T.l T.h T.t = true) {q : Int × Int} (hq : q ∈ T.l) : actL T q.1 3 0 q.2 0 false = (⟨nextG T.g, [], -1, 0, T.p⟩, 0, T.l.map (·.1)) := by
  obtain ⟨g, l, h, t, p⟩ := T
  obtain ⟨_, hr, h3⟩ := sound_iff.1 hs
  have hk := keyL_mem hr hq
  have hne := (rise_mem hr hq).2.2
  have e1 : remH [] h t = -1 := by
    rcases h3 with ⟨e1, e2⟩ | ⟨e1, _, _⟩
    · have e1' : t = 0 := e1
      have e2' : h = -1 := e2
      subst e1' e2'; rfl
    · have e1' : t ≠ 0 := e1
      simp [remH, resB, regB, keyL, e1']
  have e2 : remT [] h t = 0 := by
    rcases h3 with ⟨e1, e2⟩ | ⟨e1, _, _⟩
    · have e1' : t = 0 := e1
      subst e1'; simp [remT, resB]
    · have e1' : t ≠ 0 := e1
      simp [remT, resB, regB, keyL, e1']
  have hreg : ¬ regB l q.1 = false := by simp only [regB, hk]; simp [hne]
  unfold actL
  rw [if_neg (by omega), if_neg (by omega), if_neg hreg, if_pos hk, if_neg (by omega), if_neg (by omega), if_pos rfl]
  simp only [clrL, remTb, leftOf_all, goneOf_all, e1, e2]
theorem act_wrong {T : Tb} (hs : soundB T.l T.h T.t = true) {q : Int × Int} (hq : q ∈ T.l) {k : Int} (hk2 : k ≠ q.2) : actL T q.1 3 0 k 0 false = (T, 24, []) := by
  obtain ⟨_, hr, h3⟩ := sound_iff.1 hs
  have hk := keyL_mem hr hq
  have hne := (rise_mem hr hq).2.2
  have hreg : ¬ regB T.l q.1 = false := by simp only [regB, hk]; simp [hne]
  unfold actL
  rw [if_neg (by omega), if_neg (by omega), if_neg hreg, if_neg (by rw [hk]; exact fun e => hk2 e.symm)]
theorem keep_len : ∀ {l : List (Int × Int)} {m : Int} (_ : riseB l m = true) {q : Int × Int} (_ : q ∈ l), (keepN q.1 (l.map (·.1))).length + 1 = l.length
  | [], _, _, _, hq => by cases hq
  | r :: l, m, h, q, hq => by
    obtain ⟨ha, hb⟩ := rise_cons.1 h
    have hall : ∀ p ∈ l, r.1 < p.1 := fun p hp => (rise_mem hb hp).1
    rcases List.mem_cons.1 hq with rfl | hq
    · have e : keepN q.1 (l.map (·.1)) = l.map (·.1) := List.filter_eq_self.2 fun x hx => by
        obtain ⟨p, hp, rfl⟩ := List.mem_map.1 hx
        have := hall p hp
        simp only [eqN, Bool.not_eq_true', beq_eq_false_iff_ne]
        omega
      have e2 : keepN q.1 ((q :: l).map (·.1)) = keepN q.1 (l.map (·.1)) := by simp [keepN, eqN]
      rw [e2, e]; simp
    · have := hall q hq
      have e2 : keepN q.1 ((r :: l).map (·.1)) = r.1 :: keepN q.1 (l.map (·.1)) := by
        have : (r.1 == q.1) = false := by simp; omega
        simp [keepN, eqN, this]
      rw [e2, List.length_cons, List.length_cons, keep_len hb hq]
theorem tmod_in (a d : Int) (hd : 0 < d) : -d < a.tmod d ∧ a.tmod d < d := ⟨Int.lt_tmod_of_pos a hd, Int.tmod_lt_of_pos a hd⟩
theorem posmod (n d : Int) (hd : 0 < d) : ∃ m : Nat, (n.tmod d + d).tmod d = (m : Int) ∧ (m : Int) < d := by
  have h1 := tmod_in n d hd
  have h2 := tmod_in (n.tmod d + d) d hd
  have h3 := Int.tmod_nonneg d (show 0 ≤ n.tmod d + d by omega)
  exact ⟨((n.tmod d + d).tmod d).toNat, by omega, by omega⟩
set_option maxRecDepth 100000 in
set_option maxHeartbeats 8000000 in
theorem persClears_any (T : Tb) (A : Option Addr) (len cap : Nat) {w : World} (hS : SlR w A len cap T.l) (hm : len ≤ 9223372036854775807) (hk64 : ∀ q ∈ T.l, I64 q.1 ∧ U64 q.2) (_ : U32 T.g) (n : Int) (hn64 : I64 n) (W : World) (hW : w = W) :
    Calls Try.prog 7 #[.agg #[.int .u32 T.g, .slice A len cap, .int .i64 T.h, .int .i64 T.t, .bool T.p], .int .i64 n] W (Ret (.bool true) W) := by
  subst hW
  obtain ⟨g, l, h, t, p⟩ := T
  simp only at hS hk64 ⊢
  have Kst : Hid (∀ W, Calls Try.prog 10 #[] W (Ret (.bool true) W)) := Lib.hid stands_any
  have Krs : Hid (∀ W, Below w.heap.size w W → Calls Try.prog 12 #[.agg #[.int .u32 g, .slice A len cap, .int .i64 h, .int .i64 t, .bool p]] W (Ret (.bool (soundB l h t)) W)) := Lib.hid fun W hb => rsound_any g h t p A len cap l W (hS.below hb) hm
  have hx0 := heap_alloc_new w (.cells #[.int .u32 g, .slice A len cap, .int .i64 h, .int .i64 t, .bool p] 25)
  have HX0 := Lib.hid hx0
  clear hx0
  cases hso : soundB l h t with
  | false =>
    rw [hso] at Krs
    clear hso hS hk64
    go_enter Try.func7, Try.ntmps7
    go_wp2_with (first
      | (go_at_call 10; refine (Kst.out _).mono ?_; rintro e w2 ⟨rfl, hb2⟩; have hx2 := (hb2.block w.heap.size (by simp)).trans HX0.out; have B2 := stepB (bel1 w _) hb2; clear hb2; obtain ⟨xl2, x0_2, x1_2, x2_2, x3_2, x4_2, xf2⟩ := box5 hx2)
      | (go_at_call 12; refine (Krs.out _ B2).mono ?_; rintro e w3 ⟨rfl, hb3⟩; have B3 := stepB B2 hb3; clear hb3))
    go_ret
    exact ⟨rfl, B3⟩
  | true =>
  rw [hso] at Krs
  by_cases hl0 : len = 0
  · subst hl0
    clear hso hS hk64
    go_enter Try.func7, Try.ntmps7
    go_wp2_with (first
      | (go_at_call 10; refine (Kst.out _).mono ?_; rintro e w2 ⟨rfl, hb2⟩; have hx2 := (hb2.block w.heap.size (by simp)).trans HX0.out; have B2 := stepB (bel1 w _) hb2; clear hb2; obtain ⟨xl2, x0_2, x1_2, x2_2, x3_2, x4_2, xf2⟩ := box5 hx2)
      | (go_at_call 12; refine (Krs.out _ B2).mono ?_; rintro e w3 ⟨rfl, hb3⟩; have hx3 := (hb3.block w.heap.size xl2).trans hx2; have B3 := stepB B2 hb3; clear hb3; obtain ⟨xl3, x0_3, x1_3, x2_3, x3_3, x4_3, xf3⟩ := box5 hx3))
    go_ret
    exact ⟨rfl, B3⟩
  have hl6 := (sound_iff.1 hso).1
  have hr := (sound_iff.1 hso).2.1
  have hlen := hS.1
  obtain ⟨J, hJ, hJl⟩ := posmod n len (by omega)
  have htm := tmod_in n len (by omega)
  obtain ⟨r1, hr1⟩ : ∃ r1, n.tmod (len : Int) = r1 := ⟨_, rfl⟩
  rw [hr1] at hJ htm
  obtain ⟨r2, hr2⟩ : ∃ r2, r1 + (len : Int) = r2 := ⟨_, rfl⟩
  rw [hr2] at hJ
  obtain ⟨q, hq⟩ : ∃ q, l[J]? = some q := ⟨_, List.getElem?_eq_getElem (by omega)⟩
  have hqm := List.mem_of_getElem? hq
  have hq64 := hk64 q hqm
  have hq8 := rise_mem hr hqm
  have hac := act_clear (T := ⟨g, l, h, t, p⟩) hso hqm
  obtain ⟨k1, hk1⟩ : ∃ k1, IntKind.u64.wrap (q.2 + 1) = k1 := ⟨_, rfl⟩
  have hkne : k1 ≠ q.2 := by
    obtain ⟨_, a1, a2⟩ := hq64
    rw [← hk1]
    by_cases e : q.2 = 18446744073709551615
    · rw [e]; decide
    · rw [IntWalk.u64_in _ (by omega)]; omega
  have haw := act_wrong (T := ⟨g, l, h, t, p⟩) hso hqm hkne
  have hkl := keep_len hr hqm
  have hRc : ∃ b o, A = some ⟨b, o, none⟩ ∧ b < w.heap.size ∧ w.cell? ⟨b, o + J * 2, none⟩ = some (.int .i64 q.1) ∧ w.cell? ⟨b, o + J * 2 + 1, none⟩ = some (.int .u64 q.2) := by
    rcases hS.2.2.2 with e | ⟨b, o, hA, hb, hc⟩
    · rw [e] at hq; simp at hq
    · exact ⟨b, o, hA, hb, hc J q hq⟩
  obtain ⟨b, o, rfl, hbw, cw0, cw1⟩ := hRc
  have Ka : Hid (∀ W, Below w.heap.size w W → Calls Try.prog 13 #[.agg #[.int .u32 g, .slice (some ⟨b, o, none⟩) len cap, .int .i64 h, .int .i64 t, .bool p], .int .i64 q.1, .agg #[.int .i64 3, .int .i64 0, .int .u64 q.2, .int .u64 0, .bool false]] W (AcP W q.1 (⟨nextG g, [], -1, 0, p⟩, 0, l.map (·.1)))) :=
    Lib.hid fun W hb => actc (T := ⟨g, l, h, t, p⟩) (hS.below hb) hso (by omega) (by omega) hac
  have Kw : Hid (∀ W, Below w.heap.size w W → Calls Try.prog 13 #[.agg #[.int .u32 g, .slice (some ⟨b, o, none⟩) len cap, .int .i64 h, .int .i64 t, .bool p], .int .i64 q.1, .agg #[.int .i64 3, .int .i64 0, .int .u64 k1, .int .u64 0, .bool false]] W (AcP W q.1 (⟨g, l, h, t, p⟩, 24, []))) :=
    Lib.hid fun W hb => actc (T := ⟨g, l, h, t, p⟩) (hS.below hb) hso (by omega) (by omega) haw
  have Kb : Hid (∀ W A' c' n d, Calls Try.prog 20 #[.agg #[.int .u32 (nextG g), .slice A' 0 c', .int .i64 (-1), .int .i64 0, .bool p], .int .i64 n, .int .i64 d] W (Ret (.bool false) W)) :=
    Lib.hid fun W A' c' n d => by
      have := bars_any (nextG g) (-1) 0 p A' 0 c' [] W rfl (by omega) (.inl rfl) n d
      have e : barsB [] (-1) 0 n d = false := by simp [barsB, resB]
      rwa [e] at this
  obtain ⟨G, HG⟩ : ∃ G, Hid (nextG g = G) := ⟨_, Lib.hid rfl⟩
  rw [HG.out] at Ka Kb
  have hwG : IntKind.u32.wrap (g + 1) = G := HG.out
  have hw1 : IntKind.i64.wrap r1 = r1 := IntWalk.i64_in _ (by omega)
  have hw2 : IntKind.i64.wrap r2 = r2 := IntWalk.i64_in _ (by omega)
  have hw3 : IntKind.i64.wrap (J : Int) = (J : Int) := IntWalk.i64_in _ (by omega)
  have hw4 : IntKind.i64.wrap (r1 + (len : Int)) = r2 := by rw [hr2]; exact hw2
  obtain ⟨q1, q2⟩ := q
  simp only at Ka Kw cw0 cw1 hk1 hkl
  have Hkl := Lib.hid hkl
  have hln1 : ¬ (len : Int) = 0 := by omega
  have hln2 : ((len : Int) == 0) = false := by simpa using hln1
  have hlen6 : len ≤ 6 := by omega
  have hJn : J < len := by omega
  have hJ0 : (J : Int) < (len : Int) := hJl
  obtain ⟨lg, Hlg⟩ : ∃ x, Hid (keepN q1 (l.map (·.1)) = x) := ⟨_, Lib.hid rfl⟩
  rw [Hlg.out] at Hkl
  have Hll := Lib.hid hlen
  clear hso hS hk64 hl6 hr hlen hac haw hkl hqm hq64 hq8 hkne hq htm
  go_enter Try.func7, Try.ntmps7
  go_upto_region 5 with (first
    | (go_at_call 10; refine (Kst.out _).mono ?_; rintro e w2 ⟨rfl, hb2⟩; have hx2 := (hb2.block w.heap.size (by simp)).trans HX0.out; have B2 := stepB (bel1 w _) hb2; clear hb2; obtain ⟨xl2, x0_2, x1_2, x2_2, x3_2, x4_2, xf2⟩ := box5 hx2)
    | (go_at_call 12; refine (Krs.out _ B2).mono ?_; rintro e w3 ⟨rfl, hb3⟩; have hx3 := (hb3.block w.heap.size xl2).trans hx2; have B3 := stepB B2 hb3; clear hb3; obtain ⟨xl3, x0_3, x1_3, x2_3, x3_3, x4_3, xf3⟩ := box5 hx3))
  have c0 := (B3.cell (p := ⟨b, o + J * 2, none⟩) hbw).trans cw0
  have c1 := (B3.cell (p := ⟨b, o + J * 2 + 1, none⟩) hbw).trans cw1
  have hbl : b < w3.heap.size := by omega
  have HX3 := Lib.hid hx3; have HB3 := Lib.hid B3
  clear hx2 hx3 B2 B3 xl2 x0_2 x1_2 x2_2 x3_2 x4_2 xf2 cw0 cw1 HX0 Kst Krs
  refine held_start (w0 := w3) (Below.refl _ _) (by kernel_rfl) (fun wd hS5 => ?_)
  have hwd := hS5.size
  refine wpAnyH_take (i := 0) (v := .pointer (some ⟨w.heap.size, 1, none⟩)) rfl (by kernel_rfl) (by kernel_rfl) (by kernel_rfl) (fun _ _ _ h => h) (Or.inl ⟨by rfl, ?_⟩) hS5 ?_
  · intro W hW; go_simp
  try simp only [List.getElem_toArray, List.getElem_cons_succ, List.getElem_cons_zero, Act.put, List.setIfInBounds_toArray, List.set]
  refine wpAnyH_take (i := 1) (v := .slice (some ⟨b, o, none⟩) len cap) rfl (by kernel_rfl) (by kernel_rfl) (by kernel_rfl) (fun _ _ _ h => h) (Or.inl ⟨by rfl, ?_⟩) hS5 ?_
  · intro W hW; have e1 := (hW.cell (p := ⟨w.heap.size, 1, none⟩) xl3).trans x1_3; go_simp
  try simp only [List.getElem_toArray, List.getElem_cons_succ, List.getElem_cons_zero, Act.put, List.setIfInBounds_toArray, List.set]
  refine wpAnyH_take (i := 2) (v := .int .i64 n) rfl (by kernel_rfl) (by kernel_rfl) (by kernel_rfl) (fun _ _ _ h => h) (Or.inl ⟨by rfl, ?_⟩) hS5 ?_
  · intro W hW; go_simp
  try simp only [List.getElem_toArray, List.getElem_cons_succ, List.getElem_cons_zero, Act.put, List.setIfInBounds_toArray, List.set]
  refine wpAnyH_take (i := 3) (v := .pointer (some ⟨w.heap.size, 1, none⟩)) rfl (by kernel_rfl) (by kernel_rfl) (by kernel_rfl) (fun _ _ _ h => h) (Or.inl ⟨by rfl, ?_⟩) hS5 ?_
  · intro W hW; go_simp
  try simp only [List.getElem_toArray, List.getElem_cons_succ, List.getElem_cons_zero, Act.put, List.setIfInBounds_toArray, List.set]
  refine wpAnyH_take (i := 4) (v := .slice (some ⟨b, o, none⟩) len cap) rfl (by kernel_rfl) (by kernel_rfl) (by kernel_rfl) (fun _ _ _ h => h) (Or.inl ⟨by rfl, ?_⟩) hS5 ?_
  · intro W hW; have e1 := (hW.cell (p := ⟨w.heap.size, 1, none⟩) xl3).trans x1_3; go_simp
  try simp only [List.getElem_toArray, List.getElem_cons_succ, List.getElem_cons_zero, Act.put, List.setIfInBounds_toArray, List.set]
  refine wpAnyH_take (i := 5) (v := .int .i64 (len : Int)) rfl (by kernel_rfl) (by kernel_rfl) (by kernel_rfl) (fun _ _ _ h => h) (Or.inl ⟨by rfl, ?_⟩) hS5 ?_
  · intro W hW; go_simp
  try simp only [List.getElem_toArray, List.getElem_cons_succ, List.getElem_cons_zero, Act.put, List.setIfInBounds_toArray, List.set]
  refine wpAnyH_take (i := 6) (v := .int .i64 r1) rfl (by kernel_rfl) (by kernel_rfl) (by kernel_rfl) (fun _ _ _ h => h) (Or.inl ⟨by rfl, ?_⟩) hS5 ?_
  · intro W hW; go_simp
  try simp only [List.getElem_toArray, List.getElem_cons_succ, List.getElem_cons_zero, Act.put, List.setIfInBounds_toArray, List.set]
  refine wpAnyH_take (i := 7) (v := .pointer (some ⟨w.heap.size, 1, none⟩)) rfl (by kernel_rfl) (by kernel_rfl) (by kernel_rfl) (fun _ _ _ h => h) (Or.inl ⟨by rfl, ?_⟩) hS5 ?_
  · intro W hW; go_simp
  try simp only [List.getElem_toArray, List.getElem_cons_succ, List.getElem_cons_zero, Act.put, List.setIfInBounds_toArray, List.set]
  refine wpAnyH_take (i := 8) (v := .slice (some ⟨b, o, none⟩) len cap) rfl (by kernel_rfl) (by kernel_rfl) (by kernel_rfl) (fun _ _ _ h => h) (Or.inl ⟨by rfl, ?_⟩) hS5 ?_
  · intro W hW; have e1 := (hW.cell (p := ⟨w.heap.size, 1, none⟩) xl3).trans x1_3; go_simp
  try simp only [List.getElem_toArray, List.getElem_cons_succ, List.getElem_cons_zero, Act.put, List.setIfInBounds_toArray, List.set]
  refine wpAnyH_take (i := 9) (v := .int .i64 (len : Int)) rfl (by kernel_rfl) (by kernel_rfl) (by kernel_rfl) (fun _ _ _ h => h) (Or.inl ⟨by rfl, ?_⟩) hS5 ?_
  · intro W hW; go_simp
  try simp only [List.getElem_toArray, List.getElem_cons_succ, List.getElem_cons_zero, Act.put, List.setIfInBounds_toArray, List.set]
  refine wpAnyH_take (i := 10) (v := .int .i64 r2) rfl (by kernel_rfl) (by kernel_rfl) (by kernel_rfl) (fun _ _ _ h => h) (Or.inl ⟨by rfl, ?_⟩) hS5 ?_
  · intro W hW; go_simp
  try simp only [List.getElem_toArray, List.getElem_cons_succ, List.getElem_cons_zero, Act.put, List.setIfInBounds_toArray, List.set]
  refine wpAnyH_take (i := 11) (v := .pointer (some ⟨w.heap.size, 1, none⟩)) rfl (by kernel_rfl) (by kernel_rfl) (by kernel_rfl) (fun _ _ _ h => h) (Or.inl ⟨by rfl, ?_⟩) hS5 ?_
  · intro W hW; go_simp
  try simp only [List.getElem_toArray, List.getElem_cons_succ, List.getElem_cons_zero, Act.put, List.setIfInBounds_toArray, List.set]
  refine wpAnyH_take (i := 12) (v := .slice (some ⟨b, o, none⟩) len cap) rfl (by kernel_rfl) (by kernel_rfl) (by kernel_rfl) (fun _ _ _ h => h) (Or.inl ⟨by rfl, ?_⟩) hS5 ?_
  · intro W hW; have e1 := (hW.cell (p := ⟨w.heap.size, 1, none⟩) xl3).trans x1_3; go_simp
  try simp only [List.getElem_toArray, List.getElem_cons_succ, List.getElem_cons_zero, Act.put, List.setIfInBounds_toArray, List.set]
  refine wpAnyH_take (i := 13) (v := .int .i64 (len : Int)) rfl (by kernel_rfl) (by kernel_rfl) (by kernel_rfl) (fun _ _ _ h => h) (Or.inl ⟨by rfl, ?_⟩) hS5 ?_
  · intro W hW; go_simp
  try simp only [List.getElem_toArray, List.getElem_cons_succ, List.getElem_cons_zero, Act.put, List.setIfInBounds_toArray, List.set]
  refine wpAnyH_take (i := 14) (v := .int .i64 (J : Int)) rfl (by kernel_rfl) (by kernel_rfl) (by kernel_rfl) (fun _ _ _ h => h) (Or.inl ⟨by rfl, ?_⟩) hS5 ?_
  · intro W hW; go_simp
  try simp only [List.getElem_toArray, List.getElem_cons_succ, List.getElem_cons_zero, Act.put, List.setIfInBounds_toArray, List.set]
  refine wpAnyH_take (i := 15) (v := .pointer (some ⟨b, o + J * 2, none⟩)) rfl (by kernel_rfl) (by kernel_rfl) (by kernel_rfl) (fun _ _ _ h => h) (Or.inl ⟨by rfl, ?_⟩) hS5 ?_
  · intro W hW; go_simp
  try simp only [List.getElem_toArray, List.getElem_cons_succ, List.getElem_cons_zero, Act.put, List.setIfInBounds_toArray, List.set]
  refine wpAnyH_take (i := 16) (v := .agg #[.int .i64 q1, .int .u64 q2]) rfl (by kernel_rfl) (by kernel_rfl) (by kernel_rfl) (fun _ _ _ h => h) (Or.inl ⟨by rfl, ?_⟩) hS5 ?_
  · intro W hW; have e2 := (hW.cell (p := ⟨b, o + J * 2, none⟩) hbl).trans c0; have e3 := (hW.cell (p := ⟨b, o + J * 2 + 1, none⟩) hbl).trans c1; go_simp
  try simp only [List.getElem_toArray, List.getElem_cons_succ, List.getElem_cons_zero, Act.put, List.setIfInBounds_toArray, List.set]
  refine wpAnyH_one 17 _ rfl (by kernel_rfl) (by rfl) (fun K hK => ?_)
  go_simp
  have hS6 : Below w3.heap.size w3 (wd.alloc (.cells #[.int .i64 0, .int .u64 0] 38)) := hS5.alloc hS5.size _
  refine hK _ _ hS6 ?_
  clear hK K
  try simp only [List.getElem_toArray, List.getElem_cons_succ, List.getElem_cons_zero, Act.put, List.setIfInBounds_toArray, List.set]
  refine wpAnyH_one 18 _ rfl (by kernel_rfl) (by rfl) (fun K hK => ?_)
  go_simp
  have hS7 : Below w3.heap.size w3 (wd.alloc (.cells #[.int .i64 q1, .int .u64 q2] 38)) := hS5.alloc hS5.size _
  refine hK _ _ hS7 ?_
  clear hK K
  try simp only [List.getElem_toArray, List.getElem_cons_succ, List.getElem_cons_zero, Act.put, List.setIfInBounds_toArray, List.set]
  refine wpAnyH_done (by kernel_rfl) ?_ _
  have hk7 := heap_alloc_new wd (.cells #[.int .i64 q1, .int .u64 q2] 38)
  obtain ⟨kb, Hkb⟩ : ∃ x, Hid (wd.heap.size = x) := ⟨_, Lib.hid rfl⟩
  rw [Hkb.out] at hk7
  have hx7 := (hS7.block w.heap.size xl3).trans HX3.out
  have B7 := stepB HB3.out hS7
  have hkb0 : w.heap.size < kb := by rw [← Hkb.out]; have := hS5.size; omega
  generalize wd.alloc (.cells #[.int .i64 q1, .int .u64 q2] 38) = w7 at hk7 hx7 B7 hS7 ⊢
  rw [Hkb.out]
  clear hS7 hS6 hS5 c0 c1 hbl x0_3 x1_3 x2_3 x3_3 x4_3 xf3 hw1 hw2 hw3 hw4 hr1 hr2 hJ hJl
  obtain ⟨xl7, x0_7, x1_7, x2_7, x3_7, x4_7, xf7⟩ := box5 hx7
  obtain ⟨kl7, k0_7, k1_7⟩ := box2 hk7
  have HX7 := Lib.hid hx7; have HK7 := Lib.hid hk7; have HB7 := Lib.hid B7
  clear hx7 hk7 B7
  go_upto_region 7 with (go_at_call 13; refine (Ka.out _ HB7.out).mono ?_; rintro e w8 ⟨A8, n8, c8, u8, rfl, ho8, hi8, hb8⟩)
  have hx8 := (hb8.block w.heap.size xl7).trans HX7.out
  have hk8 := (hb8.block kb kl7).trans HK7.out
  have B8 := stepB HB7.out hb8
  obtain ⟨A8', c8', he8, hR8⟩ := ho8.form
  have hn8 : n8 = 0 := by injection he8 with h1 h2 h3
  subst hn8
  rw [Hlg.out] at hi8
  obtain ⟨Au, cu, rfl, hRu⟩ := hi8.form
  clear he8 hR8 hRu ho8 hi8 c8' A8' k0_7 k1_7 x0_7 x1_7 x2_7 x3_7 x4_7 xf7 HX7 HK7 HB7 Ka Hlg
  have hq9 := heap_alloc_new w8 (.cells #[.int .u32 G, .slice A8 0 c8, .int .i64 (-1), .int .i64 0, .bool p] 25)
  have hb9 := bel1 w8 (.cells #[.int .u32 G, .slice A8 0 c8, .int .i64 (-1), .int .i64 0, .bool p] 25)
  have hx9 := (hb9.block w.heap.size (by have := B8.size; have := hb8.size; omega)).trans hx8
  have hk9 := (hb9.block kb (by have := hb8.size; omega)).trans hk8
  have B9 := stepB B8 hb9
  have hqz : w.heap.size ≤ w8.heap.size := B8.size
  obtain ⟨q, Hq⟩ : ∃ q, Hid (w8.heap.size = q) := ⟨_, Lib.hid rfl⟩
  rw [Hq.out] at hq9 hqz
  generalize w8.alloc (.cells #[.int .u32 G, .slice A8 0 c8, .int .i64 (-1), .int .i64 0, .bool p] 25) = w9 at hq9 hb9 hx9 hk9 B9 ⊢
  rw [Hq.out]
  have HX9 := Lib.hid hx9; have HB9 := Lib.hid B9; have HQ9 := Lib.hid hq9
  obtain ⟨xl9, x0_9, x1_9, x2_9, x3_9, x4_9, xf9⟩ := box5 hx9
  obtain ⟨kl9, k0_9, k1_9⟩ := box2 hk9
  obtain ⟨ql9, _, _, _, _, _, _⟩ := box5 hq9
  clear hq9 hx9 B9 hk9 hb9 hx8 hk8 B8 hb8 xl7 kl7 Hq
  go_upto_region 8 with (go_at_call 13; refine (Kw.out _ HB9.out).mono ?_; rintro e w10 ⟨A10, n10, c10, u10, rfl, ho10, hi10, hb10⟩)
  have hx10 := (hb10.block w.heap.size xl9).trans HX9.out
  have hq10 := (hb10.block q ql9).trans HQ9.out
  have B10 := stepB HB9.out hb10
  clear ho10 hi10 x0_9 x1_9 x2_9 x3_9 x4_9 xf9 HX9 HB9 HQ9 Kw k0_9 k1_9 kl9 Hkb hkb0
  have hb11 := bel1 w10 (.cells #[.int .u32 g, .slice A10 n10 c10, .int .i64 h, .int .i64 t, .bool p] 25)
  have hx11 := (hb11.block w.heap.size (by have := hb10.size; omega)).trans hx10
  have hq11 := (hb11.block q (by have := hb10.size; omega)).trans hq10
  have B11 := stepB B10 hb11
  obtain ⟨s, Hs⟩ : ∃ s, Hid (w10.heap.size = s) := ⟨_, Lib.hid rfl⟩
  have HS11 : (w10.alloc (.cells #[.int .u32 g, .slice A10 n10 c10, .int .i64 h, .int .i64 t, .bool p] 25)).heap.size = s + 1 := by rw [World.size_alloc, Hs.out]
  generalize w10.alloc (.cells #[.int .u32 g, .slice A10 n10 c10, .int .i64 h, .int .i64 t, .bool p] 25) = w11 at hb11 hx11 hq11 B11 HS11 ⊢
  rw [Hs.out]
  have hqs : q < s := by rw [← Hs.out]; have := hb10.size; omega
  have hs11 : w11.heap.size = s + 1 := HS11
  clear hx10 hq10 B10 hb10 hb11 xl9 ql9 Hs
  have HX11 := Lib.hid hx11; have HQ11 := Lib.hid hq11; have HB11 := Lib.hid B11
  clear hx11 hq11 B11
  go_wp2
  go_loopg [65, 12, 13] 8 (fun m i _ _ wr => ∃ k : Nat, m = 8 - k ∧ k ≤ 8 ∧ i = .int .i64 k ∧ Below w11.heap.size w11 wr)
  case atStart => exact ⟨0, by omega, by omega, rfl, Below.refl _ _⟩
  case round =>
    obtain ⟨k, rfl, hk, rfl, hb⟩ := hrel
    by_cases hlt : k < 8
    · have hltz : (k : Int) < 8 := by omega
      have HBr := Lib.hid hb
      clear hb
      go_wp2
      go_loopg [68, 13] 14 (fun m i _ wi => ∃ k : Nat, m = 14 - k ∧ k ≤ 14 ∧ i = .int .i64 k ∧ Below w11.heap.size w11 wi)
      case atStart => exact ⟨0, by omega, by omega, rfl, HBr.out⟩
      case round =>
        clear HBr
        obtain ⟨j, rfl, hj, rfl, hb⟩ := hrel
        by_cases hlj : j < 14
        · have hljz : (j : Int) < 14 := by omega
          have hqr := (hb.block q (by omega)).trans HQ11.out
          obtain ⟨qlr, q0_r, q1_r, q2_r, q3_r, q4_r, qfr⟩ := box5 hqr
          have HBj := Lib.hid hb
          clear hb hqr
          go_wp2_with (go_at_call 20; refine (Kb.out _ _ _ _ _).mono ?_; rintro e w12 ⟨rfl, hb12⟩)
          go_roundg (14 - (j + 1))
          case measure => omega
          case rel => exact ⟨j + 1, rfl, by omega, by go_num, stepB HBj.out hb12⟩
        · have hljz : ¬ ((j : Int) < 14) := by omega
          have HBj := Lib.hid hb
          clear hb
          go_wp2
          go_roundg (8 - (k + 1))
          case measure => omega
          case rel => exact ⟨k + 1, rfl, by omega, by go_num, HBj.out⟩
    · have hltz : ¬ ((k : Int) < 8) := by omega
      have hqr := (hb.block q (by omega)).trans HQ11.out
      obtain ⟨qlr, q0_r, q1_r, q2_r, q3_r, q4_r, qfr⟩ := box5 hqr
      have hxr := (hb.block w.heap.size (by omega)).trans HX11.out
      obtain ⟨xlr, x0_r, x1_r, x2_r, x3_r, x4_r, xfr⟩ := box5 hxr
      have HBe := Lib.hid (stepB HB11.out hb)
      have hlg := Hkl.out
      rw [Hll.out] at hlg
      generalize lg.length = gl at hlg ⊢
      have hwl : IntKind.i64.wrap ((len : Int) - 1) = (gl : Int) := by
        have : (len : Int) - 1 = (gl : Int) := by omega
        rw [this]; exact IntWalk.i64_in _ (by omega)
      have hlgi : ((gl : Int) == (gl : Int)) = true := by simp
      clear hb hqr hxr hlg Hkl
      go_wp2
      go_ret
      exact ⟨rfl, HBe.out⟩
end Go.Proofs.Ytkpogmigfjmacaa
