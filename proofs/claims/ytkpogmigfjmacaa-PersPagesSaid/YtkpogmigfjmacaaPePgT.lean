/-
  Package pers: told.
-/
import Derived.Test.YtkpogmigfjmacaaPePgP
set_option linter.unusedSimpArgs false
set_option linter.unusedVariables false
namespace Go.Proofs.Ytkpogmigfjmacaa
open Go.RowKit Sh

theorem cutQ {K R : Nat → World → Prop} {G : Prop} (walk : (∀ q w, R q w → K q w) → G) (pf : ∀ q w, R q w → K q w) : G := walk pf
/-- A table of the call's own. -/
def ToldP (T : Tb) (w : World) (e : Ending) (w' : World) : Prop :=
  ∃ v, e = .returned (.agg #[.int .u32 T.g, v, .int .i64 T.h, .int .i64 T.t, .bool T.p]) ∧ OwnR w.heap.size w' v T.l ∧ Below w.heap.size w w'
theorem cell_page {w : World} {g : Nat} {p : List UInt8} {t : TypeId} (h : w.heap[g]? = some (.cells (p.map cu8).toArray t (0, 0))) (hl : p.length = 64) {j : Nat} (hj : j < 64) : w.cell? ⟨g, j, none⟩ = some (.int .u8 (bz (at8 p j))) := by
  rw [cell_of_row w g j _ _ _ h, List.getElem?_toArray, List.getElem?_map]
  simp [at8, List.getD_eq_getElem?_getD, List.getElem?_eq_getElem (show j < p.length by omega)]
  rfl
theorem at8_mid {p : List UInt8} {o n j : Nat} (hj : j < n) : at8 ((p.drop o).take n) j = at8 p (o + j) := by
  unfold at8
  rw [List.getD_eq_getElem?_getD, List.getD_eq_getElem?_getD, List.getElem?_take, if_pos hj, List.getElem?_drop]
theorem mid_len {p : List UInt8} {o n : Nat} (hl : p.length = 64) (h : o + n ≤ 64) : ((p.drop o).take n).length = n := by simp; omega
set_option maxRecDepth 100000 in
set_option maxHeartbeats 16000000 in
theorem ptold_any (pg : List UInt8) (hpg : pg.length = 64) (w : World) :
    Calls Try.prog 39 #[.agg (pg.map cu8).toArray] w (ToldP (toldL pg) w) := by
  obtain ⟨pv, Hpv⟩ : ∃ x, Hid ((pg.map cu8).toArray = x) := ⟨_, Lib.hid rfl⟩
  obtain ⟨G, HG⟩ : ∃ G : Nat, Hid (numFrom ((pg.drop 3).take 4) 0 = G) := ⟨_, Lib.hid rfl⟩
  obtain ⟨h, Hh⟩ : ∃ x : Int, Hid (bz (at8 pg 1) - 1 = x) := ⟨_, Lib.hid rfl⟩
  obtain ⟨t, Ht⟩ : ∃ x : Int, Hid (bz (at8 pg 2) = x) := ⟨_, Lib.hid rfl⟩
  have hT : toldL pg = ⟨(G : Int), regsP pg 6, h, t, true⟩ := by unfold toldL; rw [HG.out, ← Hh.out, ← Ht.out]; rfl
  rw [hT, Hpv.out]
  clear hT
  obtain ⟨b1, Hb1⟩ : ∃ x : Int, Hid (bz (at8 pg 1) = x) := ⟨_, Lib.hid rfl⟩
  have hbz1 : 0 ≤ b1 ∧ b1 < 256 := by rw [← Hb1.out, bz_eq]; have := (at8 pg 1).toNat_lt; omega
  have hbz2 : 0 ≤ t ∧ t < 256 := by rw [← Ht.out, bz_eq]; have := (at8 pg 2).toNat_lt; omega
  have hh : b1 - 1 = h := by rw [← Hb1.out]; exact Hh.out
  have hG : G < 4294967296 := by have := gP_bound pg; rw [HG.out] at this; omega
  have w1 : IntKind.u32.wrap (G : Int) = (G : Int) := by rw [IntKind.wrap_u32]; omega
  have w2 : IntKind.i64.wrap b1 = b1 := IntWalk.i64_in _ (by omega)
  have w3 : IntKind.i64.wrap t = t := IntWalk.i64_in _ (by omega)
  have w4 : IntKind.i64.wrap (b1 - 1) = h := by rw [hh]; exact IntWalk.i64_in _ (by omega)
  clear hh hbz1 hbz2 hG
  have Hpl := Lib.hid hpg
  have Kn : Hid (∀ W, W.heap[w.heap.size]? = some (.cells pv 51 (0, 0)) → Calls Try.prog 50 #[.slice (some ⟨w.heap.size, 3, none⟩) 4 61] W (fun e w' => e = .returned (.int .u64 (G : Int)) ∧ W = w')) := Lib.hid fun W hW => by
    rw [← HG.out]
    rw [← Hpv.out] at hW
    exact number_any (mid_len hpg (by omega)) (by omega) fun j hj => by rw [at8_mid hj]; exact cell_page hW hpg (by omega)
  clear hpg
  go_enter Try.func39, Try.ntmps39
  go_upto_region 1 with (fail)
  obtain ⟨hx, hy⟩ := heap_alloc2 w (.cells pv 51) (.cells #[.int .u32 0, .slice none 0 0, .int .i64 0, .int .i64 0, .bool false] 25)
  have hb0 := bel2 w (.cells pv 51) (.cells #[.int .u32 0, .slice none 0 0, .int .i64 0, .int .i64 0, .bool false] 25)
  try simp only [World.size_alloc]
  generalize (w.alloc (.cells pv 51)).alloc (.cells #[.int .u32 0, .slice none 0 0, .int .i64 0, .int .i64 0, .bool false] 25) = w0 at hx hy hb0 ⊢
  have hxl : w.heap.size < w0.heap.size := (Array.getElem?_eq_some_iff.1 hx).1
  have c1 : w0.cell? ⟨w.heap.size, 1, none⟩ = some (.int .u8 b1) := by rw [← Hb1.out]; exact cell_page (by rw [hx, Hpv.out]) Hpl.out (by omega)
  have c2 : w0.cell? ⟨w.heap.size, 2, none⟩ = some (.int .u8 t) := by rw [← Ht.out]; exact cell_page (by rw [hx, Hpv.out]) Hpl.out (by omega)
  have hyl : w.heap.size + 1 < w0.heap.size := (Array.getElem?_eq_some_iff.1 hy).1
  have HX := Lib.hid hx; have HY := Lib.hid hy; have HB0 := Lib.hid hb0
  clear hx hy hb0
  refine held_start (w0 := w0) (Below.refl _ _) (by kernel_rfl) (fun wd hS => ?_)
  apply cutQ (R := fun q wf => wf.heap[q]? = some (.cells #[.int .u32 (G : Int), .slice none 0 0, .int .i64 h, .int .i64 t, .bool true] 25 (0, 0)) ∧ Below w0.heap.size w0 wf ∧ w0.heap.size ≤ q)
  case walk =>
    intro kont
    refine wpAnyH_take (i := 0) (v := .slice (some ⟨w.heap.size, 3, none⟩) 4 61) rfl (by kernel_rfl) (by kernel_rfl) (by kernel_rfl) (fun _ _ _ h => h) (Or.inl ⟨by rfl, ?_⟩) hS ?_
    · intro W hW; go_simp
    try simp only [List.getElem_toArray, List.getElem_cons_succ, List.getElem_cons_zero, Act.put, List.setIfInBounds_toArray, List.set]
    refine wpAnyH_take (i := 3) (v := .pointer (some ⟨w.heap.size, 1, none⟩)) rfl (by kernel_rfl) (by kernel_rfl) (by kernel_rfl) (fun _ _ _ h => h) (Or.inl ⟨by rfl, ?_⟩) hS ?_
    · intro W hW; go_simp
    try simp only [List.getElem_toArray, List.getElem_cons_succ, List.getElem_cons_zero, Act.put, List.setIfInBounds_toArray, List.set]
    refine wpAnyH_take (i := 4) (v := .int .u8 b1) rfl (by kernel_rfl) (by kernel_rfl) (by kernel_rfl) (fun _ _ _ h => h) (Or.inl ⟨by rfl, ?_⟩) hS ?_
    · intro W hW; have e1 := (hW.cell (p := ⟨w.heap.size, 1, none⟩) hxl).trans c1; go_simp
    try simp only [List.getElem_toArray, List.getElem_cons_succ, List.getElem_cons_zero, Act.put, List.setIfInBounds_toArray, List.set]
    refine wpAnyH_take (i := 5) (v := .int .i64 b1) rfl (by kernel_rfl) (by kernel_rfl) (by kernel_rfl) (fun _ _ _ h => h) (Or.inl ⟨by rfl, ?_⟩) hS ?_
    · intro W hW; go_simp
    try simp only [List.getElem_toArray, List.getElem_cons_succ, List.getElem_cons_zero, Act.put, List.setIfInBounds_toArray, List.set]
    refine wpAnyH_take (i := 6) (v := .int .i64 h) rfl (by kernel_rfl) (by kernel_rfl) (by kernel_rfl) (fun _ _ _ h => h) (Or.inl ⟨by rfl, ?_⟩) hS ?_
    · intro W hW; go_simp
    try simp only [List.getElem_toArray, List.getElem_cons_succ, List.getElem_cons_zero, Act.put, List.setIfInBounds_toArray, List.set]
    refine wpAnyH_take (i := 7) (v := .pointer (some ⟨w.heap.size, 2, none⟩)) rfl (by kernel_rfl) (by kernel_rfl) (by kernel_rfl) (fun _ _ _ h => h) (Or.inl ⟨by rfl, ?_⟩) hS ?_
    · intro W hW; go_simp
    try simp only [List.getElem_toArray, List.getElem_cons_succ, List.getElem_cons_zero, Act.put, List.setIfInBounds_toArray, List.set]
    refine wpAnyH_take (i := 8) (v := .int .u8 t) rfl (by kernel_rfl) (by kernel_rfl) (by kernel_rfl) (fun _ _ _ h => h) (Or.inl ⟨by rfl, ?_⟩) hS ?_
    · intro W hW; have e1 := (hW.cell (p := ⟨w.heap.size, 2, none⟩) hxl).trans c2; go_simp
    try simp only [List.getElem_toArray, List.getElem_cons_succ, List.getElem_cons_zero, Act.put, List.setIfInBounds_toArray, List.set]
    refine wpAnyH_take (i := 9) (v := .int .i64 t) rfl (by kernel_rfl) (by kernel_rfl) (by kernel_rfl) (fun _ _ _ h => h) (Or.inl ⟨by rfl, ?_⟩) hS ?_
    · intro W hW; go_simp
    try simp only [List.getElem_toArray, List.getElem_cons_succ, List.getElem_cons_zero, Act.put, List.setIfInBounds_toArray, List.set]
    refine wpAnyH_two 1 11 _ _ rfl rfl (by kernel_rfl) (by rfl) (by rfl) (fun K hK => ?p1) (fun K hK => ?q1)
    case' p1 =>
      go_simp
      refine (Kn.out _ (((hS).block w.heap.size hxl).trans HX.out)).mono ?_
      rintro e w' ⟨rfl, rfl⟩
      refine hK _ _ hS ?_
      clear hK K
      try simp only [List.getElem_toArray, List.getElem_cons_succ, List.getElem_cons_zero, Act.put, List.setIfInBounds_toArray, List.set]
      refine wpAnyH_take (i := 2) (v := .int .u32 (G : Int)) rfl (by kernel_rfl) (by kernel_rfl) (by kernel_rfl) (fun _ _ _ h => h) (Or.inl ⟨by rfl, ?_⟩) hS ?_
      · intro W hW; go_simp
      try simp only [List.getElem_toArray, List.getElem_cons_succ, List.getElem_cons_zero, Act.put, List.setIfInBounds_toArray, List.set]
      refine wpAnyH_take (i := 10) (v := .agg #[.int .u32 (G : Int), .slice none 0 0, .int .i64 h, .int .i64 t, .bool true]) rfl (by kernel_rfl) (by kernel_rfl) (by kernel_rfl) (fun _ _ _ h => h) (Or.inl ⟨by rfl, ?_⟩) hS ?_
      · intro W hW; go_simp
      try simp only [List.getElem_toArray, List.getElem_cons_succ, List.getElem_cons_zero, Act.put, List.setIfInBounds_toArray, List.set]
      refine wpAnyH_one 11 _ rfl (by kernel_rfl) (by rfl) (fun K hK => ?_)
      go_simp
      have hS5 : Below w0.heap.size w0 (wd.alloc (.cells #[.int .u32 0, .slice none 0 0, .int .i64 0, .int .i64 0, .bool false] 25)) := stepB hS (bel1 wd (.cells #[.int .u32 0, .slice none 0 0, .int .i64 0, .int .i64 0, .bool false] 25))
      have hq5 := heap_alloc_new wd (.cells #[.int .u32 0, .slice none 0 0, .int .i64 0, .int .i64 0, .bool false] 25)
      obtain ⟨q, Hq⟩ : ∃ q, Hid (wd.heap.size = q) := ⟨_, Lib.hid rfl⟩
      have hqb : w0.heap.size ≤ q := by rw [← Hq.out]; exact hS.size
      generalize hva : wd.alloc (.cells #[.int .u32 0, .slice none 0 0, .int .i64 0, .int .i64 0, .bool false] 25) = v5 at *
      rw [Hq.out] at hq5 ⊢
      clear hva
      refine hK _ _ hS5 ?_
      clear hK K
      try simp only [List.getElem_toArray, List.getElem_cons_succ, List.getElem_cons_zero, Act.put, List.setIfInBounds_toArray, List.set]
      obtain ⟨dl, d0, d1, d2, d3, d4, df⟩ := box5 hq5
      refine wpAnyH_one 12 _ rfl (by kernel_rfl) (by rfl) (fun K hK => ?_)
      go_simp
      have ho := set5_heap hq5 (.int .u32 (G : Int)) (.slice none 0 0) (.int .i64 h) (.int .i64 t) (.bool true)
      have hS9 := set5B hS5 hqb (.int .u32 (G : Int)) (.slice none 0 0) (.int .i64 h) (.int .i64 t) (.bool true)
      refine hK _ _ hS9 ?_
      clear hK K
      try simp only [List.getElem_toArray, List.getElem_cons_succ, List.getElem_cons_zero, Act.put, List.setIfInBounds_toArray, List.set]
      refine wpAnyH_done (by kernel_rfl) ?_ _
      exact kont q _ ⟨ho, hS9, hqb⟩
    case' q1 =>
      go_simp
      have hS5 : Below w0.heap.size w0 (wd.alloc (.cells #[.int .u32 0, .slice none 0 0, .int .i64 0, .int .i64 0, .bool false] 25)) := stepB hS (bel1 wd (.cells #[.int .u32 0, .slice none 0 0, .int .i64 0, .int .i64 0, .bool false] 25))
      have hq5 := heap_alloc_new wd (.cells #[.int .u32 0, .slice none 0 0, .int .i64 0, .int .i64 0, .bool false] 25)
      obtain ⟨q, Hq⟩ : ∃ q, Hid (wd.heap.size = q) := ⟨_, Lib.hid rfl⟩
      have hqb : w0.heap.size ≤ q := by rw [← Hq.out]; exact hS.size
      generalize hva : wd.alloc (.cells #[.int .u32 0, .slice none 0 0, .int .i64 0, .int .i64 0, .bool false] 25) = v5 at *
      rw [Hq.out] at hq5 ⊢
      clear hva
      refine hK _ _ hS5 ?_
      clear hK K
      try simp only [List.getElem_toArray, List.getElem_cons_succ, List.getElem_cons_zero, Act.put, List.setIfInBounds_toArray, List.set]
      refine wpAnyH_one 1 _ rfl (by kernel_rfl) (by rfl) (fun K hK => ?_)
      go_simp
      refine (Kn.out _ (((hS5).block w.heap.size hxl).trans HX.out)).mono ?_
      rintro e w' ⟨rfl, rfl⟩
      refine hK _ _ hS5 ?_
      clear hK K
      try simp only [List.getElem_toArray, List.getElem_cons_succ, List.getElem_cons_zero, Act.put, List.setIfInBounds_toArray, List.set]
      refine wpAnyH_take (i := 2) (v := .int .u32 (G : Int)) rfl (by kernel_rfl) (by kernel_rfl) (by kernel_rfl) (fun _ _ _ h => h) (Or.inl ⟨by rfl, ?_⟩) hS5 ?_
      · intro W hW; go_simp
      try simp only [List.getElem_toArray, List.getElem_cons_succ, List.getElem_cons_zero, Act.put, List.setIfInBounds_toArray, List.set]
      refine wpAnyH_take (i := 10) (v := .agg #[.int .u32 (G : Int), .slice none 0 0, .int .i64 h, .int .i64 t, .bool true]) rfl (by kernel_rfl) (by kernel_rfl) (by kernel_rfl) (fun _ _ _ h => h) (Or.inl ⟨by rfl, ?_⟩) hS5 ?_
      · intro W hW; go_simp
      try simp only [List.getElem_toArray, List.getElem_cons_succ, List.getElem_cons_zero, Act.put, List.setIfInBounds_toArray, List.set]
      obtain ⟨dl, d0, d1, d2, d3, d4, df⟩ := box5 hq5
      refine wpAnyH_one 12 _ rfl (by kernel_rfl) (by rfl) (fun K hK => ?_)
      go_simp
      have ho := set5_heap hq5 (.int .u32 (G : Int)) (.slice none 0 0) (.int .i64 h) (.int .i64 t) (.bool true)
      have hS9 := set5B hS5 hqb (.int .u32 (G : Int)) (.slice none 0 0) (.int .i64 h) (.int .i64 t) (.bool true)
      refine hK _ _ hS9 ?_
      clear hK K
      try simp only [List.getElem_toArray, List.getElem_cons_succ, List.getElem_cons_zero, Act.put, List.setIfInBounds_toArray, List.set]
      refine wpAnyH_done (by kernel_rfl) ?_ _
      exact kont q _ ⟨ho, hS9, hqb⟩
  intro q w9 ⟨hq9, hb9, hqb⟩
  have HX9 := Lib.hid ((hb9.block w.heap.size hxl).trans HX.out); have HY9 := Lib.hid ((hb9.block (w.heap.size + 1) hyl).trans HY.out); have HQ9 := Lib.hid hq9; have HB9 := Lib.hid (stepB HB0.out hb9)
  have hwq : w.heap.size + 2 ≤ q := by omega
  clear hq9 hb9 hqb HX HY HB0 c1 c2 hxl hyl Kn w1 w2 w3 w4
  go_wp2
  go_loopg [18, 4, 5, 6] 6 (fun m i _ _ _ wr => ∃ (k : Nat) (v : Value), m = 6 - k ∧ k ≤ 6 ∧ i = .int .i64 k ∧ Hid (wr.heap[w.heap.size]? = some (.cells pv 51 (0, 0))) ∧ Hid (wr.heap[w.heap.size + 1]? = some (.cells #[.int .u32 0, .slice none 0 0, .int .i64 0, .int .i64 0, .bool false] 25 (0, 0))) ∧ Hid (wr.heap[q]? = some (.cells #[.int .u32 (G : Int), v, .int .i64 h, .int .i64 t, .bool true] 25 (0, 0))) ∧ Hid (OwnR (q + 1) wr v (regsP pg k)) ∧ Below w.heap.size w wr)
  case atStart => exact ⟨0, _, rfl, by omega, rfl, HX9, HY9, HQ9, Lib.hid (OwnR.nil _ _), HB9.out⟩
  case round =>
    clear HX9 HY9 HQ9 HB9
    obtain ⟨k, v, rfl, hk, rfl, HX, HY, HQ, HV, hb⟩ := hrel
    have hql : q < wr.heap.size := (Array.getElem?_eq_some_iff.1 HQ.out).1
    have HB := Lib.hid hb
    clear hb
    by_cases hlt : k < 6
    · have hltz : (k : Int) < 6 := by omega
      obtain ⟨kv, Hkv⟩ : ∃ x, Hid (keyP pg k = x) := ⟨_, Lib.hid rfl⟩
      obtain ⟨nb, Hnb⟩ : ∃ x : Int, Hid (nxP pg k = x) := ⟨_, Lib.hid rfl⟩
      have hnb : 0 ≤ nb ∧ nb ≤ 255 := by rw [← Hnb.out]; exact nxP_bound pg k
      have wn : IntKind.i64.wrap nb = nb := IntWalk.i64_in _ (by omega)
      have hnx := regsP_next pg k
      rw [Hkv.out, Hnb.out] at hnx
      obtain ⟨o, Ho⟩ : ∃ o, Hid (7 + 9 * k = o) := ⟨_, Lib.hid rfl⟩
      obtain ⟨d, Hd⟩ : ∃ d, Hid (64 - o = d) := ⟨_, Lib.hid rfl⟩
      have hd1 : ¬ d = 1 := by have := Hd.out; have := Ho.out; omega
      have co : wr.cell? ⟨w.heap.size, o, none⟩ = some (.int .u8 nb) := by
        rw [← Hnb.out, ← Ho.out]; exact cell_page (by rw [HX.out, Hpv.out]) Hpl.out (by omega)
      have Kkb : Hid (∀ W, Calls Try.prog 41 #[.pointer (some ⟨w.heap.size, 0, none⟩), .int .i64 (k : Int)] W (fun e w' => e = .returned (.slice (some ⟨w.heap.size, o, none⟩) 9 d) ∧ W = w')) := Lib.hid fun W => by rw [← Hd.out, ← Ho.out]; exact keyBytes_any w.heap.size k hlt W
      have Knm : Hid (Calls Try.prog 50 #[.slice (some ⟨w.heap.size, o + 1, none⟩) 8 (d - 1)] wr (fun e w' => e = .returned (.int .u64 (kv : Int)) ∧ wr = w')) := Lib.hid (by
        have h64 := Ho.out
        rw [← Hkv.out]
        unfold keyP
        refine number_any (mid_len Hpl.out (by omega)) (by omega) fun j hj => ?_
        rw [at8_mid hj, show 8 + 9 * k + j = o + 1 + j by omega]
        exact cell_page (by rw [HX.out, Hpv.out]) Hpl.out (by omega))
      clear hnb
      by_cases hz : kv = 0
      · have hzb : ((kv : Int) == 0) = true := by simp [hz]
        have hzn : ((kv : Int) != 0) = false := by simp [hz]
        rw [if_pos hz, List.append_nil] at hnx
        have Hnx := Lib.hid hnx
        clear hnx hz
        go_wp2_with (first
          | (go_at_call 41; refine (Kkb.out _).mono ?_; rintro e w' ⟨rfl, rfl⟩)
          | (go_at_call 50; refine Knm.out.mono ?_; rintro e w' ⟨rfl, rfl⟩))
        go_roundg (6 - (k + 1))
        case measure => omega
        case rel => exact ⟨k + 1, v, rfl, by omega, by go_num, HX, HY, HQ, Lib.hid (by rw [Hnx.out]; exact HV.out), HB.out⟩
      · have hzb : ((kv : Int) == 0) = false := by simp; omega
        have hzn : ((kv : Int) != 0) = true := by simp; omega
        rw [if_neg hz] at hnx
        have Hnx := Lib.hid hnx
        clear hnx hz
        go_upto_region 8 with (first
          | (go_at_call 41; refine (Kkb.out _).mono ?_; rintro e w' ⟨rfl, rfl⟩)
          | (go_at_call 50; refine Knm.out.mono ?_; rintro e w' ⟨rfl, rfl⟩))
        obtain ⟨pl, q0, q1, q2, q3, q4, qf⟩ := box5 HQ.out
        refine wp_region_up 10 (fun W => Below (q + 1) wr W) (by kernel_rfl) ?_
        have hS : Below (q + 1) wr (World.drew wr) := (Below.refl _ _).drew
        change upHead _ _ _ _ _ _ _ _ _ (World.drew wr)
        have hvd : OwnR (q + 1) (World.drew wr) v (regsP pg k) := HV.out
        generalize World.drew wr = wd at hS hvd ⊢
        have hwd := hS.size
        refine up_take (i := 0) (v := .pointer (some ⟨q, 1, none⟩)) rfl (by kernel_rfl) (by kernel_rfl) (fun _ _ _ h => h) (Or.inl ⟨by rfl, ?_⟩) hS ?_
        · intro W hW; go_simp
        try simp only [List.getElem_toArray, List.getElem_cons_succ, List.getElem_cons_zero, Act.put, List.setIfInBounds_toArray, List.set]
        refine up_take (i := 1) (v := v) rfl (by kernel_rfl) (by kernel_rfl) (fun _ _ _ h => h) (Or.inl ⟨by rfl, ?_⟩) hS ?_
        · intro W hW; have e1 := (hW.cell (p := ⟨q, 1, none⟩) (by show q < _; omega)).trans q1; go_simp
        try simp only [List.getElem_toArray, List.getElem_cons_succ, List.getElem_cons_zero, Act.put, List.setIfInBounds_toArray, List.set]
        refine up_take (i := 2) (v := .slice (some ⟨w.heap.size, o, none⟩) 9 d) rfl (by kernel_rfl) (by kernel_rfl) (fun _ _ _ h => h) (Or.inl ⟨by rfl, ?_⟩) hS ?_
        · intro W hW; go_simp
        try simp only [List.getElem_toArray, List.getElem_cons_succ, List.getElem_cons_zero, Act.put, List.setIfInBounds_toArray, List.set]
        refine up_take (i := 3) (v := .pointer (some ⟨w.heap.size, o, none⟩)) rfl (by kernel_rfl) (by kernel_rfl) (fun _ _ _ h => h) (Or.inl ⟨by rfl, ?_⟩) hS ?_
        · intro W hW; go_simp
        try simp only [List.getElem_toArray, List.getElem_cons_succ, List.getElem_cons_zero, Act.put, List.setIfInBounds_toArray, List.set]
        refine up_take (i := 4) (v := .int .u8 nb) rfl (by kernel_rfl) (by kernel_rfl) (fun _ _ _ h => h) (Or.inl ⟨by rfl, ?_⟩) hS ?_
        · intro W hW; have e1 := (hW.cell (p := ⟨w.heap.size, o, none⟩) (by show w.heap.size < _; omega)).trans co; go_simp
        try simp only [List.getElem_toArray, List.getElem_cons_succ, List.getElem_cons_zero, Act.put, List.setIfInBounds_toArray, List.set]
        refine up_take (i := 5) (v := .int .i64 nb) rfl (by kernel_rfl) (by kernel_rfl) (fun _ _ _ h => h) (Or.inl ⟨by rfl, ?_⟩) hS ?_
        · intro W hW; go_simp
        try simp only [List.getElem_toArray, List.getElem_cons_succ, List.getElem_cons_zero, Act.put, List.setIfInBounds_toArray, List.set]
        refine up_take (i := 6) (v := .int .u64 (kv : Int)) rfl (by kernel_rfl) (by kernel_rfl) (fun _ _ _ h => h) (Or.inl ⟨by rfl, ?_⟩) hS ?_
        · intro W hW; go_simp
        try simp only [List.getElem_toArray, List.getElem_cons_succ, List.getElem_cons_zero, Act.put, List.setIfInBounds_toArray, List.set]
        refine up_take (i := 7) (v := .agg #[.int .i64 nb, .int .u64 (kv : Int)]) rfl (by kernel_rfl) (by kernel_rfl) (fun _ _ _ h => h) (Or.inl ⟨by rfl, ?_⟩) hS ?_
        · intro W hW; go_simp
        try simp only [List.getElem_toArray, List.getElem_cons_succ, List.getElem_cons_zero, Act.put, List.setIfInBounds_toArray, List.set]
        refine up_one 8 _ rfl (by kernel_rfl) (by decide) (by rfl) (fun K hK => ?_)
        go_simp
        have hS7 : Below (q + 1) wr (wd.alloc (.cells #[.int .i64 nb, .int .u64 (kv : Int)] 38)) := hS.alloc (by omega) _
        refine hK _ _ hS7 ?_
        clear hK K
        try simp only [List.getElem_toArray, List.getElem_cons_succ, List.getElem_cons_zero, Act.put, List.setIfInBounds_toArray, List.set]
        refine up_one 9 _ rfl (by kernel_rfl) (by decide) (by rfl) (fun K hK => ?_)
        refine wp_behind (.tmp 29) (.tmp 36) rfl (q + 1) v _ rfl (hvd.alloc _) (by simp only [World.size_alloc]; omega) (some ⟨wd.heap.size, 0, none⟩) 1 1 (wd.heap.size + 1) [(nb, (kv : Int))] rfl rfl (.inr ⟨wd.heap.size, 0, rfl, by omega, fun j r hj => ?_⟩) (by have := regsP_len pg k; simp; omega) ?_
        · match j, hj with
          | 0, hj =>
            obtain rfl : (nb, (kv : Int)) = r := by simpa using hj
            exact ⟨by simp, by simp⟩
          | j + 1, hj => simp at hj
        intro v8 w8 ho8 hg8
        have hS8 : Below (q + 1) wr w8 := below_grown hS7 (hvd.alloc _) hg8 (by simp only [World.size_alloc]; omega)
        rw [← Hnx.out] at ho8
        obtain ⟨A8, c8, rfl, hs8⟩ := ho8.sl
        clear hs8
        refine hK _ _ hS8 ?_
        clear hK K
        try simp only [List.getElem_toArray, List.getElem_cons_succ, List.getElem_cons_zero, Act.put, List.setIfInBounds_toArray, List.set]
        have hx8 := (hS8.block w.heap.size (by omega)).trans HX.out
        have hy8 := (hS8.block (w.heap.size + 1) (by omega)).trans HY.out
        have hq8 := (hS8.block q (by omega)).trans HQ.out
        have hb8 : Below w.heap.size w w8 := HB.out.trans (hS8.mono (by omega))
        obtain ⟨pl8, p0_8, p1_8, p2_8, p3_8, p4_8, pf8⟩ := box5 hq8
        refine up_tail ?_
        refine up_last 10 _ rfl (by kernel_rfl) (by decide) (by rfl) (fun K hK => ?_)
        go_simp
        refine hK _ _ ?_
        clear hK K
        try simp only [List.getElem_toArray, List.getElem_cons_succ, List.getElem_cons_zero, Act.put, List.setIfInBounds_toArray, List.set]
        refine up_last 11 _ rfl (by kernel_rfl) (by decide) (by rfl) (fun K hK => ?_)
        go_simp
        refine hK _ _ ?_
        clear hK K
        try simp only [List.getElem_toArray, List.getElem_cons_succ, List.getElem_cons_zero, Act.put, List.setIfInBounds_toArray, List.set]
        refine up_done (by kernel_rfl) ?_ _
        have hq9 : (w8.setCell ⟨q, 1, none⟩ (.slice A8 (regsP pg (k + 1)).length c8)).heap[q]? = some (.cells #[.int .u32 (G : Int), (.slice A8 (regsP pg (k + 1)).length c8), .int .i64 h, .int .i64 t, .bool true] 25 (0, 0)) := (heap_setCell_same w8 q 1 _ 25 (.slice A8 (regsP pg (k + 1)).length c8) hq8).trans rfl
        have hset : ∀ j, j ≠ q → (w8.setCell ⟨q, 1, none⟩ (.slice A8 (regsP pg (k + 1)).length c8)).heap[j]? = w8.heap[j]? := fun j hj => Below.heap_setCell w8 ⟨q, 1, none⟩ _ j hj
        have HF := Lib.hid (And.intro hq9 (And.intro ((hset w.heap.size (by omega)).trans hx8) (And.intro ((hset (w.heap.size + 1) (by omega)).trans hy8) (And.intro (ho8.set (p := ⟨q, 1, none⟩) (by show q < _; omega) (.slice A8 (regsP pg (k + 1)).length c8)) (hb8.setCell (p := ⟨q, 1, none⟩) (show w.heap.size ≤ q by omega) (.slice A8 (regsP pg (k + 1)).length c8))))))
        clear hq9 hset hx8 hy8 hq8 ho8 hg8 hb8 hS8 hS7 hS hvd hwd pl q0 q1 q2 q3 q4 qf pl8 p0_8 p1_8 p2_8 p3_8 p4_8 pf8 Kkb Knm co
        go_wp2
        go_roundg (6 - (k + 1))
        case measure => omega
        case rel => exact ⟨k + 1, _, rfl, by omega, by go_num, Lib.hid HF.out.2.1, Lib.hid HF.out.2.2.1, Lib.hid HF.out.1, Lib.hid HF.out.2.2.2.1, HF.out.2.2.2.2⟩
    · obtain rfl : k = 6 := by omega
      have hltz : ¬ ((6 : Int) < 6) := by omega
      obtain ⟨A2, c2, rfl, hs2⟩ := HV.out.sl
      clear hs2
      obtain ⟨pl, q0, q1, q2, q3, q4, qf⟩ := box5 HQ.out
      obtain ⟨rl, r0, r1, r2, r3, r4, rf⟩ := box5 HY.out
      go_wp2
      exact bodyPost_ret (v := .agg #[.int .u32 (G : Int), .slice A2 (regsP pg 6).length c2, .int .i64 h, .int .i64 t, .bool true]) (by simp [results, Try.results39, go_sem, r0, r1, r2, r3, r4, rl, pl]) rfl ⟨_, rfl, (HV.out.set5 (b := w.heap.size + 1) (by omega) _ _ _ _ _).lower (by omega), set5B HB.out (by omega) _ _ _ _ _⟩
end Go.Proofs.Ytkpogmigfjmacaa
