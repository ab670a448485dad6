/-
  Package pers: Read.
-/
import Derived.Test.YtkpogmigfjmacaaPePgT
set_option linter.unusedSimpArgs false
set_option linter.unusedVariables false
namespace Go.Proofs.Ytkpogmigfjmacaa
open Go.RowKit Sh

theorem regsP_64 (pg : List UInt8) (k : Nat) : ∀ q ∈ regsP pg k, U64 q.2 := fun q hq => by
  unfold regsP at hq
  obtain ⟨i, _, h⟩ := List.mem_filterMap.1 hq
  split at h
  · cases h
  · obtain rfl : (nxP pg i, (keyP pg i : Int)) = q := by simpa using h
    exact ⟨by simp, keyP_bound pg i⟩
theorem load_pg {w : World} {b : Nat} {T : TypeId} {l : List UInt8} (hl : l.length = 64) (h : w.heap[b]? = some (.cells (l.map cu8).toArray T (0, 0))) :
    (Instr.loadAt 51 (.pointer (some ⟨b, 0, none⟩))).run Try.prog w = .ok (.agg (l.map cu8).toArray) w :=
  run_loadAt_mid (P := Try.prog) w b 0 51 (l.map cu8) _ (fun j v hj => by rw [Nat.zero_add, cell_of_row w b j _ _ _ h]; simpa using hj) Try.underlying51 rfl (by rw [List.length_map, hl]; exact info64)
set_option maxRecDepth 100000 in
set_option maxHeartbeats 16000000 in
theorem read_any (pg : List UInt8) (hpg : pg.length = 64) (w : World) :
    Calls Try.prog 23 #[.agg (pg.map cu8).toArray] w (ToldP (readL pg) w) := by
  obtain ⟨R, HR⟩ : ∃ R, Hid (readL pg = R) := ⟨_, Lib.hid rfl⟩
  rw [HR.out]
  have Kt : Hid (∀ W, Calls Try.prog 39 #[.agg (pg.map cu8).toArray] W (ToldP (toldL pg) W)) := Lib.hid fun W => ptold_any pg hpg W
  have Kn : Hid (∀ W, Calls Try.prog 22 #[] W (Ret (.agg #[.int .u32 0, .slice none 0 0, .int .i64 (-1), .int .i64 0, .bool false]) W)) := Lib.hid fun W => none_any W
  have hu : ∀ q ∈ (toldL pg).l, U64 q.2 := regsP_64 pg 6
  have hg : U32 (toldL pg).g := ⟨by unfold toldL; simp, gP_bound pg⟩
  have hl6 : (toldL pg).l.length ≤ 6 := regsP_len pg 6
  obtain ⟨eb, Heb⟩ : ∃ x, Hid (decide (pageL (toldL pg) = pg) = x) := ⟨_, Lib.hid rfl⟩
  have Hne : Hid (∀ W, (Op.equalIn 10000 51 (.agg ((pageL (toldL pg)).map cu8).toArray) (.agg (pg.map cu8).toArray)).run Try.prog W = .ok eb W) := Lib.hid fun W => by rw [← Heb.out]; exact run_items (P := Try.prog) 51 5 64 Try.underlying51 Try.underlying5 (by kernel_rfl) _ _ (pageL_len _) hpg W
  have hrd : R = if eb = true then toldL pg else ⟨0, [], -1, 0, false⟩ := by
    rw [← HR.out, ← Heb.out]; unfold readL
    by_cases e : pageL (toldL pg) = pg
    · rw [if_pos e, if_pos (by simp [e])]
    · rw [if_neg e, if_neg (by simp [e])]
  have hkp : ∀ W (A2 : Option Addr) (n2 c2 : Nat), SlR W A2 n2 c2 (toldL pg).l → Calls Try.prog 24 #[.agg #[.int .u32 (toldL pg).g, .slice A2 n2 c2, .int .i64 (toldL pg).h, .int .i64 (toldL pg).t, .bool (toldL pg).p]] W (Ret (.agg ((pageL (toldL pg)).map cu8).toArray) W) :=
    fun W A2 n2 c2 hs => page_any (toldL pg) A2 n2 c2 W hs (by have := hs.1; omega) hu hg
  have Hld : Hid (∀ W, W.heap[w.heap.size]? = some (.cells (pg.map cu8).toArray 51 (0, 0)) → (Instr.loadAt 51 (.pointer (some ⟨w.heap.size, 0, none⟩))).run Try.prog W = .ok (.agg (pg.map cu8).toArray) W) := Lib.hid fun W hW => load_pg hpg hW
  have hps : (Try.prog.info? 51).map (·.size) = some (pg.map cu8).toArray.size := by rw [List.size_toArray, List.length_map, hpg]; exact info64
  obtain ⟨pw, Hpw⟩ : ∃ x, Hid (((pageL (toldL pg)).map cu8).toArray = x) := ⟨_, Lib.hid rfl⟩
  rw [Hpw.out] at Hne hkp
  obtain ⟨pv, Hpv⟩ : ∃ x, Hid ((pg.map cu8).toArray = x) := ⟨_, Lib.hid rfl⟩
  rw [Hpv.out] at Kt Hne Hld hps ⊢
  generalize toldL pg = T0 at Kt hrd hkp hl6
  obtain ⟨g, l, h, t, p⟩ := T0
  have Kt : Hid (∀ W, Calls Try.prog 39 #[.agg pv] W (fun e w' => ∃ v, e = .returned (.agg #[.int .u32 g, v, .int .i64 h, .int .i64 t, .bool p]) ∧ OwnR W.heap.size w' v l ∧ Below W.heap.size W w')) := Kt
  simp only at hkp hl6
  have Hkp := Lib.hid hkp; have Hrd := Lib.hid hrd; have Hps := Lib.hid hps
  clear hu hg HR Heb hpg hkp hrd hps
  go_enter Try.func23, Try.ntmps23
  go_upto_region 1 with (fail)
  obtain ⟨hx, hy⟩ := heap_alloc2 w (.cells pv 51) (.cells #[.int .u32 0, .slice none 0 0, .int .i64 0, .int .i64 0, .bool false] 25)
  have hb0 := bel2 w (.cells pv 51) (.cells #[.int .u32 0, .slice none 0 0, .int .i64 0, .int .i64 0, .bool false] 25)
  try simp only [World.size_alloc]
  generalize (w.alloc (.cells pv 51)).alloc (.cells #[.int .u32 0, .slice none 0 0, .int .i64 0, .int .i64 0, .bool false] 25) = w0 at hx hy hb0 ⊢
  have hxl : w.heap.size < w0.heap.size := (Array.getElem?_eq_some_iff.1 hx).1
  have hyl : w.heap.size + 1 < w0.heap.size := (Array.getElem?_eq_some_iff.1 hy).1
  go_upto_region 2 with (first
    | (refine wpList_load_row rfl 51 _ rfl w.heap.size rfl 51 pv (0, 0) _ hx Try.underlying51 rfl Hps.out ?_)
    | (go_at_call 39; refine (Kt.out _).mono ?_; rintro e w1 ⟨v, rfl, ho1, hb1⟩; obtain ⟨A2, c2, rfl, hs1⟩ := ho1.sl; clear hs1))
  obtain ⟨n2, Hn2⟩ : ∃ n2, Hid (l.length = n2) := ⟨_, Lib.hid rfl⟩
  rw [Hn2.out] at ho1 ⊢
  have hq2 := heap_alloc_new w1 (.cells #[.int .u32 g, .slice A2 n2 c2, .int .i64 h, .int .i64 t, .bool p] 25)
  have hb12 := bel1 w1 (.cells #[.int .u32 g, .slice A2 n2 c2, .int .i64 h, .int .i64 t, .bool p] 25)
  have hb02 := stepB hb1 hb12
  have hx2 := (hb02.block w.heap.size hxl).trans hx
  have hy2 := (hb02.block (w.heap.size + 1) hyl).trans hy
  have ho2 := ho1.below hb12
  have hb2 := stepB hb0 hb02
  obtain ⟨q, Hq⟩ : ∃ q, Hid (w1.heap.size = q) := ⟨_, Lib.hid rfl⟩
  have hwq : w0.heap.size ≤ q := by rw [← Hq.out]; exact hb1.size
  rw [Hq.out] at hq2
  generalize w1.alloc (.cells #[.int .u32 g, .slice A2 n2 c2, .int .i64 h, .int .i64 t, .bool p] 25) = w2 at hq2 hx2 hy2 ho2 hb2 ⊢
  rw [Hq.out]
  have HX2 := Lib.hid hx2; have HY2 := Lib.hid hy2; have HQ2 := Lib.hid hq2; have HO2 := Lib.hid ho2; have HB2 := Lib.hid hb2; have HS2 := Lib.hid (OwnR.sl2 ho2)
  have xl2 : w.heap.size < w2.heap.size := (Array.getElem?_eq_some_iff.1 hx2).1
  have ql : q < w2.heap.size := (Array.getElem?_eq_some_iff.1 hq2).1
  have hww : w.heap.size + 1 < w0.heap.size := hyl
  clear hx hy hb0 hb1 hb12 hb02 hx2 hy2 hq2 ho1 ho2 hb2 Kt Hq hxl hyl
  have Kp : Hid (∀ W, SlR W A2 n2 c2 l → Calls Try.prog 24 #[.agg #[.int .u32 g, .slice A2 n2 c2, .int .i64 h, .int .i64 t, .bool p]] W (Ret (.agg pw) W)) := Lib.hid fun W hs => Hkp.out W A2 n2 c2 hs
  refine held_start (w0 := w2) (Below.refl _ _) (by kernel_rfl) (fun wd hS => ?_)
  refine wpAnyH_take (i := 0) (v := .agg #[.int .u32 g, .slice A2 n2 c2, .int .i64 h, .int .i64 t, .bool p]) rfl (by kernel_rfl) (by kernel_rfl) (by kernel_rfl) (fun _ _ _ h => h) (Or.inl ⟨by rfl, ?_⟩) hS ?_
  · intro W hW; exact exec_load5 rfl rfl (load5 ((hW.block _ ql).trans HQ2.out) Try.underlying25 infoTb)
  try simp only [List.getElem_toArray, List.getElem_cons_succ, List.getElem_cons_zero, Act.put, List.setIfInBounds_toArray, List.set]
  refine wpAnyH_take (i := 2) (v := .agg pv) rfl (by kernel_rfl) (by kernel_rfl) (by kernel_rfl) (fun _ _ _ h => h) (Or.inl ⟨by rfl, ?_⟩) hS ?_
  · intro W hW; exact exec_load_at rfl rfl (Hld.out W ((hW.block _ xl2).trans HX2.out))
  try simp only [List.getElem_toArray, List.getElem_cons_succ, List.getElem_cons_zero, Act.put, List.setIfInBounds_toArray, List.set]
  refine wpAnyH_one 1 _ rfl (by kernel_rfl) (by rfl) (fun K hK => ?_)
  go_simp
  refine (Kp.out _ (SlR.below HS2.out hS)).mono ?_
  rintro e w3 ⟨rfl, hb3⟩
  have hS3 : Below w2.heap.size w2 w3 := stepB hS hb3
  refine hK _ _ hS3 ?_
  clear hK K
  try simp only [List.getElem_toArray, List.getElem_cons_succ, List.getElem_cons_zero, Act.put, List.setIfInBounds_toArray, List.set]
  refine wpAnyH_take (i := 3) (v := .bool (!eb)) rfl (by kernel_rfl) (by kernel_rfl) (by kernel_rfl) (fun _ _ _ h => h) (Or.inl ⟨by rfl, ?_⟩) hS3 ?_
  · intro W hW; have e1 := Hne.out W; go_simp
  try simp only [List.getElem_toArray, List.getElem_cons_succ, List.getElem_cons_zero, Act.put, List.setIfInBounds_toArray, List.set]
  refine wpAnyH_done (by kernel_rfl) ?_ _
  have HY3 := Lib.hid ((hS3.block (w.heap.size + 1) (by omega)).trans HY2.out); have HQ3 := Lib.hid ((hS3.block q ql).trans HQ2.out); have HO3 := Lib.hid (HO2.out.below hS3); have HB3 := Lib.hid (stepB HB2.out hS3)
  clear hS hS3 hb3 HX2 HY2 HQ2 HO2 HB2 HS2 Kp Hkp Hne Hld xl2 ql
  obtain ⟨rl, r0, r1, r2, r3, r4, rf⟩ := box5 HY3.out
  obtain ⟨ql, q0, q1, q2, q3, q4, qf⟩ := box5 HQ3.out
  cases eb with
  | false =>
    obtain rfl : R = ⟨0, [], -1, 0, false⟩ := by rw [Hrd.out]; rfl
    clear Hrd
    go_wp2_with (go_at_call 22; refine (Kn.out _).mono ?_; rintro e w4 ⟨rfl, hb4⟩; have hy4 := (hb4.block (w.heap.size + 1) rl).trans HY3.out; have HB4 := Lib.hid (stepB HB3.out hb4); clear hb4; obtain ⟨sl, s0, s1, s2, s3, s4, sf⟩ := box5 hy4)
    exact bodyPost_ret (v := .agg #[.int .u32 0, .slice none 0 0, .int .i64 (-1), .int .i64 0, .bool false]) (by simp [results, Try.results23, go_sem, r0, r1, r2, r3, r4, rl, s0, s1, s2, s3, s4, sl]) rfl ⟨_, rfl, OwnR.nil _ _, set5B HB4.out (by omega) _ _ _ _ _⟩
  | true =>
    obtain rfl : R = ⟨g, l, h, t, p⟩ := by rw [Hrd.out]; rfl
    clear Hrd
    go_wp2
    exact bodyPost_ret (v := .agg #[.int .u32 g, .slice A2 n2 c2, .int .i64 h, .int .i64 t, .bool p]) (by simp [results, Try.results23, go_sem, r0, r1, r2, r3, r4, rl, ql]) rfl ⟨_, rfl, (HO3.out.set5 (b := w.heap.size + 1) (by omega) _ _ _ _ _).lower (by omega), set5B HB3.out (by omega) _ _ _ _ _⟩
end Go.Proofs.Ytkpogmigfjmacaa
