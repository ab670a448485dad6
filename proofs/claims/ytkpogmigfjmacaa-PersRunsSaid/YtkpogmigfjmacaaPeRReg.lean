/-
  The document's answer: register.
-/
import Derived.Test.YtkpogmigfjmacaaPeRRem
import Derived.Test.YtkpogmigfjmacaaPeSnd
import Derived.Test.YtkpogmigfjmacaaPeAct
set_option linter.unusedSimpArgs false
set_option linter.unusedVariables false
namespace Go.Proofs.Ytkpogmigfjmacaa
open Go.RowKit

/-- What the document's orders answer: as the program's, but that the nexus itself is not told. -/
def refR (n : Int) (R : Res) : Res := (R.1, R.2.1, keepN n R.2.2)
theorem allocB8 (w : World) : (Instr.alloc 63 true (.tuple #[])).run Try.prog w = .ok (.pointer (some ⟨w.heap.size, 0, none⟩)) (w.alloc (.cells (boolV fun _ => false).toArray 63)) := by kernel_rfl
theorem boolV_congr {f f' : Int → Bool} (h : ∀ i, 0 ≤ i → i < 8 → f i = f' i) : boolV f = boolV f' := by
  unfold boolV
  exact List.map_congr_left fun i hi => by rw [h i (by omega) (by have := List.mem_range.1 hi; omega)]
theorem boolV_set (f : Int → Bool) {N : Nat} (hN : N < 8) (x : Bool) : (boolV f).set N (.bool x) = boolV (fun i => if i = (N : Int) then x else f i) := by
  apply List.ext_getElem?
  intro i
  by_cases hi : i < 8
  · rw [boolV_at _ hi]
    by_cases e : N = i
    · subst e
      rw [List.getElem?_set_self (by rw [boolV_len]; exact hN), if_pos rfl]
    · rw [List.getElem?_set_ne e, boolV_at _ hi, if_neg (by omega)]
  · rw [List.getElem?_eq_none (by rw [List.length_set, boolV_len]; omega), List.getElem?_eq_none (by rw [boolV_len]; omega)]
theorem boolV_one {j : Nat} (hj : j < 8) : (boolV fun _ => false).set j (.bool true) = boolV fun i => i == (j : Int) := by
  rw [boolV_set _ hj]
  refine boolV_congr fun i _ _ => ?_
  by_cases e : i = (j : Int) <;> simp [e]
theorem keepN_isN (n : Int) (l : List (Int × Int)) : keepN n (goneOf (isN n) l) = [] := by
  unfold keepN
  refine List.filter_eq_nil_iff.2 fun x hx => ?_
  unfold goneOf at hx
  obtain ⟨q, hq, rfl⟩ := List.mem_map.1 hx
  have := (List.mem_filter.1 hq).2
  simpa [isN, eqN] using this

set_option maxRecDepth 100000 in
set_option maxHeartbeats 16000000 in
theorem rregister_any (g h t : Int) (p : Bool) (A : Option Addr) (len cap : Nat) (l : List (Int × Int)) (w : World) (hS : SlR w A len cap l) (hm : len ≤ 6) (hso : soundB l h t = true) (j : Nat) (hj : j < 8) (a ty key other : Int) (ap : Bool) :
    Calls Try.prog 33 #[.agg #[.int .u32 g, .slice A len cap, .int .i64 h, .int .i64 t, .bool p], .int .i64 (j : Int), .agg #[.int .i64 a, .int .i64 ty, .int .u64 key, .int .u64 other, .bool ap]] w (ActP w A len cap l (refR (j : Int) (regL ⟨g, l, h, t, p⟩ (j : Int) a key other ap))) := by
  obtain ⟨hs1, hr, hs3⟩ := sound_iff.1 hso
  obtain ⟨pv, Hpv⟩ : ∃ x, Hid ((arrV (keyL l)).toArray = x) := ⟨_, Lib.hid rfl⟩
  have Kk : Hid (∀ W, Below w.heap.size w W → Calls Try.prog 28 #[.agg #[.int .u32 g, .slice A len cap, .int .i64 h, .int .i64 t, .bool p]] W (fun e w' => e = .returned (.agg pv) ∧ Below W.heap.size W w')) :=
    Lib.hid fun W hb => keysP g h t p A len cap l W (hS.below hb) hm hr Hpv.out
  obtain ⟨own, Hown⟩ : ∃ x, Hid (keyL l (j : Int) = x) := ⟨_, Lib.hid rfl⟩
  obtain ⟨R, HR⟩ : ∃ x, Hid (refR (j : Int) (regL ⟨g, l, h, t, p⟩ (j : Int) a key other ap) = x) := ⟨_, Lib.hid rfl⟩
  rw [HR.out]
  have HS := Lib.hid hS; have Hso := Lib.hid hso; have Hr := Lib.hid hr
  have Hll := Lib.hid hS.1
  clear hS hso hr hs1 hs3
  have hps : Hid ((Try.prog.info? 57).map (·.size) = some pv.size) := Lib.hid (by rw [← Hpv.out, List.size_toArray, arrV_len]; exact info8)
  have hzs : Hid (zeros8.size = pv.size) := Lib.hid (by rw [← Hpv.out]; simp [zeros8, arrV_len])
  have hp1 : Hid (pv.all (·.oneCell') = true) := Lib.hid (by rw [← Hpv.out]; exact cells_one)
  have hpj : Hid (pv[j]? = some (.int .u64 own)) := Lib.hid (by rw [← Hpv.out, List.getElem?_toArray, ← Hown.out]; exact arrV_at _ hj)
  obtain ⟨zn, Hzn⟩ : ∃ zn : Array Value, Hid (zn = zeros8) := ⟨_, Lib.hid rfl⟩
  have hal : ∀ w : World, (Instr.alloc 57 true (.tuple #[])).run Try.prog w = .ok (.pointer (some ⟨w.heap.size, 0, none⟩)) (w.alloc (.cells zn 57)) := by rw [Hzn.out]; exact alloc8
  rw [← Hzn.out] at hzs
  have hjz : (j : Int) < 8 := by omega
  go_enter Try.func33, Try.ntmps33
  go_upto_region 1 with (fail)
  obtain ⟨hx, hy, hz⟩ := heap_alloc3 w (.cells #[.int .u32 g, .slice A len cap, .int .i64 h, .int .i64 t, .bool p] 25) (.cells #[.int .i64 a, .int .i64 ty, .int .u64 key, .int .u64 other, .bool ap] 35) (.cells #[.int .u32 0, .slice none 0 0, .int .i64 0, .int .i64 0, .bool false] 25)
  have hb0 := bel3 w (.cells #[.int .u32 g, .slice A len cap, .int .i64 h, .int .i64 t, .bool p] 25) (.cells #[.int .i64 a, .int .i64 ty, .int .u64 key, .int .u64 other, .bool ap] 35) (.cells #[.int .u32 0, .slice none 0 0, .int .i64 0, .int .i64 0, .bool false] 25)
  try simp only [World.size_alloc]
  generalize ((w.alloc (.cells #[.int .u32 g, .slice A len cap, .int .i64 h, .int .i64 t, .bool p] 25)).alloc (.cells #[.int .i64 a, .int .i64 ty, .int .u64 key, .int .u64 other, .bool ap] 35)).alloc (.cells #[.int .u32 0, .slice none 0 0, .int .i64 0, .int .i64 0, .bool false] 25) = w0 at hx hy hz hb0 ⊢
  obtain ⟨xl0, x0_0, x1_0, x2_0, x3_0, x4_0, xf0⟩ := box5 hx
  go_upto_region 2 with (first
    | (go_at_call 28; refine (Kk.out _ hb0).mono ?_; rintro e w2 ⟨rfl, hb2⟩)
    | (refine wpList_alloc_arr rfl 57 rfl _ hal ?_)
    | (refine wpList_store_new rfl 57 _ _ rfl w2.heap.size rfl pv rfl rfl 57 zn hps.out hzs.out hp1.out ?_))
  have hq3 := heap_alloc_new w2 (.cells pv 57)
  have hb23 := hb2.trans ((bel1 w2 (.cells pv 57)).mono hb2.size)
  have hx3 := (hb23.block w.heap.size (by omega)).trans hx
  have hzl := (Array.getElem?_eq_some_iff.1 hz).1
  have hy3 := (hb23.block (w.heap.size + 1) (by omega)).trans hy
  have hz3 := (hb23.block (w.heap.size + 1 + 1) hzl).trans hz
  have hb3 := stepB hb0 hb23
  have hqb : w.heap.size + 3 ≤ w2.heap.size := by have := hb2.size; omega
  obtain ⟨q, Hq⟩ : ∃ q, Hid (w2.heap.size = q) := ⟨_, Lib.hid rfl⟩
  have hN0 : (w2.alloc (.cells pv 57)).heap.size = q + 1 := by rw [World.size_alloc, Hq.out]
  rw [Hq.out] at hq3 hqb
  generalize w2.alloc (.cells pv 57) = w3 at hq3 hx3 hy3 hz3 hb3 hN0 ⊢
  rw [Hq.out]
  have HX := Lib.hid hx3; have HY := Lib.hid hy3; have HZ := Lib.hid hz3; have HQ := Lib.hid hq3; have HB3 := Lib.hid hb3; have HN0 := Lib.hid hN0
  have cq : w3.cell? ⟨q, j, none⟩ = some (.int .u64 own) := by rw [cell_of_row w3 _ j _ _ _ hq3]; exact hpj.out
  clear hx hy hz hb0 hb2 hb23 hx3 hy3 hz3 hq3 hb3 hN0 Hq hzl xl0 x0_0 x1_0 x2_0 x3_0 x4_0 xf0 hal
  obtain ⟨xl3, x0_3, x1_3, x2_3, x3_3, x4_3, xf3⟩ := box5 HX.out
  obtain ⟨ol3, o0_3, o1_3, o2_3, o3_3, o4_3, of3⟩ := box5 HY.out
  obtain ⟨rl3, r0_3, r1_3, r2_3, r3_3, r4_3, rf3⟩ := box5 HZ.out
  by_cases a0 : a = 0
  · have a0b : (a == 0) = true := by simpa using a0
    have a0n : (a != 0) = false := by simpa using a0
    by_cases k0 : key = own
    · have k0b : (key == own) = true := by simpa using k0
      have k0n : (key != own) = false := by simpa using k0
      go_quiet (fail)
      have hx4 : (w3.drewN nq).heap[w.heap.size]? = _ := HX.out
      have hy4 : (w3.drewN nq).heap[w.heap.size + 1]? = _ := HY.out
      have hz4 : (w3.drewN nq).heap[w.heap.size + 1 + 1]? = _ := HZ.out
      have hq4 : (w3.drewN nq).heap[q]? = _ := HQ.out
      have hb4 := below_drewN HB3.out nq
      have hn4 : (w3.drewN nq).heap.size = q + 1 := HN0.out
      generalize w3.drewN nq = w4 at hx4 hy4 hz4 hq4 hb4 hn4 ⊢
      have HX4 := Lib.hid hx4; have HY4 := Lib.hid hy4; have HZ4 := Lib.hid hz4; have HQ4 := Lib.hid hq4; have HB4 := Lib.hid hb4; have HN4 := Lib.hid hn4
      have cq4 : w4.cell? ⟨q, j, none⟩ = some (.int .u64 own) := by rw [cell_of_row w4 _ j _ _ _ hq4]; exact hpj.out
      clear hx4 hy4 hz4 hq4 hb4 hn4 HX HY HZ HQ HB3 HN0 cq xl3 x0_3 x1_3 x2_3 x3_3 x4_3 xf3 ol3 o0_3 o1_3 o2_3 o3_3 o4_3 of3 rl3 r0_3 r1_3 r2_3 r3_3 r4_3 rf3
      obtain ⟨xl4, x0_4, x1_4, x2_4, x3_4, x4_4, xf4⟩ := box5 HX4.out
      obtain ⟨ol4, o0_4, o1_4, o2_4, o3_4, o4_4, of4⟩ := box5 HY4.out
      obtain ⟨rl4, r0_4, r1_4, r2_4, r3_4, r4_4, rf4⟩ := box5 HZ4.out
      by_cases o0 : own = 0
      · have o0b : (own == 0) = true := by simpa using o0
        have o0n : (own != 0) = false := by simpa using o0
        by_cases x0 : other = 0
        · have x0b : (other == 0) = true := by simpa using x0
          have x0n : (other != 0) = false := by simpa using x0
          obtain rfl : R = (⟨g, l, h, t, p⟩, 0, []) := by
            rw [← HR.out, regL]; rw [show keyL l (j : Int) = own from Hown.out]
            rw [if_neg (fun e => e.2 k0)]
            rw [if_pos ⟨o0, x0⟩]
            rfl
          clear HR Hown
          go_wp2
          exact bodyPost_ret (v := .tuple #[.agg #[.int .u32 g, .slice A len cap, .int .i64 h, .int .i64 t, .bool p], .int .i64 0, .slice none 0 0]) (by simp [results, Try.results33, go_sem, r0_4, r1_4, r2_4, r3_4, r4_4, rl4, xl4]) rfl
            ⟨A, len, cap, .slice none 0 0, rfl, .inl ⟨rfl, rfl, rfl, rfl⟩, OwnI.nil _ _, set5B HB4.out (by omega) _ _ _ _ _⟩
        · have x0b : (other == 0) = false := by simpa using x0
          have x0n : (other != 0) = true := by simpa using x0
          by_cases l6 : len = 6
          · subst l6
            obtain rfl : R = (⟨g, l, h, t, p⟩, 8, []) := by
              rw [← HR.out, regL]; rw [show keyL l (j : Int) = own from Hown.out]
              rw [if_neg (fun e => e.2 k0)]
              rw [if_neg (fun e => x0 e.2), if_pos ⟨o0, by show 6 ≤ l.length; rw [Hll.out]; omega⟩]
              rfl
            clear HR Hown
            go_wp2
            exact bodyPost_ret (v := .tuple #[.agg #[.int .u32 g, .slice A 6 cap, .int .i64 h, .int .i64 t, .bool p], .int .i64 8, .slice none 0 0]) (by simp [results, Try.results33, go_sem, r0_4, r1_4, r2_4, r3_4, r4_4, rl4, xl4]) rfl
              ⟨A, 6, cap, .slice none 0 0, rfl, .inl ⟨rfl, rfl, rfl, rfl⟩, OwnI.nil _ _, set5B HB4.out (by omega) _ _ _ _ _⟩
          · have l6i : ¬ (len : Int) = 6 := by omega
            have l6b : ((len : Int) == 6) = false := by simpa using l6i
            obtain ⟨G, HG⟩ : ∃ G, Hid (nextG g = G) := ⟨_, Lib.hid rfl⟩
            have hwG : IntKind.u32.wrap (g + 1) = G := HG.out
            go_upto_region 10 with (fail)
            have hx5 : ((w4.setCell ⟨w.heap.size, 0, none⟩ (.int .u32 G)).setCell ⟨w.heap.size, 4, none⟩ (.bool ap)).heap[w.heap.size]? = some (.cells #[.int .u32 G, .slice A len cap, .int .i64 h, .int .i64 t, .bool ap] 25 (0, 0)) := (heap_setCell_same _ w.heap.size 4 _ 25 (.bool ap) (heap_setCell_same w4 w.heap.size 0 _ 25 (.int .u32 G) HX4.out)).trans rfl
            have hset : ∀ i, i ≠ w.heap.size → ((w4.setCell ⟨w.heap.size, 0, none⟩ (.int .u32 G)).setCell ⟨w.heap.size, 4, none⟩ (.bool ap)).heap[i]? = w4.heap[i]? := fun i hi => (Below.heap_setCell _ ⟨w.heap.size, 4, none⟩ _ i hi).trans (Below.heap_setCell w4 ⟨w.heap.size, 0, none⟩ _ i hi)
            have hy5 := (hset (w.heap.size + 1) (by omega)).trans HY4.out
            have hz5 := (hset (w.heap.size + 1 + 1) (by omega)).trans HZ4.out
            have hq5 := (hset q (by omega)).trans HQ4.out
            have hb5 := (HB4.out.setCell (p := ⟨w.heap.size, 0, none⟩) (Nat.le_refl _) (.int .u32 G)).setCell (p := ⟨w.heap.size, 4, none⟩) (Nat.le_refl _) (.bool ap)
            have hn5 : ((w4.setCell ⟨w.heap.size, 0, none⟩ (.int .u32 G)).setCell ⟨w.heap.size, 4, none⟩ (.bool ap)).heap.size = q + 1 := by rw [← HN4.out]; simp [World.setCell]
            clear hset cq4 HX4 HY4 HZ4 HQ4 HB4 HN4 xl4 x0_4 x1_4 x2_4 x3_4 x4_4 xf4 ol4 o0_4 o1_4 o2_4 o3_4 o4_4 of4 rl4 r0_4 r1_4 r2_4 r3_4 r4_4 rf4
            generalize (w4.setCell ⟨w.heap.size, 0, none⟩ (.int .u32 G)).setCell ⟨w.heap.size, 4, none⟩ (.bool ap) = w5 at hx5 hy5 hz5 hq5 hb5 hn5 ⊢
            have HX5 := Lib.hid hx5; have HY5 := Lib.hid hy5; have HZ5 := Lib.hid hz5; have HQ5 := Lib.hid hq5; have HB5 := Lib.hid hb5; have HN5 := Lib.hid hn5
            clear hx5 hy5 hz5 hq5 hb5 hn5
            obtain ⟨xl5, x0_5, x1_5, x2_5, x3_5, x4_5, xf5⟩ := box5 HX5.out
            obtain ⟨ol5, o0_5, o1_5, o2_5, o3_5, o4_5, of5⟩ := box5 HY5.out
            obtain ⟨rl5, r0_5, r1_5, r2_5, r3_5, r4_5, rf5⟩ := box5 HZ5.out
            have fq5 : w5.frozen? ⟨q, j, none⟩ = false := by simp [World.frozen?, HQ5.out]
            have cq5 : w5.cell? ⟨q, j, none⟩ = some (.int .u64 own) := by rw [cell_of_row w5 _ j _ _ _ HQ5.out]; exact hpj.out
            go_upto_region 16 with (fail)
            have hl8 : lstK (fun i => if i = (j : Int) then other else keyL l i) 8 = withL l (j : Int) other := lstK_eq (rise_with Hr.out (by omega) hjz x0) fun i _ _ => by rw [keyL_with Hr.out]
            have hq6 : (w5.setCell ⟨q, j, none⟩ (.int .u64 other)).heap[q]? = some (.cells (arrV (fun i => if i = (j : Int) then other else keyL l i)).toArray 57 (0, 0)) := by
              rw [heap_setCell_same w5 q j _ _ _ HQ5.out, ← arrV_set _ hj, ← Hpv.out]; simp
            have hset : ∀ i, i ≠ q → (w5.setCell ⟨q, j, none⟩ (.int .u64 other)).heap[i]? = w5.heap[i]? := fun i hi => Below.heap_setCell w5 ⟨q, j, none⟩ _ i hi
            have hx6 := (hset w.heap.size (by omega)).trans HX5.out
            have hz6 := (hset (w.heap.size + 1 + 1) (by omega)).trans HZ5.out
            have hb6 := HB5.out.setCell (p := ⟨q, j, none⟩) (show w.heap.size ≤ q by omega) (.int .u64 other)
            obtain ⟨kv, Hkv⟩ : ∃ x, Hid ((arrV (fun i => if i = (j : Int) then other else keyL l i)).toArray = x) := ⟨_, Lib.hid rfl⟩
            rw [Hkv.out] at hq6
            have hks : Hid ((Try.prog.info? 57).map (·.size) = some kv.size) := Lib.hid (by rw [← Hkv.out, List.size_toArray, arrV_len]; exact info8)
            have Kp : Hid (∀ W, Calls Try.prog 49 #[.agg #[.int .u32 G, .slice A len cap, .int .i64 h, .int .i64 t, .bool ap], .agg kv] W (PutP W G h t ap (withL l (j : Int) other))) := Lib.hid fun W => by rw [← Hkv.out, ← hl8]; exact put_any G h t ap _ _ W ⟨A, len, cap, rfl⟩
            clear fq5 cq5 hset hl8 HX5 HY5 HZ5 HQ5 HB5 HN5 xl5 x0_5 x1_5 x2_5 x3_5 x4_5 xf5 ol5 o0_5 o1_5 o2_5 o3_5 o4_5 of5 rl5 r0_5 r1_5 r2_5 r3_5 r4_5 rf5
            generalize w5.setCell ⟨q, j, none⟩ (.int .u64 other) = w6 at hx6 hz6 hq6 hb6 ⊢
            have HX6 := Lib.hid hx6; have HZ6 := Lib.hid hz6; have HQ6 := Lib.hid hq6; have HB6 := Lib.hid hb6
            clear hx6 hz6 hb6
            obtain ⟨xl6, x0_6, x1_6, x2_6, x3_6, x4_6, xf6⟩ := box5 HX6.out
            obtain ⟨rl6, r0_6, r1_6, r2_6, r3_6, r4_6, rf6⟩ := box5 HZ6.out
            have hql : q < w6.heap.size := (Array.getElem?_eq_some_iff.1 HQ6.out).1
            have hqv := HQ6.out
            go_wp2_with (first
              | (refine wpList_load_row rfl 57 _ rfl q rfl 57 kv (0, 0) _ hqv Try.underlying57 rfl hks.out ?_)
              | (go_at_call 49; refine (Kp.out _).mono ?_; rintro e w7 ⟨v, rfl, ho7, hb7⟩; have hz7 := (hb7.block (w.heap.size + 1 + 1) (by omega)).trans HZ6.out; obtain ⟨A2, c2, rfl, hs7⟩ := ho7.sl; obtain ⟨rl7, r0_7, r1_7, r2_7, r3_7, r4_7, rf7⟩ := box5 hz7; clear hs7))
            
            obtain rfl : R = (⟨G, withL l (j : Int) other, h, t, ap⟩, 0, []) := by
              rw [← HR.out, regL]; rw [show keyL l (j : Int) = own from Hown.out]
              rw [if_neg (fun e => e.2 k0)]
              rw [if_neg (fun e => x0 e.2), if_neg (fun e => (show ¬ (6 ≤ l.length) by rw [Hll.out]; omega) e.2)]
            
              rw [if_neg x0, ← HG.out]
              rfl
            clear HR Hown
            have hle7 : w.heap.size + 3 ≤ w6.heap.size := by omega
            exact bodyPost_ret (v := .tuple #[.agg #[.int .u32 G, .slice A2 (withL l (j : Int) other).length c2, .int .i64 h, .int .i64 t, .bool ap], .int .i64 0, .slice none 0 0]) (by simp [results, Try.results33, go_sem, r0_7, r1_7, r2_7, r3_7, r4_7, rl7, xl6]) rfl
              ⟨A2, _, c2, .slice none 0 0, rfl, .inr ((ho7.set5 (b := w.heap.size + 1 + 1) (by omega) _ _ _ _ _).lower (by omega)), OwnI.nil _ _, set5B (stepB HB6.out hb7) (by omega) _ _ _ _ _⟩
      · have o0b : (own == 0) = false := by simpa using o0
        have o0n : (own != 0) = true := by simpa using o0
        by_cases x0 : other = 0
        · have x0b : (other == 0) = true := by simpa using x0
          have x0n : (other != 0) = false := by simpa using x0
          obtain ⟨G, HG⟩ : ∃ G, Hid (nextG g = G) := ⟨_, Lib.hid rfl⟩
          have hwG : IntKind.u32.wrap (g + 1) = G := HG.out
          go_upto_region 10 with (fail)
          have hx5 : ((w4.setCell ⟨w.heap.size, 0, none⟩ (.int .u32 G)).setCell ⟨w.heap.size, 4, none⟩ (.bool ap)).heap[w.heap.size]? = some (.cells #[.int .u32 G, .slice A len cap, .int .i64 h, .int .i64 t, .bool ap] 25 (0, 0)) := (heap_setCell_same _ w.heap.size 4 _ 25 (.bool ap) (heap_setCell_same w4 w.heap.size 0 _ 25 (.int .u32 G) HX4.out)).trans rfl
          have hset : ∀ i, i ≠ w.heap.size → ((w4.setCell ⟨w.heap.size, 0, none⟩ (.int .u32 G)).setCell ⟨w.heap.size, 4, none⟩ (.bool ap)).heap[i]? = w4.heap[i]? := fun i hi => (Below.heap_setCell _ ⟨w.heap.size, 4, none⟩ _ i hi).trans (Below.heap_setCell w4 ⟨w.heap.size, 0, none⟩ _ i hi)
          have hy5 := (hset (w.heap.size + 1) (by omega)).trans HY4.out
          have hz5 := (hset (w.heap.size + 1 + 1) (by omega)).trans HZ4.out
          have hq5 := (hset q (by omega)).trans HQ4.out
          have hb5 := (HB4.out.setCell (p := ⟨w.heap.size, 0, none⟩) (Nat.le_refl _) (.int .u32 G)).setCell (p := ⟨w.heap.size, 4, none⟩) (Nat.le_refl _) (.bool ap)
          have hn5 : ((w4.setCell ⟨w.heap.size, 0, none⟩ (.int .u32 G)).setCell ⟨w.heap.size, 4, none⟩ (.bool ap)).heap.size = q + 1 := by rw [← HN4.out]; simp [World.setCell]
          clear hset cq4 HX4 HY4 HZ4 HQ4 HB4 HN4 xl4 x0_4 x1_4 x2_4 x3_4 x4_4 xf4 ol4 o0_4 o1_4 o2_4 o3_4 o4_4 of4 rl4 r0_4 r1_4 r2_4 r3_4 r4_4 rf4
          generalize (w4.setCell ⟨w.heap.size, 0, none⟩ (.int .u32 G)).setCell ⟨w.heap.size, 4, none⟩ (.bool ap) = w5 at hx5 hy5 hz5 hq5 hb5 hn5 ⊢
          have HX5 := Lib.hid hx5; have HY5 := Lib.hid hy5; have HZ5 := Lib.hid hz5; have HQ5 := Lib.hid hq5; have HB5 := Lib.hid hb5; have HN5 := Lib.hid hn5
          clear hx5 hy5 hz5 hq5 hb5 hn5
          obtain ⟨xl5, x0_5, x1_5, x2_5, x3_5, x4_5, xf5⟩ := box5 HX5.out
          obtain ⟨ol5, o0_5, o1_5, o2_5, o3_5, o4_5, of5⟩ := box5 HY5.out
          obtain ⟨rl5, r0_5, r1_5, r2_5, r3_5, r4_5, rf5⟩ := box5 HZ5.out
          obtain ⟨zb, Hzb⟩ : ∃ x, Hid ((boolV fun _ => false).toArray = x) := ⟨_, Lib.hid rfl⟩
          have halB : ∀ w : World, (Instr.alloc 63 true (.tuple #[])).run Try.prog w = .ok (.pointer (some ⟨w.heap.size, 0, none⟩)) (w.alloc (.cells zb 63)) := by rw [← Hzb.out]; exact allocB8
          go_upto_region 12 with (refine wpList_alloc_arr rfl 63 rfl _ halB ?_)
          clear halB
          have hs6 := heap_alloc_new w5 (.cells zb 63)
          have hb56 := bel1 w5 (.cells zb 63)
          have hx6 := (hb56.block w.heap.size xl5).trans HX5.out
          have hz6 := (hb56.block (w.heap.size + 1 + 1) rl5).trans HZ5.out
          have hb6 := stepB HB5.out hb56
          rw [HN5.out] at hs6
          clear hb56 HX5 HY5 HZ5 HQ5 HB5 xl5 x0_5 x1_5 x2_5 x3_5 x4_5 xf5 ol5 o0_5 o1_5 o2_5 o3_5 o4_5 of5 rl5 r0_5 r1_5 r2_5 r3_5 r4_5 rf5
          generalize hw6 : w5.alloc (.cells zb 63) = w6 at hs6 hx6 hz6 hb6 ⊢
          clear hw6
          rw [HN5.out]
          have fs6 : w6.frozen? ⟨q + 1, j, none⟩ = false := by simp [World.frozen?, hs6]
          obtain ⟨ob, hob⟩ : ∃ x, w6.cell? ⟨q + 1, j, none⟩ = some x := ⟨.bool false, by rw [cell_of_row w6 _ j _ _ _ hs6, ← Hzb.out, List.getElem?_toArray]; exact boolV_at _ hj⟩
          have hsl6 : q + 1 < w6.heap.size := (Array.getElem?_eq_some_iff.1 hs6).1
          have HX6 := Lib.hid hx6; have HZ6 := Lib.hid hz6; have HB6 := Lib.hid hb6; have HS6 := Lib.hid hs6
          clear hx6 hz6 hb6 hs6 HN5
          go_upto_region 13 with (fail)
          obtain ⟨bv, Hbv⟩ : ∃ x, Hid ((boolV fun i => i == (j : Int)).toArray = x) := ⟨_, Lib.hid rfl⟩
          have hs7 : (w6.setCell ⟨q + 1, j, none⟩ (.bool true)).heap[q + 1]? = some (.cells bv 63 (0, 0)) := by
            rw [heap_setCell_same w6 (q + 1) j _ _ _ HS6.out, ← Hbv.out, ← Hzb.out, ← boolV_one hj]; simp
          have hset : ∀ i, i ≠ q + 1 → (w6.setCell ⟨q + 1, j, none⟩ (.bool true)).heap[i]? = w6.heap[i]? := fun i hi => Below.heap_setCell w6 ⟨q + 1, j, none⟩ _ i hi
          have hx7 := (hset w.heap.size (by omega)).trans HX6.out
          have hz7 := (hset (w.heap.size + 1 + 1) (by omega)).trans HZ6.out
          have hb7 := HB6.out.setCell (p := ⟨q + 1, j, none⟩) (show w.heap.size ≤ q + 1 by omega) (.bool true)
          have hbs : Hid ((Try.prog.info? 63).map (·.size) = some bv.size) := Lib.hid (by rw [← Hbv.out, List.size_toArray, boolV_len]; exact bool8)
          clear hset fs6 hob HX6 HZ6 HB6 HS6 Hzb
          generalize w6.setCell ⟨q + 1, j, none⟩ (.bool true) = w7 at hx7 hz7 hb7 hs7 ⊢
          obtain ⟨L, HL⟩ : ∃ x, Hid ((l.filter fun q => !(q.1 == (j : Int))) = x) := ⟨_, Lib.hid rfl⟩
          obtain ⟨h', Hh⟩ : ∃ x, Hid (remH L h t = x) := ⟨_, Lib.hid rfl⟩
          obtain ⟨t', Ht⟩ : ∃ x, Hid (remT L h t = x) := ⟨_, Lib.hid rfl⟩
          have Kr : Hid (∀ W, Below w.heap.size w W → Calls Try.prog 34 #[.agg #[.int .u32 G, .slice A len cap, .int .i64 h, .int .i64 t, .bool ap], .agg bv, .int .i64 (j : Int)] W (RRemP W G L h' t' ap (keepN (j : Int) ((l.filter fun q => q.1 == (j : Int)).map (·.1))))) := Lib.hid fun W hb => by
            rw [← Hbv.out, ← Hh.out, ← Ht.out, ← HL.out]
            exact rremove_any G h t ap A len cap l W (HS.out.below hb) hm Hso.out (fun i => i == (j : Int)) (j : Int)
          obtain ⟨gn, Hgn⟩ : ∃ x, Hid (keepN (j : Int) ((l.filter fun q => q.1 == (j : Int)).map (·.1)) = x) := ⟨_, Lib.hid rfl⟩
          rw [Hgn.out] at Kr
          obtain ⟨xl7, x0_7, x1_7, x2_7, x3_7, x4_7, xf7⟩ := box5 hx7
          have HX7 := Lib.hid hx7; have HZ7 := Lib.hid hz7; have HB7 := Lib.hid hb7
          have hzl7 := (Array.getElem?_eq_some_iff.1 hz7).1
          have hsl7 : q + 1 < w7.heap.size := (Array.getElem?_eq_some_iff.1 hs7).1
          clear hx7 hz7 hb7
          go_upto_region 14 with (first
            | (refine wpList_load_row rfl 63 _ rfl (q + 1) rfl 63 bv (0, 0) _ hs7 Try.underlying63 rfl hbs.out ?_)
            | (go_at_call 34; refine (Kr.out _ HB7.out).mono ?_; rintro e w8 ⟨v, u, rfl, ho8, hi8, hb8⟩; obtain ⟨A2, c2, rfl, hs8⟩ := ho8.sl; clear hs8 hs7))
          have hq9 := heap_alloc_new w8 (.cells #[.int .u32 G, .slice A2 L.length c2, .int .i64 h', .int .i64 t', .bool ap] 25)
          have hb89 := bel1 w8 (.cells #[.int .u32 G, .slice A2 L.length c2, .int .i64 h', .int .i64 t', .bool ap] 25)
          have hz9 := (hb89.block (w.heap.size + 1 + 1) (by have := hb8.size; omega)).trans ((hb8.block (w.heap.size + 1 + 1) hzl7).trans HZ7.out)
          have hb9 := stepB (stepB HB7.out hb8) hb89
          have ho9 := ho8.below hb89
          obtain ⟨r, Hr8⟩ : ∃ r, Hid (w8.heap.size = r) := ⟨_, Lib.hid rfl⟩
          rw [Hr8.out] at hq9
          generalize w8.alloc (.cells #[.int .u32 G, .slice A2 L.length c2, .int .i64 h', .int .i64 t', .bool ap] 25) = w9 at hq9 hz9 hb9 ho9 ⊢
          rw [Hr8.out]
          obtain ⟨ql9, q0_9, q1_9, q2_9, q3_9, q4_9, qf9⟩ := box5 hq9
          obtain ⟨rl9, r0_9, r1_9, r2_9, r3_9, r4_9, rf9⟩ := box5 hz9
          have HB9 := Lib.hid hb9; have HO9 := Lib.hid ho9
          clear hq9 hz9 hb9 ho9 hb89 hb8 ho8 hi8 xl7 x0_7 x1_7 x2_7 x3_7 x4_7 xf7 HX7 HZ7 HB7
          go_wp2
          obtain rfl : R = (⟨G, L, h', t', ap⟩, 0, []) := by
            rw [← HR.out, regL]; rw [show keyL l (j : Int) = own from Hown.out]
            rw [if_neg (fun e => e.2 k0)]
            rw [if_neg (fun e => o0 e.1), if_neg (fun e => o0 e.1)]
          
            rw [if_pos x0, ← HG.out, ← Ht.out, ← Hh.out, ← HL.out]
            unfold refR
            rw [show keepN (j : Int) _ = [] from keepN_isN _ _]
            rfl
          clear HR Hown
          exact bodyPost_ret (v := .tuple #[.agg #[.int .u32 G, .slice A2 L.length c2, .int .i64 h', .int .i64 t', .bool ap], .int .i64 0, .slice none 0 0]) (by simp [results, Try.results33, go_sem, r0_9, r1_9, r2_9, r3_9, r4_9, rl9]) rfl
            ⟨A2, _, c2, .slice none 0 0, rfl, .inr ((HO9.out.set5 (b := w.heap.size + 1 + 1) (by omega) _ _ _ _ _).lower (by omega)), OwnI.nil _ _, set5B HB9.out (by omega) _ _ _ _ _⟩
        · have x0b : (other == 0) = false := by simpa using x0
          have x0n : (other != 0) = true := by simpa using x0
          obtain ⟨G, HG⟩ : ∃ G, Hid (nextG g = G) := ⟨_, Lib.hid rfl⟩
          have hwG : IntKind.u32.wrap (g + 1) = G := HG.out
          go_upto_region 10 with (fail)
          have hx5 : ((w4.setCell ⟨w.heap.size, 0, none⟩ (.int .u32 G)).setCell ⟨w.heap.size, 4, none⟩ (.bool ap)).heap[w.heap.size]? = some (.cells #[.int .u32 G, .slice A len cap, .int .i64 h, .int .i64 t, .bool ap] 25 (0, 0)) := (heap_setCell_same _ w.heap.size 4 _ 25 (.bool ap) (heap_setCell_same w4 w.heap.size 0 _ 25 (.int .u32 G) HX4.out)).trans rfl
          have hset : ∀ i, i ≠ w.heap.size → ((w4.setCell ⟨w.heap.size, 0, none⟩ (.int .u32 G)).setCell ⟨w.heap.size, 4, none⟩ (.bool ap)).heap[i]? = w4.heap[i]? := fun i hi => (Below.heap_setCell _ ⟨w.heap.size, 4, none⟩ _ i hi).trans (Below.heap_setCell w4 ⟨w.heap.size, 0, none⟩ _ i hi)
          have hy5 := (hset (w.heap.size + 1) (by omega)).trans HY4.out
          have hz5 := (hset (w.heap.size + 1 + 1) (by omega)).trans HZ4.out
          have hq5 := (hset q (by omega)).trans HQ4.out
          have hb5 := (HB4.out.setCell (p := ⟨w.heap.size, 0, none⟩) (Nat.le_refl _) (.int .u32 G)).setCell (p := ⟨w.heap.size, 4, none⟩) (Nat.le_refl _) (.bool ap)
          have hn5 : ((w4.setCell ⟨w.heap.size, 0, none⟩ (.int .u32 G)).setCell ⟨w.heap.size, 4, none⟩ (.bool ap)).heap.size = q + 1 := by rw [← HN4.out]; simp [World.setCell]
          clear hset cq4 HX4 HY4 HZ4 HQ4 HB4 HN4 xl4 x0_4 x1_4 x2_4 x3_4 x4_4 xf4 ol4 o0_4 o1_4 o2_4 o3_4 o4_4 of4 rl4 r0_4 r1_4 r2_4 r3_4 r4_4 rf4
          generalize (w4.setCell ⟨w.heap.size, 0, none⟩ (.int .u32 G)).setCell ⟨w.heap.size, 4, none⟩ (.bool ap) = w5 at hx5 hy5 hz5 hq5 hb5 hn5 ⊢
          have HX5 := Lib.hid hx5; have HY5 := Lib.hid hy5; have HZ5 := Lib.hid hz5; have HQ5 := Lib.hid hq5; have HB5 := Lib.hid hb5; have HN5 := Lib.hid hn5
          clear hx5 hy5 hz5 hq5 hb5 hn5
          obtain ⟨xl5, x0_5, x1_5, x2_5, x3_5, x4_5, xf5⟩ := box5 HX5.out
          obtain ⟨ol5, o0_5, o1_5, o2_5, o3_5, o4_5, of5⟩ := box5 HY5.out
          obtain ⟨rl5, r0_5, r1_5, r2_5, r3_5, r4_5, rf5⟩ := box5 HZ5.out
          have fq5 : w5.frozen? ⟨q, j, none⟩ = false := by simp [World.frozen?, HQ5.out]
          have cq5 : w5.cell? ⟨q, j, none⟩ = some (.int .u64 own) := by rw [cell_of_row w5 _ j _ _ _ HQ5.out]; exact hpj.out
          go_upto_region 16 with (fail)
          have hl8 : lstK (fun i => if i = (j : Int) then other else keyL l i) 8 = withL l (j : Int) other := lstK_eq (rise_with Hr.out (by omega) hjz x0) fun i _ _ => by rw [keyL_with Hr.out]
          have hq6 : (w5.setCell ⟨q, j, none⟩ (.int .u64 other)).heap[q]? = some (.cells (arrV (fun i => if i = (j : Int) then other else keyL l i)).toArray 57 (0, 0)) := by
            rw [heap_setCell_same w5 q j _ _ _ HQ5.out, ← arrV_set _ hj, ← Hpv.out]; simp
          have hset : ∀ i, i ≠ q → (w5.setCell ⟨q, j, none⟩ (.int .u64 other)).heap[i]? = w5.heap[i]? := fun i hi => Below.heap_setCell w5 ⟨q, j, none⟩ _ i hi
          have hx6 := (hset w.heap.size (by omega)).trans HX5.out
          have hz6 := (hset (w.heap.size + 1 + 1) (by omega)).trans HZ5.out
          have hb6 := HB5.out.setCell (p := ⟨q, j, none⟩) (show w.heap.size ≤ q by omega) (.int .u64 other)
          obtain ⟨kv, Hkv⟩ : ∃ x, Hid ((arrV (fun i => if i = (j : Int) then other else keyL l i)).toArray = x) := ⟨_, Lib.hid rfl⟩
          rw [Hkv.out] at hq6
          have hks : Hid ((Try.prog.info? 57).map (·.size) = some kv.size) := Lib.hid (by rw [← Hkv.out, List.size_toArray, arrV_len]; exact info8)
          have Kp : Hid (∀ W, Calls Try.prog 49 #[.agg #[.int .u32 G, .slice A len cap, .int .i64 h, .int .i64 t, .bool ap], .agg kv] W (PutP W G h t ap (withL l (j : Int) other))) := Lib.hid fun W => by rw [← Hkv.out, ← hl8]; exact put_any G h t ap _ _ W ⟨A, len, cap, rfl⟩
          clear fq5 cq5 hset hl8 HX5 HY5 HZ5 HQ5 HB5 HN5 xl5 x0_5 x1_5 x2_5 x3_5 x4_5 xf5 ol5 o0_5 o1_5 o2_5 o3_5 o4_5 of5 rl5 r0_5 r1_5 r2_5 r3_5 r4_5 rf5
          generalize w5.setCell ⟨q, j, none⟩ (.int .u64 other) = w6 at hx6 hz6 hq6 hb6 ⊢
          have HX6 := Lib.hid hx6; have HZ6 := Lib.hid hz6; have HQ6 := Lib.hid hq6; have HB6 := Lib.hid hb6
          clear hx6 hz6 hb6
          obtain ⟨xl6, x0_6, x1_6, x2_6, x3_6, x4_6, xf6⟩ := box5 HX6.out
          obtain ⟨rl6, r0_6, r1_6, r2_6, r3_6, r4_6, rf6⟩ := box5 HZ6.out
          have hql : q < w6.heap.size := (Array.getElem?_eq_some_iff.1 HQ6.out).1
          have hqv := HQ6.out
          go_wp2_with (first
            | (refine wpList_load_row rfl 57 _ rfl q rfl 57 kv (0, 0) _ hqv Try.underlying57 rfl hks.out ?_)
            | (go_at_call 49; refine (Kp.out _).mono ?_; rintro e w7 ⟨v, rfl, ho7, hb7⟩; have hz7 := (hb7.block (w.heap.size + 1 + 1) (by omega)).trans HZ6.out; obtain ⟨A2, c2, rfl, hs7⟩ := ho7.sl; obtain ⟨rl7, r0_7, r1_7, r2_7, r3_7, r4_7, rf7⟩ := box5 hz7; clear hs7))
          
          obtain rfl : R = (⟨G, withL l (j : Int) other, h, t, ap⟩, 0, []) := by
            rw [← HR.out, regL]; rw [show keyL l (j : Int) = own from Hown.out]
            rw [if_neg (fun e => e.2 k0)]
            rw [if_neg (fun e => o0 e.1), if_neg (fun e => o0 e.1)]
          
            rw [if_neg x0, ← HG.out]
            rfl
          clear HR Hown
          have hle7 : w.heap.size + 3 ≤ w6.heap.size := by omega
          exact bodyPost_ret (v := .tuple #[.agg #[.int .u32 G, .slice A2 (withL l (j : Int) other).length c2, .int .i64 h, .int .i64 t, .bool ap], .int .i64 0, .slice none 0 0]) (by simp [results, Try.results33, go_sem, r0_7, r1_7, r2_7, r3_7, r4_7, rl7, xl6]) rfl
            ⟨A2, _, c2, .slice none 0 0, rfl, .inr ((ho7.set5 (b := w.heap.size + 1 + 1) (by omega) _ _ _ _ _).lower (by omega)), OwnI.nil _ _, set5B (stepB HB6.out hb7) (by omega) _ _ _ _ _⟩
    · have k0b : (key == own) = false := by simpa using k0
      have k0n : (key != own) = true := by simpa using k0
      go_quiet (fail)
      have hx4 : (w3.drewN nq).heap[w.heap.size]? = _ := HX.out
      have hy4 : (w3.drewN nq).heap[w.heap.size + 1]? = _ := HY.out
      have hz4 : (w3.drewN nq).heap[w.heap.size + 1 + 1]? = _ := HZ.out
      have hq4 : (w3.drewN nq).heap[q]? = _ := HQ.out
      have hb4 := below_drewN HB3.out nq
      have hn4 : (w3.drewN nq).heap.size = q + 1 := HN0.out
      generalize w3.drewN nq = w4 at hx4 hy4 hz4 hq4 hb4 hn4 ⊢
      have HX4 := Lib.hid hx4; have HY4 := Lib.hid hy4; have HZ4 := Lib.hid hz4; have HQ4 := Lib.hid hq4; have HB4 := Lib.hid hb4; have HN4 := Lib.hid hn4
      have cq4 : w4.cell? ⟨q, j, none⟩ = some (.int .u64 own) := by rw [cell_of_row w4 _ j _ _ _ hq4]; exact hpj.out
      clear hx4 hy4 hz4 hq4 hb4 hn4 HX HY HZ HQ HB3 HN0 cq xl3 x0_3 x1_3 x2_3 x3_3 x4_3 xf3 ol3 o0_3 o1_3 o2_3 o3_3 o4_3 of3 rl3 r0_3 r1_3 r2_3 r3_3 r4_3 rf3
      obtain ⟨xl4, x0_4, x1_4, x2_4, x3_4, x4_4, xf4⟩ := box5 HX4.out
      obtain ⟨ol4, o0_4, o1_4, o2_4, o3_4, o4_4, of4⟩ := box5 HY4.out
      obtain ⟨rl4, r0_4, r1_4, r2_4, r3_4, r4_4, rf4⟩ := box5 HZ4.out
      obtain rfl : R = (⟨g, l, h, t, p⟩, 24, []) := by
        rw [← HR.out, regL]; rw [show keyL l (j : Int) = own from Hown.out]
        rw [if_pos ⟨a0, k0⟩]
        rfl
      clear HR Hown
      go_wp2
      exact bodyPost_ret (v := .tuple #[.agg #[.int .u32 g, .slice A len cap, .int .i64 h, .int .i64 t, .bool p], .int .i64 24, .slice none 0 0]) (by simp [results, Try.results33, go_sem, r0_4, r1_4, r2_4, r3_4, r4_4, rl4, xl4]) rfl
        ⟨A, len, cap, .slice none 0 0, rfl, .inl ⟨rfl, rfl, rfl, rfl⟩, OwnI.nil _ _, set5B HB4.out (by omega) _ _ _ _ _⟩
  · have a0b : (a == 0) = false := by simpa using a0
    have a0n : (a != 0) = true := by simpa using a0
    go_quiet (fail)
    have hx4 : (w3.drewN nq).heap[w.heap.size]? = _ := HX.out
    have hy4 : (w3.drewN nq).heap[w.heap.size + 1]? = _ := HY.out
    have hz4 : (w3.drewN nq).heap[w.heap.size + 1 + 1]? = _ := HZ.out
    have hq4 : (w3.drewN nq).heap[q]? = _ := HQ.out
    have hb4 := below_drewN HB3.out nq
    have hn4 : (w3.drewN nq).heap.size = q + 1 := HN0.out
    generalize w3.drewN nq = w4 at hx4 hy4 hz4 hq4 hb4 hn4 ⊢
    have HX4 := Lib.hid hx4; have HY4 := Lib.hid hy4; have HZ4 := Lib.hid hz4; have HQ4 := Lib.hid hq4; have HB4 := Lib.hid hb4; have HN4 := Lib.hid hn4
    have cq4 : w4.cell? ⟨q, j, none⟩ = some (.int .u64 own) := by rw [cell_of_row w4 _ j _ _ _ hq4]; exact hpj.out
    clear hx4 hy4 hz4 hq4 hb4 hn4 HX HY HZ HQ HB3 HN0 cq xl3 x0_3 x1_3 x2_3 x3_3 x4_3 xf3 ol3 o0_3 o1_3 o2_3 o3_3 o4_3 of3 rl3 r0_3 r1_3 r2_3 r3_3 r4_3 rf3
    obtain ⟨xl4, x0_4, x1_4, x2_4, x3_4, x4_4, xf4⟩ := box5 HX4.out
    obtain ⟨ol4, o0_4, o1_4, o2_4, o3_4, o4_4, of4⟩ := box5 HY4.out
    obtain ⟨rl4, r0_4, r1_4, r2_4, r3_4, r4_4, rf4⟩ := box5 HZ4.out
    by_cases o0 : own = 0
    · have o0b : (own == 0) = true := by simpa using o0
      have o0n : (own != 0) = false := by simpa using o0
      by_cases x0 : other = 0
      · have x0b : (other == 0) = true := by simpa using x0
        have x0n : (other != 0) = false := by simpa using x0
        obtain rfl : R = (⟨g, l, h, t, p⟩, 0, []) := by
          rw [← HR.out, regL]; rw [show keyL l (j : Int) = own from Hown.out]
          rw [if_neg (fun e => a0 e.1)]
          rw [if_pos ⟨o0, x0⟩]
          rfl
        clear HR Hown
        go_wp2
        exact bodyPost_ret (v := .tuple #[.agg #[.int .u32 g, .slice A len cap, .int .i64 h, .int .i64 t, .bool p], .int .i64 0, .slice none 0 0]) (by simp [results, Try.results33, go_sem, r0_4, r1_4, r2_4, r3_4, r4_4, rl4, xl4]) rfl
          ⟨A, len, cap, .slice none 0 0, rfl, .inl ⟨rfl, rfl, rfl, rfl⟩, OwnI.nil _ _, set5B HB4.out (by omega) _ _ _ _ _⟩
      · have x0b : (other == 0) = false := by simpa using x0
        have x0n : (other != 0) = true := by simpa using x0
        by_cases l6 : len = 6
        · subst l6
          obtain rfl : R = (⟨g, l, h, t, p⟩, 8, []) := by
            rw [← HR.out, regL]; rw [show keyL l (j : Int) = own from Hown.out]
            rw [if_neg (fun e => a0 e.1)]
            rw [if_neg (fun e => x0 e.2), if_pos ⟨o0, by show 6 ≤ l.length; rw [Hll.out]; omega⟩]
            rfl
          clear HR Hown
          go_wp2
          exact bodyPost_ret (v := .tuple #[.agg #[.int .u32 g, .slice A 6 cap, .int .i64 h, .int .i64 t, .bool p], .int .i64 8, .slice none 0 0]) (by simp [results, Try.results33, go_sem, r0_4, r1_4, r2_4, r3_4, r4_4, rl4, xl4]) rfl
            ⟨A, 6, cap, .slice none 0 0, rfl, .inl ⟨rfl, rfl, rfl, rfl⟩, OwnI.nil _ _, set5B HB4.out (by omega) _ _ _ _ _⟩
        · have l6i : ¬ (len : Int) = 6 := by omega
          have l6b : ((len : Int) == 6) = false := by simpa using l6i
          obtain ⟨G, HG⟩ : ∃ G, Hid (nextG g = G) := ⟨_, Lib.hid rfl⟩
          have hwG : IntKind.u32.wrap (g + 1) = G := HG.out
          go_upto_region 10 with (fail)
          have hx5 : ((w4.setCell ⟨w.heap.size, 0, none⟩ (.int .u32 G)).setCell ⟨w.heap.size, 4, none⟩ (.bool ap)).heap[w.heap.size]? = some (.cells #[.int .u32 G, .slice A len cap, .int .i64 h, .int .i64 t, .bool ap] 25 (0, 0)) := (heap_setCell_same _ w.heap.size 4 _ 25 (.bool ap) (heap_setCell_same w4 w.heap.size 0 _ 25 (.int .u32 G) HX4.out)).trans rfl
          have hset : ∀ i, i ≠ w.heap.size → ((w4.setCell ⟨w.heap.size, 0, none⟩ (.int .u32 G)).setCell ⟨w.heap.size, 4, none⟩ (.bool ap)).heap[i]? = w4.heap[i]? := fun i hi => (Below.heap_setCell _ ⟨w.heap.size, 4, none⟩ _ i hi).trans (Below.heap_setCell w4 ⟨w.heap.size, 0, none⟩ _ i hi)
          have hy5 := (hset (w.heap.size + 1) (by omega)).trans HY4.out
          have hz5 := (hset (w.heap.size + 1 + 1) (by omega)).trans HZ4.out
          have hq5 := (hset q (by omega)).trans HQ4.out
          have hb5 := (HB4.out.setCell (p := ⟨w.heap.size, 0, none⟩) (Nat.le_refl _) (.int .u32 G)).setCell (p := ⟨w.heap.size, 4, none⟩) (Nat.le_refl _) (.bool ap)
          have hn5 : ((w4.setCell ⟨w.heap.size, 0, none⟩ (.int .u32 G)).setCell ⟨w.heap.size, 4, none⟩ (.bool ap)).heap.size = q + 1 := by rw [← HN4.out]; simp [World.setCell]
          clear hset cq4 HX4 HY4 HZ4 HQ4 HB4 HN4 xl4 x0_4 x1_4 x2_4 x3_4 x4_4 xf4 ol4 o0_4 o1_4 o2_4 o3_4 o4_4 of4 rl4 r0_4 r1_4 r2_4 r3_4 r4_4 rf4
          generalize (w4.setCell ⟨w.heap.size, 0, none⟩ (.int .u32 G)).setCell ⟨w.heap.size, 4, none⟩ (.bool ap) = w5 at hx5 hy5 hz5 hq5 hb5 hn5 ⊢
          have HX5 := Lib.hid hx5; have HY5 := Lib.hid hy5; have HZ5 := Lib.hid hz5; have HQ5 := Lib.hid hq5; have HB5 := Lib.hid hb5; have HN5 := Lib.hid hn5
          clear hx5 hy5 hz5 hq5 hb5 hn5
          obtain ⟨xl5, x0_5, x1_5, x2_5, x3_5, x4_5, xf5⟩ := box5 HX5.out
          obtain ⟨ol5, o0_5, o1_5, o2_5, o3_5, o4_5, of5⟩ := box5 HY5.out
          obtain ⟨rl5, r0_5, r1_5, r2_5, r3_5, r4_5, rf5⟩ := box5 HZ5.out
          have fq5 : w5.frozen? ⟨q, j, none⟩ = false := by simp [World.frozen?, HQ5.out]
          have cq5 : w5.cell? ⟨q, j, none⟩ = some (.int .u64 own) := by rw [cell_of_row w5 _ j _ _ _ HQ5.out]; exact hpj.out
          go_upto_region 16 with (fail)
          have hl8 : lstK (fun i => if i = (j : Int) then other else keyL l i) 8 = withL l (j : Int) other := lstK_eq (rise_with Hr.out (by omega) hjz x0) fun i _ _ => by rw [keyL_with Hr.out]
          have hq6 : (w5.setCell ⟨q, j, none⟩ (.int .u64 other)).heap[q]? = some (.cells (arrV (fun i => if i = (j : Int) then other else keyL l i)).toArray 57 (0, 0)) := by
            rw [heap_setCell_same w5 q j _ _ _ HQ5.out, ← arrV_set _ hj, ← Hpv.out]; simp
          have hset : ∀ i, i ≠ q → (w5.setCell ⟨q, j, none⟩ (.int .u64 other)).heap[i]? = w5.heap[i]? := fun i hi => Below.heap_setCell w5 ⟨q, j, none⟩ _ i hi
          have hx6 := (hset w.heap.size (by omega)).trans HX5.out
          have hz6 := (hset (w.heap.size + 1 + 1) (by omega)).trans HZ5.out
          have hb6 := HB5.out.setCell (p := ⟨q, j, none⟩) (show w.heap.size ≤ q by omega) (.int .u64 other)
          obtain ⟨kv, Hkv⟩ : ∃ x, Hid ((arrV (fun i => if i = (j : Int) then other else keyL l i)).toArray = x) := ⟨_, Lib.hid rfl⟩
          rw [Hkv.out] at hq6
          have hks : Hid ((Try.prog.info? 57).map (·.size) = some kv.size) := Lib.hid (by rw [← Hkv.out, List.size_toArray, arrV_len]; exact info8)
          have Kp : Hid (∀ W, Calls Try.prog 49 #[.agg #[.int .u32 G, .slice A len cap, .int .i64 h, .int .i64 t, .bool ap], .agg kv] W (PutP W G h t ap (withL l (j : Int) other))) := Lib.hid fun W => by rw [← Hkv.out, ← hl8]; exact put_any G h t ap _ _ W ⟨A, len, cap, rfl⟩
          clear fq5 cq5 hset hl8 HX5 HY5 HZ5 HQ5 HB5 HN5 xl5 x0_5 x1_5 x2_5 x3_5 x4_5 xf5 ol5 o0_5 o1_5 o2_5 o3_5 o4_5 of5 rl5 r0_5 r1_5 r2_5 r3_5 r4_5 rf5
          generalize w5.setCell ⟨q, j, none⟩ (.int .u64 other) = w6 at hx6 hz6 hq6 hb6 ⊢
          have HX6 := Lib.hid hx6; have HZ6 := Lib.hid hz6; have HQ6 := Lib.hid hq6; have HB6 := Lib.hid hb6
          clear hx6 hz6 hb6
          obtain ⟨xl6, x0_6, x1_6, x2_6, x3_6, x4_6, xf6⟩ := box5 HX6.out
          obtain ⟨rl6, r0_6, r1_6, r2_6, r3_6, r4_6, rf6⟩ := box5 HZ6.out
          have hql : q < w6.heap.size := (Array.getElem?_eq_some_iff.1 HQ6.out).1
          have hqv := HQ6.out
          go_wp2_with (first
            | (refine wpList_load_row rfl 57 _ rfl q rfl 57 kv (0, 0) _ hqv Try.underlying57 rfl hks.out ?_)
            | (go_at_call 49; refine (Kp.out _).mono ?_; rintro e w7 ⟨v, rfl, ho7, hb7⟩; have hz7 := (hb7.block (w.heap.size + 1 + 1) (by omega)).trans HZ6.out; obtain ⟨A2, c2, rfl, hs7⟩ := ho7.sl; obtain ⟨rl7, r0_7, r1_7, r2_7, r3_7, r4_7, rf7⟩ := box5 hz7; clear hs7))
          
          obtain rfl : R = (⟨G, withL l (j : Int) other, h, t, ap⟩, 0, []) := by
            rw [← HR.out, regL]; rw [show keyL l (j : Int) = own from Hown.out]
            rw [if_neg (fun e => a0 e.1)]
            rw [if_neg (fun e => x0 e.2), if_neg (fun e => (show ¬ (6 ≤ l.length) by rw [Hll.out]; omega) e.2)]
          
            rw [if_neg x0, ← HG.out]
            rfl
          clear HR Hown
          have hle7 : w.heap.size + 3 ≤ w6.heap.size := by omega
          exact bodyPost_ret (v := .tuple #[.agg #[.int .u32 G, .slice A2 (withL l (j : Int) other).length c2, .int .i64 h, .int .i64 t, .bool ap], .int .i64 0, .slice none 0 0]) (by simp [results, Try.results33, go_sem, r0_7, r1_7, r2_7, r3_7, r4_7, rl7, xl6]) rfl
            ⟨A2, _, c2, .slice none 0 0, rfl, .inr ((ho7.set5 (b := w.heap.size + 1 + 1) (by omega) _ _ _ _ _).lower (by omega)), OwnI.nil _ _, set5B (stepB HB6.out hb7) (by omega) _ _ _ _ _⟩
    · have o0b : (own == 0) = false := by simpa using o0
      have o0n : (own != 0) = true := by simpa using o0
      by_cases x0 : other = 0
      · have x0b : (other == 0) = true := by simpa using x0
        have x0n : (other != 0) = false := by simpa using x0
        obtain ⟨G, HG⟩ : ∃ G, Hid (nextG g = G) := ⟨_, Lib.hid rfl⟩
        have hwG : IntKind.u32.wrap (g + 1) = G := HG.out
        go_upto_region 10 with (fail)
        have hx5 : ((w4.setCell ⟨w.heap.size, 0, none⟩ (.int .u32 G)).setCell ⟨w.heap.size, 4, none⟩ (.bool ap)).heap[w.heap.size]? = some (.cells #[.int .u32 G, .slice A len cap, .int .i64 h, .int .i64 t, .bool ap] 25 (0, 0)) := (heap_setCell_same _ w.heap.size 4 _ 25 (.bool ap) (heap_setCell_same w4 w.heap.size 0 _ 25 (.int .u32 G) HX4.out)).trans rfl
        have hset : ∀ i, i ≠ w.heap.size → ((w4.setCell ⟨w.heap.size, 0, none⟩ (.int .u32 G)).setCell ⟨w.heap.size, 4, none⟩ (.bool ap)).heap[i]? = w4.heap[i]? := fun i hi => (Below.heap_setCell _ ⟨w.heap.size, 4, none⟩ _ i hi).trans (Below.heap_setCell w4 ⟨w.heap.size, 0, none⟩ _ i hi)
        have hy5 := (hset (w.heap.size + 1) (by omega)).trans HY4.out
        have hz5 := (hset (w.heap.size + 1 + 1) (by omega)).trans HZ4.out
        have hq5 := (hset q (by omega)).trans HQ4.out
        have hb5 := (HB4.out.setCell (p := ⟨w.heap.size, 0, none⟩) (Nat.le_refl _) (.int .u32 G)).setCell (p := ⟨w.heap.size, 4, none⟩) (Nat.le_refl _) (.bool ap)
        have hn5 : ((w4.setCell ⟨w.heap.size, 0, none⟩ (.int .u32 G)).setCell ⟨w.heap.size, 4, none⟩ (.bool ap)).heap.size = q + 1 := by rw [← HN4.out]; simp [World.setCell]
        clear hset cq4 HX4 HY4 HZ4 HQ4 HB4 HN4 xl4 x0_4 x1_4 x2_4 x3_4 x4_4 xf4 ol4 o0_4 o1_4 o2_4 o3_4 o4_4 of4 rl4 r0_4 r1_4 r2_4 r3_4 r4_4 rf4
        generalize (w4.setCell ⟨w.heap.size, 0, none⟩ (.int .u32 G)).setCell ⟨w.heap.size, 4, none⟩ (.bool ap) = w5 at hx5 hy5 hz5 hq5 hb5 hn5 ⊢
        have HX5 := Lib.hid hx5; have HY5 := Lib.hid hy5; have HZ5 := Lib.hid hz5; have HQ5 := Lib.hid hq5; have HB5 := Lib.hid hb5; have HN5 := Lib.hid hn5
        clear hx5 hy5 hz5 hq5 hb5 hn5
        obtain ⟨xl5, x0_5, x1_5, x2_5, x3_5, x4_5, xf5⟩ := box5 HX5.out
        obtain ⟨ol5, o0_5, o1_5, o2_5, o3_5, o4_5, of5⟩ := box5 HY5.out
        obtain ⟨rl5, r0_5, r1_5, r2_5, r3_5, r4_5, rf5⟩ := box5 HZ5.out
        obtain ⟨zb, Hzb⟩ : ∃ x, Hid ((boolV fun _ => false).toArray = x) := ⟨_, Lib.hid rfl⟩
        have halB : ∀ w : World, (Instr.alloc 63 true (.tuple #[])).run Try.prog w = .ok (.pointer (some ⟨w.heap.size, 0, none⟩)) (w.alloc (.cells zb 63)) := by rw [← Hzb.out]; exact allocB8
        go_upto_region 12 with (refine wpList_alloc_arr rfl 63 rfl _ halB ?_)
        clear halB
        have hs6 := heap_alloc_new w5 (.cells zb 63)
        have hb56 := bel1 w5 (.cells zb 63)
        have hx6 := (hb56.block w.heap.size xl5).trans HX5.out
        have hz6 := (hb56.block (w.heap.size + 1 + 1) rl5).trans HZ5.out
        have hb6 := stepB HB5.out hb56
        rw [HN5.out] at hs6
        clear hb56 HX5 HY5 HZ5 HQ5 HB5 xl5 x0_5 x1_5 x2_5 x3_5 x4_5 xf5 ol5 o0_5 o1_5 o2_5 o3_5 o4_5 of5 rl5 r0_5 r1_5 r2_5 r3_5 r4_5 rf5
        generalize hw6 : w5.alloc (.cells zb 63) = w6 at hs6 hx6 hz6 hb6 ⊢
        clear hw6
        rw [HN5.out]
        have fs6 : w6.frozen? ⟨q + 1, j, none⟩ = false := by simp [World.frozen?, hs6]
        obtain ⟨ob, hob⟩ : ∃ x, w6.cell? ⟨q + 1, j, none⟩ = some x := ⟨.bool false, by rw [cell_of_row w6 _ j _ _ _ hs6, ← Hzb.out, List.getElem?_toArray]; exact boolV_at _ hj⟩
        have hsl6 : q + 1 < w6.heap.size := (Array.getElem?_eq_some_iff.1 hs6).1
        have HX6 := Lib.hid hx6; have HZ6 := Lib.hid hz6; have HB6 := Lib.hid hb6; have HS6 := Lib.hid hs6
        clear hx6 hz6 hb6 hs6 HN5
        go_upto_region 13 with (fail)
        obtain ⟨bv, Hbv⟩ : ∃ x, Hid ((boolV fun i => i == (j : Int)).toArray = x) := ⟨_, Lib.hid rfl⟩
        have hs7 : (w6.setCell ⟨q + 1, j, none⟩ (.bool true)).heap[q + 1]? = some (.cells bv 63 (0, 0)) := by
          rw [heap_setCell_same w6 (q + 1) j _ _ _ HS6.out, ← Hbv.out, ← Hzb.out, ← boolV_one hj]; simp
        have hset : ∀ i, i ≠ q + 1 → (w6.setCell ⟨q + 1, j, none⟩ (.bool true)).heap[i]? = w6.heap[i]? := fun i hi => Below.heap_setCell w6 ⟨q + 1, j, none⟩ _ i hi
        have hx7 := (hset w.heap.size (by omega)).trans HX6.out
        have hz7 := (hset (w.heap.size + 1 + 1) (by omega)).trans HZ6.out
        have hb7 := HB6.out.setCell (p := ⟨q + 1, j, none⟩) (show w.heap.size ≤ q + 1 by omega) (.bool true)
        have hbs : Hid ((Try.prog.info? 63).map (·.size) = some bv.size) := Lib.hid (by rw [← Hbv.out, List.size_toArray, boolV_len]; exact bool8)
        clear hset fs6 hob HX6 HZ6 HB6 HS6 Hzb
        generalize w6.setCell ⟨q + 1, j, none⟩ (.bool true) = w7 at hx7 hz7 hb7 hs7 ⊢
        obtain ⟨L, HL⟩ : ∃ x, Hid ((l.filter fun q => !(q.1 == (j : Int))) = x) := ⟨_, Lib.hid rfl⟩
        obtain ⟨h', Hh⟩ : ∃ x, Hid (remH L h t = x) := ⟨_, Lib.hid rfl⟩
        obtain ⟨t', Ht⟩ : ∃ x, Hid (remT L h t = x) := ⟨_, Lib.hid rfl⟩
        have Kr : Hid (∀ W, Below w.heap.size w W → Calls Try.prog 34 #[.agg #[.int .u32 G, .slice A len cap, .int .i64 h, .int .i64 t, .bool ap], .agg bv, .int .i64 (j : Int)] W (RRemP W G L h' t' ap (keepN (j : Int) ((l.filter fun q => q.1 == (j : Int)).map (·.1))))) := Lib.hid fun W hb => by
          rw [← Hbv.out, ← Hh.out, ← Ht.out, ← HL.out]
          exact rremove_any G h t ap A len cap l W (HS.out.below hb) hm Hso.out (fun i => i == (j : Int)) (j : Int)
        obtain ⟨gn, Hgn⟩ : ∃ x, Hid (keepN (j : Int) ((l.filter fun q => q.1 == (j : Int)).map (·.1)) = x) := ⟨_, Lib.hid rfl⟩
        rw [Hgn.out] at Kr
        obtain ⟨xl7, x0_7, x1_7, x2_7, x3_7, x4_7, xf7⟩ := box5 hx7
        have HX7 := Lib.hid hx7; have HZ7 := Lib.hid hz7; have HB7 := Lib.hid hb7
        have hzl7 := (Array.getElem?_eq_some_iff.1 hz7).1
        have hsl7 : q + 1 < w7.heap.size := (Array.getElem?_eq_some_iff.1 hs7).1
        clear hx7 hz7 hb7
        go_upto_region 14 with (first
          | (refine wpList_load_row rfl 63 _ rfl (q + 1) rfl 63 bv (0, 0) _ hs7 Try.underlying63 rfl hbs.out ?_)
          | (go_at_call 34; refine (Kr.out _ HB7.out).mono ?_; rintro e w8 ⟨v, u, rfl, ho8, hi8, hb8⟩; obtain ⟨A2, c2, rfl, hs8⟩ := ho8.sl; clear hs8 hs7))
        have hq9 := heap_alloc_new w8 (.cells #[.int .u32 G, .slice A2 L.length c2, .int .i64 h', .int .i64 t', .bool ap] 25)
        have hb89 := bel1 w8 (.cells #[.int .u32 G, .slice A2 L.length c2, .int .i64 h', .int .i64 t', .bool ap] 25)
        have hz9 := (hb89.block (w.heap.size + 1 + 1) (by have := hb8.size; omega)).trans ((hb8.block (w.heap.size + 1 + 1) hzl7).trans HZ7.out)
        have hb9 := stepB (stepB HB7.out hb8) hb89
        have ho9 := ho8.below hb89
        obtain ⟨r, Hr8⟩ : ∃ r, Hid (w8.heap.size = r) := ⟨_, Lib.hid rfl⟩
        rw [Hr8.out] at hq9
        generalize w8.alloc (.cells #[.int .u32 G, .slice A2 L.length c2, .int .i64 h', .int .i64 t', .bool ap] 25) = w9 at hq9 hz9 hb9 ho9 ⊢
        rw [Hr8.out]
        obtain ⟨ql9, q0_9, q1_9, q2_9, q3_9, q4_9, qf9⟩ := box5 hq9
        obtain ⟨rl9, r0_9, r1_9, r2_9, r3_9, r4_9, rf9⟩ := box5 hz9
        have HB9 := Lib.hid hb9; have HO9 := Lib.hid ho9
        clear hq9 hz9 hb9 ho9 hb89 hb8 ho8 hi8 xl7 x0_7 x1_7 x2_7 x3_7 x4_7 xf7 HX7 HZ7 HB7
        go_wp2
        obtain rfl : R = (⟨G, L, h', t', ap⟩, 0, []) := by
          rw [← HR.out, regL]; rw [show keyL l (j : Int) = own from Hown.out]
          rw [if_neg (fun e => a0 e.1)]
          rw [if_neg (fun e => o0 e.1), if_neg (fun e => o0 e.1)]
        
          rw [if_pos x0, ← HG.out, ← Ht.out, ← Hh.out, ← HL.out]
          unfold refR
          rw [show keepN (j : Int) _ = [] from keepN_isN _ _]
          rfl
        clear HR Hown
        exact bodyPost_ret (v := .tuple #[.agg #[.int .u32 G, .slice A2 L.length c2, .int .i64 h', .int .i64 t', .bool ap], .int .i64 0, .slice none 0 0]) (by simp [results, Try.results33, go_sem, r0_9, r1_9, r2_9, r3_9, r4_9, rl9]) rfl
          ⟨A2, _, c2, .slice none 0 0, rfl, .inr ((HO9.out.set5 (b := w.heap.size + 1 + 1) (by omega) _ _ _ _ _).lower (by omega)), OwnI.nil _ _, set5B HB9.out (by omega) _ _ _ _ _⟩
      · have x0b : (other == 0) = false := by simpa using x0
        have x0n : (other != 0) = true := by simpa using x0
        obtain ⟨G, HG⟩ : ∃ G, Hid (nextG g = G) := ⟨_, Lib.hid rfl⟩
        have hwG : IntKind.u32.wrap (g + 1) = G := HG.out
        go_upto_region 10 with (fail)
        have hx5 : ((w4.setCell ⟨w.heap.size, 0, none⟩ (.int .u32 G)).setCell ⟨w.heap.size, 4, none⟩ (.bool ap)).heap[w.heap.size]? = some (.cells #[.int .u32 G, .slice A len cap, .int .i64 h, .int .i64 t, .bool ap] 25 (0, 0)) := (heap_setCell_same _ w.heap.size 4 _ 25 (.bool ap) (heap_setCell_same w4 w.heap.size 0 _ 25 (.int .u32 G) HX4.out)).trans rfl
        have hset : ∀ i, i ≠ w.heap.size → ((w4.setCell ⟨w.heap.size, 0, none⟩ (.int .u32 G)).setCell ⟨w.heap.size, 4, none⟩ (.bool ap)).heap[i]? = w4.heap[i]? := fun i hi => (Below.heap_setCell _ ⟨w.heap.size, 4, none⟩ _ i hi).trans (Below.heap_setCell w4 ⟨w.heap.size, 0, none⟩ _ i hi)
        have hy5 := (hset (w.heap.size + 1) (by omega)).trans HY4.out
        have hz5 := (hset (w.heap.size + 1 + 1) (by omega)).trans HZ4.out
        have hq5 := (hset q (by omega)).trans HQ4.out
        have hb5 := (HB4.out.setCell (p := ⟨w.heap.size, 0, none⟩) (Nat.le_refl _) (.int .u32 G)).setCell (p := ⟨w.heap.size, 4, none⟩) (Nat.le_refl _) (.bool ap)
        have hn5 : ((w4.setCell ⟨w.heap.size, 0, none⟩ (.int .u32 G)).setCell ⟨w.heap.size, 4, none⟩ (.bool ap)).heap.size = q + 1 := by rw [← HN4.out]; simp [World.setCell]
        clear hset cq4 HX4 HY4 HZ4 HQ4 HB4 HN4 xl4 x0_4 x1_4 x2_4 x3_4 x4_4 xf4 ol4 o0_4 o1_4 o2_4 o3_4 o4_4 of4 rl4 r0_4 r1_4 r2_4 r3_4 r4_4 rf4
        generalize (w4.setCell ⟨w.heap.size, 0, none⟩ (.int .u32 G)).setCell ⟨w.heap.size, 4, none⟩ (.bool ap) = w5 at hx5 hy5 hz5 hq5 hb5 hn5 ⊢
        have HX5 := Lib.hid hx5; have HY5 := Lib.hid hy5; have HZ5 := Lib.hid hz5; have HQ5 := Lib.hid hq5; have HB5 := Lib.hid hb5; have HN5 := Lib.hid hn5
        clear hx5 hy5 hz5 hq5 hb5 hn5
        obtain ⟨xl5, x0_5, x1_5, x2_5, x3_5, x4_5, xf5⟩ := box5 HX5.out
        obtain ⟨ol5, o0_5, o1_5, o2_5, o3_5, o4_5, of5⟩ := box5 HY5.out
        obtain ⟨rl5, r0_5, r1_5, r2_5, r3_5, r4_5, rf5⟩ := box5 HZ5.out
        have fq5 : w5.frozen? ⟨q, j, none⟩ = false := by simp [World.frozen?, HQ5.out]
        have cq5 : w5.cell? ⟨q, j, none⟩ = some (.int .u64 own) := by rw [cell_of_row w5 _ j _ _ _ HQ5.out]; exact hpj.out
        go_upto_region 16 with (fail)
        have hl8 : lstK (fun i => if i = (j : Int) then other else keyL l i) 8 = withL l (j : Int) other := lstK_eq (rise_with Hr.out (by omega) hjz x0) fun i _ _ => by rw [keyL_with Hr.out]
        have hq6 : (w5.setCell ⟨q, j, none⟩ (.int .u64 other)).heap[q]? = some (.cells (arrV (fun i => if i = (j : Int) then other else keyL l i)).toArray 57 (0, 0)) := by
          rw [heap_setCell_same w5 q j _ _ _ HQ5.out, ← arrV_set _ hj, ← Hpv.out]; simp
        have hset : ∀ i, i ≠ q → (w5.setCell ⟨q, j, none⟩ (.int .u64 other)).heap[i]? = w5.heap[i]? := fun i hi => Below.heap_setCell w5 ⟨q, j, none⟩ _ i hi
        have hx6 := (hset w.heap.size (by omega)).trans HX5.out
        have hz6 := (hset (w.heap.size + 1 + 1) (by omega)).trans HZ5.out
        have hb6 := HB5.out.setCell (p := ⟨q, j, none⟩) (show w.heap.size ≤ q by omega) (.int .u64 other)
        obtain ⟨kv, Hkv⟩ : ∃ x, Hid ((arrV (fun i => if i = (j : Int) then other else keyL l i)).toArray = x) := ⟨_, Lib.hid rfl⟩
        rw [Hkv.out] at hq6
        have hks : Hid ((Try.prog.info? 57).map (·.size) = some kv.size) := Lib.hid (by rw [← Hkv.out, List.size_toArray, arrV_len]; exact info8)
        have Kp : Hid (∀ W, Calls Try.prog 49 #[.agg #[.int .u32 G, .slice A len cap, .int .i64 h, .int .i64 t, .bool ap], .agg kv] W (PutP W G h t ap (withL l (j : Int) other))) := Lib.hid fun W => by rw [← Hkv.out, ← hl8]; exact put_any G h t ap _ _ W ⟨A, len, cap, rfl⟩
        clear fq5 cq5 hset hl8 HX5 HY5 HZ5 HQ5 HB5 HN5 xl5 x0_5 x1_5 x2_5 x3_5 x4_5 xf5 ol5 o0_5 o1_5 o2_5 o3_5 o4_5 of5 rl5 r0_5 r1_5 r2_5 r3_5 r4_5 rf5
        generalize w5.setCell ⟨q, j, none⟩ (.int .u64 other) = w6 at hx6 hz6 hq6 hb6 ⊢
        have HX6 := Lib.hid hx6; have HZ6 := Lib.hid hz6; have HQ6 := Lib.hid hq6; have HB6 := Lib.hid hb6
        clear hx6 hz6 hb6
        obtain ⟨xl6, x0_6, x1_6, x2_6, x3_6, x4_6, xf6⟩ := box5 HX6.out
        obtain ⟨rl6, r0_6, r1_6, r2_6, r3_6, r4_6, rf6⟩ := box5 HZ6.out
        have hql : q < w6.heap.size := (Array.getElem?_eq_some_iff.1 HQ6.out).1
        have hqv := HQ6.out
        go_wp2_with (first
          | (refine wpList_load_row rfl 57 _ rfl q rfl 57 kv (0, 0) _ hqv Try.underlying57 rfl hks.out ?_)
          | (go_at_call 49; refine (Kp.out _).mono ?_; rintro e w7 ⟨v, rfl, ho7, hb7⟩; have hz7 := (hb7.block (w.heap.size + 1 + 1) (by omega)).trans HZ6.out; obtain ⟨A2, c2, rfl, hs7⟩ := ho7.sl; obtain ⟨rl7, r0_7, r1_7, r2_7, r3_7, r4_7, rf7⟩ := box5 hz7; clear hs7))
        
        obtain rfl : R = (⟨G, withL l (j : Int) other, h, t, ap⟩, 0, []) := by
          rw [← HR.out, regL]; rw [show keyL l (j : Int) = own from Hown.out]
          rw [if_neg (fun e => a0 e.1)]
          rw [if_neg (fun e => o0 e.1), if_neg (fun e => o0 e.1)]
        
          rw [if_neg x0, ← HG.out]
          rfl
        clear HR Hown
        have hle7 : w.heap.size + 3 ≤ w6.heap.size := by omega
        exact bodyPost_ret (v := .tuple #[.agg #[.int .u32 G, .slice A2 (withL l (j : Int) other).length c2, .int .i64 h, .int .i64 t, .bool ap], .int .i64 0, .slice none 0 0]) (by simp [results, Try.results33, go_sem, r0_7, r1_7, r2_7, r3_7, r4_7, rl7, xl6]) rfl
          ⟨A2, _, c2, .slice none 0 0, rfl, .inr ((ho7.set5 (b := w.heap.size + 1 + 1) (by omega) _ _ _ _ _).lower (by omega)), OwnI.nil _ _, set5B (stepB HB6.out hb7) (by omega) _ _ _ _ _⟩
end Go.Proofs.Ytkpogmigfjmacaa
