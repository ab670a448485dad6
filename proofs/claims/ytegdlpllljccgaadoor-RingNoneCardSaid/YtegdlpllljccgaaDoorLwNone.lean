/-
  'RingNone': its walk.
-/
import Derived.Test.YtegdlpllljccgaaDoorLwStands
set_option linter.unusedSimpArgs false
set_option linter.unusedVariables false
namespace Go.Proofs.YtegdlpllljccgaaDoor
open Go.RowKit Sh Go.Extern.Stop Go.Stop Go.Extern

theorem size_none (w W : World) (_h : Below w.heap.size w W) : Calls Tryd.prog 39 #[.pointer none] W fun e w' => e = .returned (.int .i64 (0 : Nat)) ∧ W = w' := (size_nil W).mono fun _ _ ⟨h1, h2⟩ => ⟨h1, h2.symm⟩
theorem padd_none (v : Value) (w : World) : Calls Tryd.prog 22 #[.pointer none, v] w (InP 10 w) := by
  go_enter Tryd.func22, Tryd.ntmps22
  go_wp2_with (first
    | (go_at_call 45; refine (padd_nil v).mono ?_; rintro e w' ⟨rfl, rfl⟩)
    | (go_at_call 37; refine (in_more ⟨#[114, 105, 110, 103, 46, 65, 100, 100]⟩ 10 [] _ _ rfl).mono ?_; rintro e w3 ⟨rfl, hC3, hb3⟩))
  go_ret
  exact ⟨_, rfl, .inr ⟨by decide, _, hC3⟩, hb3⟩
theorem built23 : Tryd.prog.built 23 [] = some z32.toArray := by kernel_rfl
set_option maxRecDepth 100000 in
set_option maxHeartbeats 8000000 in
theorem ringNone_ok (first n pl : Int) (num : Nat) (last : List UInt8) (hlast : last.length = 32) (hnum : num < 18446744073709551616) (hf : -9223372036854775808 ≤ first ∧ first ≤ 9223372036854775807) (hnn : -9223372036854775808 ≤ n ∧ n ≤ 9223372036854775807) (h1 : 0 ≤ first) (h2 : 96 ≤ n) (h3 : n ≤ 150) (h4 : first ≤ 150 - n) (h5 : 0 ≤ pl) (h6 : pl < n) (w : World) (hL : Laid w) :
    Calls Tryd.prog 7 #[.int .i64 first, .int .i64 n, .agg (markI pl num last).toArray] w fun e w' => e = .returned (.bool true) ∧ Below w.heap.size w w' := by
  have hpos := hL.pos
  obtain ⟨mv, Hmv⟩ : ∃ mv : List Value, Hid (mv = markI pl num last) := ⟨_, rfl⟩
  have hmvl : mv.length = 34 := by rw [Hmv.out]; simp [markI, hlast]
  have hmi : Hid ((Tryd.prog.info? 25).map (·.size) = some mv.toArray.size) := by rw [List.size_toArray, hmvl]; exact infoPMark
  rw [← Hmv.out]
  obtain ⟨hl, Hl⟩ : ∃ hl : List Value, Hid (hl = zMark) := ⟨_, rfl⟩
  have hbz : Hid (Tryd.prog.built 25 [] = some hl.toArray) := by rw [Hl.out]; exact builtPMark
  obtain ⟨zl, Hzl⟩ : ∃ zl : List Value, Hid (zl = z32) := ⟨_, rfl⟩
  have hb23 : Hid (Tryd.prog.built 23 [] = some zl.toArray) := by rw [Hzl.out]; exact built23
  have hA1 : Below w.heap.size w (w.alloc (.cells mv.toArray 25)) := (Below.refl _ _).alloc (Nat.le_refl _) _
  have hbox : (w.alloc (.cells mv.toArray 25)).heap[w.heap.size]? = some (.cells mv.toArray 25 (0, 0)) := heap_alloc_new w _
  have hbn : w.heap.size < (w.alloc (.cells mv.toArray 25)).heap.size := by simp
  clear hmvl
  go_enter Tryd.func7, Tryd.ntmps7
  go_upto_region 1 with (fail)
  generalize w.alloc (.cells mv.toArray 25) = wa at hA1 hbox hbn ⊢
  obtain ⟨x, hx⟩ : ∃ x, w.heap.size = x := ⟨_, rfl⟩
  rw [hx] at hbox hbn ⊢
  have Hx := Lib.hid hx
  clear hx
  go_wp2_with (first
    | (go_at_call 10; refine (stands_any _).mono ?_; rintro e w1 ⟨rfl, hs1⟩)
    | (refine wpList_buildZ 23 rfl zl.toArray hb23.out (by rfl) ?_)
    | (go_at_call 27; refine (cut_nil zl _).mono ?_; rintro e w2 ⟨rfl, hs2⟩)
    | (go_at_call 12; refine (pd_new 150 (by omega) (by omega) _).mono ?_))
  rintro e w3 ⟨v, rfl, hN⟩
  have hs12 := hs1.trans (hs2.mono hs1.size)
  obtain ⟨gd, F3, rfl, hP3, hF3, hs3⟩ := hN.next hs12.size hs12
  have hA3 := hA1.trans (hs3.mono hA1.size)
  have hbox3 := Lib.hid ((hs3.block x hbn).trans hbox)
  have hbn3 : x < w3.heap.size := by have := hs3.size; omega
  have s3 := hA3.size
  clear hN hs1 hs2 hs12 hbox hs3 hA1
  obtain ⟨fN, hfN⟩ : ∃ fN : Nat, first = (fN : Int) := ⟨first.toNat, by omega⟩
  obtain ⟨nN, hnN⟩ : ∃ nN : Nat, n = (nN : Int) := ⟨n.toNat, by omega⟩
  obtain ⟨pN, hpN⟩ : ∃ pN : Nat, pl = (pN : Int) := ⟨pl.toNat, by omega⟩
  have hmk : mv = markCells ⟨pN, num, last⟩ := by rw [Hmv.out, hpN]; rfl
  have hop := openv_any hP3 (good_new 150 (by omega) (by omega)) (byt_new 150) rfl (first := fN) (n := nN) (m := ⟨pN, num, last⟩) (by rw [newS_len]; omega) (by omega) (by omega) (by show pN < nN; omega) hnum hlast (open_new (D := 150) ⟨pN, num, last⟩ (by omega) (by omega)) (used := 0) (by omega) (by omega)
  rw [← hmk, ← hfN, ← hnN] at hop
  have Hop := Lib.hid hop
  clear hop hmk hfN hnN hpN
  go_wp2_with (first
    | (refine wpList_load_row rfl 25 _ rfl x rfl 25 mv.toArray (0, 0) _ hbox3.out Tryd.underlying25 rfl hmi.out ?_)
    | (go_at_call 14; refine Hop.out.mono ?_))
  rintro e w4 ⟨g4, ap4, cp4, rfl, _, _, _, _, hb4⟩
  clear Hop
  have hA4 := hA3.trans (hb4.mono s3)
  have s4 := hA4.size
  have c4 : w4.cell? ⟨x, 0, none⟩ = some (.int .i64 pl) := by rw [cell_of_row w4 x 0 _ _ _ ((hb4.block x hbn3).trans hbox3.out), Hmv.out]; rfl
  have hq0 : ((0 : Nat) : Int) = 0 := rfl
  have hop5 := open_bad (.pointer none) 0 (by omega) (size_none w4) 0 100 0 0 (List.replicate 32 0) (by omega) (by omega)
  have hz0 : markI 0 0 (List.replicate 32 0) = hl := by rw [Hl.out]; rfl
  rw [hz0] at hop5
  have Hop5 := Lib.hid hop5
  have w1 : IntKind.i64.wrap (150 - n) = 150 - n ∨ ¬ (96 ≤ n ∧ n ≤ 150) := by
    by_cases hh : 96 ≤ n ∧ n ≤ 150
    · exact .inl (IntWalk.i64_in _ (by omega))
    · exact .inr hh
  have Hw1 := Lib.hid w1
  clear hop5 hz0 hq0 hA3 hb4 hbox3 w1
  have hw150 : IntKind.i64.wrap (150 - n) = 150 - n := Hw1.out.resolve_right (fun h => h ⟨by omega, by omega⟩)
  go_wp2_with (first
    | (refine wpList_buildZ 25 rfl hl.toArray hbz.out (by rfl) ?_)
    | (go_at_call 14; refine Hop5.out.mono ?_))
  rintro e w5 ⟨v5, rfl, hE5, hb5⟩
  have hA5 := hA4.trans (hb5.mono s4)
  have s5 := hA5.size
  clear Hop5 hA4 s4 c4 Hw1
  go_wp2_with (first
    | (go_at_call 26; refine (room_nil _).mono ?_; rintro e w' ⟨rfl, m1, rfl⟩)
    | (go_at_call 20; refine (fits_nil 1 (by omega) _).mono ?_; rintro e w' ⟨rfl, m2, rfl⟩)
    | (go_at_call 19; refine (lchanges_any 1 (by omega) 1 _).mono ?_))
  rintro e w6 ⟨ap6, cp6, rfl, _, hb6⟩
  have hb56 := (below_drewN w5 (m1 + m2) _).trans hb6
  have hA6 := hA5.trans (hb56.mono s5)
  have s6 := hA6.size
  have hE6 := hE5.below hb56
  clear hb6 hb56 hA5 s5 hE5
  go_wp2_with (first
    | (go_at_call 22; refine (padd_none _ _).mono ?_))
  rintro e w7 ⟨v7, rfl, hE7, hb7⟩
  have hA7 := hA6.trans (hb7.mono s6)
  have s7 := hA7.size
  have hE7b := hE6.below hb7
  clear hb7 hA6 s6 hE6
  go_wp2_with (first
    | (go_at_call 17; refine (num_any 10 v7 _ (hL.below hpos hA7) hE7).mono ?_))
  rintro e w8 ⟨rfl, hb8⟩
  have h8 := hA7.trans (hb8.mono s7)
  have s8 := h8.size
  have hE8 := hE7b.below hb8
  clear hb8 hA7 s7 hE7b hE7
  go_wp2_with (first
    | (go_at_call 25; refine (head_nil _).mono ?_))
  rintro e w9 ⟨rv, Hrv, rfl, hb9⟩
  have h9 := h8.trans (hb9.mono s8)
  have s9 := h9.size
  have hE9 := hE8.below hb9
  clear hb9 h8 s8 hE8
  have hrv : rv = hl.toArray := by rw [Hrv.out, Hl.out]
  subst hrv
  have heq : ∀ W : World, (Op.equalIn 10000 25 (.agg hl.toArray) (.agg hl.toArray)).run Tryd.prog W = .ok true W := fun W => by
    have := eqMark_ring (a := m00) (b := m00) (by rfl) (by rfl) W
    rw [← zMark_m00, ← Hl.out] at this
    rw [this]; simp
  go_wp2_with (first
    | (refine wpList_buildZ 25 rfl hl.toArray hbz.out (by rfl) ?_)
    | (go_at_call 17; refine (num_nil _).mono ?_))
  rintro e w' ⟨rfl, rfl⟩
  go_wp2_with (first
    | (go_at_call 17; refine (num_any 1 v5 _ (hL.below hpos h9) hE9).mono ?_))
  rintro e w10 ⟨rfl, hb10⟩
  have h10 := h9.trans (hb10.mono s9)
  go_wp2
  go_ret
  exact ⟨rfl, h10⟩
set_option maxRecDepth 100000 in
set_option maxHeartbeats 8000000 in
theorem ringNone_bad1 (first n pl : Int) (num : Nat) (last : List UInt8) (hlast : last.length = 32) (hnum : num < 18446744073709551616) (hf : -9223372036854775808 ≤ first ∧ first ≤ 9223372036854775807) (hnn : -9223372036854775808 ≤ n ∧ n ≤ 9223372036854775807) (h1 : ¬ 0 ≤ first) (w : World) (hL : Laid w) :
    Calls Tryd.prog 7 #[.int .i64 first, .int .i64 n, .agg (markI pl num last).toArray] w fun e w' => e = .returned (.bool true) ∧ Below w.heap.size w w' := by
  have hpos := hL.pos
  obtain ⟨mv, Hmv⟩ : ∃ mv : List Value, Hid (mv = markI pl num last) := ⟨_, rfl⟩
  have hmvl : mv.length = 34 := by rw [Hmv.out]; simp [markI, hlast]
  have hmi : Hid ((Tryd.prog.info? 25).map (·.size) = some mv.toArray.size) := by rw [List.size_toArray, hmvl]; exact infoPMark
  rw [← Hmv.out]
  obtain ⟨hl, Hl⟩ : ∃ hl : List Value, Hid (hl = zMark) := ⟨_, rfl⟩
  have hbz : Hid (Tryd.prog.built 25 [] = some hl.toArray) := by rw [Hl.out]; exact builtPMark
  obtain ⟨zl, Hzl⟩ : ∃ zl : List Value, Hid (zl = z32) := ⟨_, rfl⟩
  have hb23 : Hid (Tryd.prog.built 23 [] = some zl.toArray) := by rw [Hzl.out]; exact built23
  have hA1 : Below w.heap.size w (w.alloc (.cells mv.toArray 25)) := (Below.refl _ _).alloc (Nat.le_refl _) _
  have hbox : (w.alloc (.cells mv.toArray 25)).heap[w.heap.size]? = some (.cells mv.toArray 25 (0, 0)) := heap_alloc_new w _
  have hbn : w.heap.size < (w.alloc (.cells mv.toArray 25)).heap.size := by simp
  clear hmvl
  go_enter Tryd.func7, Tryd.ntmps7
  go_upto_region 1 with (fail)
  generalize w.alloc (.cells mv.toArray 25) = wa at hA1 hbox hbn ⊢
  obtain ⟨x, hx⟩ : ∃ x, w.heap.size = x := ⟨_, rfl⟩
  rw [hx] at hbox hbn ⊢
  have Hx := Lib.hid hx
  clear hx
  go_wp2_with (first
    | (go_at_call 10; refine (stands_any _).mono ?_; rintro e w1 ⟨rfl, hs1⟩)
    | (refine wpList_buildZ 23 rfl zl.toArray hb23.out (by rfl) ?_)
    | (go_at_call 27; refine (cut_nil zl _).mono ?_; rintro e w2 ⟨rfl, hs2⟩)
    | (go_at_call 12; refine (pd_new 150 (by omega) (by omega) _).mono ?_))
  rintro e w3 ⟨v, rfl, hN⟩
  have hs12 := hs1.trans (hs2.mono hs1.size)
  obtain ⟨gd, F3, rfl, hP3, hF3, hs3⟩ := hN.next hs12.size hs12
  have hA3 := hA1.trans (hs3.mono hA1.size)
  have hbox3 := Lib.hid ((hs3.block x hbn).trans hbox)
  have hbn3 : x < w3.heap.size := by have := hs3.size; omega
  have s3 := hA3.size
  clear hN hs1 hs2 hs12 hbox hs3 hA1
  have hbad : n < 96 ∨ 4096 < n ∨ first < 0 ∨ ((150 : Nat) : Int) - n < first ∨ pl < 0 ∨ n ≤ pl := by omega
  have hop := open_bad (.pointer (some ⟨gd, 0, none⟩)) 150 (by omega) (fun W hW => (pd_size (hP3.below hW)).mono fun _ _ ⟨a1, a2⟩ => ⟨by rw [a1, newS_len], a2.symm⟩) first n pl num last hf hbad
  rw [← Hmv.out] at hop
  have Hop := Lib.hid hop
  clear hop
  go_wp2_with (first
    | (refine wpList_load_row rfl 25 _ rfl x rfl 25 mv.toArray (0, 0) _ hbox3.out Tryd.underlying25 rfl hmi.out ?_)
    | (go_at_call 14; refine Hop.out.mono ?_))
  rintro e w4 ⟨v4, rfl, hE4, hb4⟩
  clear Hop
  have hA4 := hA3.trans (hb4.mono s3)
  have s4 := hA4.size
  have c4 : w4.cell? ⟨x, 0, none⟩ = some (.int .i64 pl) := by rw [cell_of_row w4 x 0 _ _ _ ((hb4.block x hbn3).trans hbox3.out), Hmv.out]; rfl
  clear hbad
  have hq0 : ((0 : Nat) : Int) = 0 := rfl
  have hop5 := open_bad (.pointer none) 0 (by omega) (size_none w4) 0 100 0 0 (List.replicate 32 0) (by omega) (by omega)
  have hz0 : markI 0 0 (List.replicate 32 0) = hl := by rw [Hl.out]; rfl
  rw [hz0] at hop5
  have Hop5 := Lib.hid hop5
  have w1 : IntKind.i64.wrap (150 - n) = 150 - n ∨ ¬ (96 ≤ n ∧ n ≤ 150) := by
    by_cases hh : 96 ≤ n ∧ n ≤ 150
    · exact .inl (IntWalk.i64_in _ (by omega))
    · exact .inr hh
  have Hw1 := Lib.hid w1
  clear hop5 hz0 hq0 hA3 hb4 hbox3 w1
  go_wp2_with (first
    | (refine wpList_buildZ 25 rfl hl.toArray hbz.out (by rfl) ?_)
    | (go_at_call 14; refine Hop5.out.mono ?_))
  rintro e w5 ⟨v5, rfl, hE5, hb5⟩
  have hA5 := hA4.trans (hb5.mono s4)
  have s5 := hA5.size
  clear Hop5 hA4 s4 c4 Hw1
  have hE5v := hE4.below hb5
  clear hE4
  go_wp2_with (first
    | (go_at_call 26; refine (room_nil _).mono ?_; rintro e w' ⟨rfl, m1, rfl⟩)
    | (go_at_call 20; refine (fits_nil 1 (by omega) _).mono ?_; rintro e w' ⟨rfl, m2, rfl⟩)
    | (go_at_call 19; refine (lchanges_any 1 (by omega) 1 _).mono ?_))
  rintro e w6 ⟨ap6, cp6, rfl, _, hb6⟩
  have hb56 := (below_drewN w5 (m1 + m2) _).trans hb6
  have hA6 := hA5.trans (hb56.mono s5)
  have s6 := hA6.size
  have hE6 := hE5.below hb56
  have hE6v := hE5v.below hb56
  clear hE5v
  clear hb6 hb56 hA5 s5 hE5
  go_wp2_with (first
    | (go_at_call 22; refine (padd_none _ _).mono ?_))
  rintro e w7 ⟨v7, rfl, hE7, hb7⟩
  have hA7 := hA6.trans (hb7.mono s6)
  have s7 := hA7.size
  have hE7b := hE6.below hb7
  have hE7v := hE6v.below hb7
  clear hE6v
  clear hb7 hA6 s6 hE6
  go_wp2_with (first
    | (go_at_call 17; refine (num_any 10 v7 _ (hL.below hpos hA7) hE7).mono ?_))
  rintro e w8 ⟨rfl, hb8⟩
  have h8 := hA7.trans (hb8.mono s7)
  have s8 := h8.size
  have hE8 := hE7b.below hb8
  have hE8v := hE7v.below hb8
  clear hE7v
  clear hb8 hA7 s7 hE7b hE7
  go_wp2_with (first
    | (go_at_call 25; refine (head_nil _).mono ?_))
  rintro e w9 ⟨rv, Hrv, rfl, hb9⟩
  have h9 := h8.trans (hb9.mono s8)
  have s9 := h9.size
  have hE9 := hE8.below hb9
  have hE9v := hE8v.below hb9
  clear hE8v
  clear hb9 h8 s8 hE8
  have hrv : rv = hl.toArray := by rw [Hrv.out, Hl.out]
  subst hrv
  have heq : ∀ W : World, (Op.equalIn 10000 25 (.agg hl.toArray) (.agg hl.toArray)).run Tryd.prog W = .ok true W := fun W => by
    have := eqMark_ring (a := m00) (b := m00) (by rfl) (by rfl) W
    rw [← zMark_m00, ← Hl.out] at this
    rw [this]; simp
  go_wp2_with (first
    | (refine wpList_buildZ 25 rfl hl.toArray hbz.out (by rfl) ?_)
    | (go_at_call 17; refine (num_any 1 v4 _ (hL.below hpos h9) hE9v).mono ?_))
  rintro e w10 ⟨rfl, hb10⟩
  have h10 := h9.trans (hb10.mono s9)
  have s10 := h10.size
  have hE10 := hE9.below hb10
  have hE10v := hE9v.below hb10
  clear hE9v hE9 hb10
  go_wp2_with (first
    | (go_at_call 17; refine (num_any 1 v4 _ (hL.below hpos h10) hE10v).mono ?_))
  rintro e w11 ⟨rfl, hb11⟩
  have h11 := h10.trans (hb11.mono s10)
  have s11 := h11.size
  have hE11 := hE10.below hb11
  clear hE10 hE10v hb11
  go_wp2_with (first
    | (go_at_call 17; refine (num_any 1 v5 _ (hL.below hpos h11) hE11).mono ?_))
  rintro e w12 ⟨rfl, hb12⟩
  have h12 := h11.trans (hb12.mono s11)
  go_wp2
  go_ret
  exact ⟨rfl, h12⟩
set_option maxRecDepth 100000 in
set_option maxHeartbeats 8000000 in
theorem ringNone_bad2 (first n pl : Int) (num : Nat) (last : List UInt8) (hlast : last.length = 32) (hnum : num < 18446744073709551616) (hf : -9223372036854775808 ≤ first ∧ first ≤ 9223372036854775807) (hnn : -9223372036854775808 ≤ n ∧ n ≤ 9223372036854775807) (h1 : 0 ≤ first) (h2 : ¬ 96 ≤ n) (w : World) (hL : Laid w) :
    Calls Tryd.prog 7 #[.int .i64 first, .int .i64 n, .agg (markI pl num last).toArray] w fun e w' => e = .returned (.bool true) ∧ Below w.heap.size w w' := by
  have hpos := hL.pos
  obtain ⟨mv, Hmv⟩ : ∃ mv : List Value, Hid (mv = markI pl num last) := ⟨_, rfl⟩
  have hmvl : mv.length = 34 := by rw [Hmv.out]; simp [markI, hlast]
  have hmi : Hid ((Tryd.prog.info? 25).map (·.size) = some mv.toArray.size) := by rw [List.size_toArray, hmvl]; exact infoPMark
  rw [← Hmv.out]
  obtain ⟨hl, Hl⟩ : ∃ hl : List Value, Hid (hl = zMark) := ⟨_, rfl⟩
  have hbz : Hid (Tryd.prog.built 25 [] = some hl.toArray) := by rw [Hl.out]; exact builtPMark
  obtain ⟨zl, Hzl⟩ : ∃ zl : List Value, Hid (zl = z32) := ⟨_, rfl⟩
  have hb23 : Hid (Tryd.prog.built 23 [] = some zl.toArray) := by rw [Hzl.out]; exact built23
  have hA1 : Below w.heap.size w (w.alloc (.cells mv.toArray 25)) := (Below.refl _ _).alloc (Nat.le_refl _) _
  have hbox : (w.alloc (.cells mv.toArray 25)).heap[w.heap.size]? = some (.cells mv.toArray 25 (0, 0)) := heap_alloc_new w _
  have hbn : w.heap.size < (w.alloc (.cells mv.toArray 25)).heap.size := by simp
  clear hmvl
  go_enter Tryd.func7, Tryd.ntmps7
  go_upto_region 1 with (fail)
  generalize w.alloc (.cells mv.toArray 25) = wa at hA1 hbox hbn ⊢
  obtain ⟨x, hx⟩ : ∃ x, w.heap.size = x := ⟨_, rfl⟩
  rw [hx] at hbox hbn ⊢
  have Hx := Lib.hid hx
  clear hx
  go_wp2_with (first
    | (go_at_call 10; refine (stands_any _).mono ?_; rintro e w1 ⟨rfl, hs1⟩)
    | (refine wpList_buildZ 23 rfl zl.toArray hb23.out (by rfl) ?_)
    | (go_at_call 27; refine (cut_nil zl _).mono ?_; rintro e w2 ⟨rfl, hs2⟩)
    | (go_at_call 12; refine (pd_new 150 (by omega) (by omega) _).mono ?_))
  rintro e w3 ⟨v, rfl, hN⟩
  have hs12 := hs1.trans (hs2.mono hs1.size)
  obtain ⟨gd, F3, rfl, hP3, hF3, hs3⟩ := hN.next hs12.size hs12
  have hA3 := hA1.trans (hs3.mono hA1.size)
  have hbox3 := Lib.hid ((hs3.block x hbn).trans hbox)
  have hbn3 : x < w3.heap.size := by have := hs3.size; omega
  have s3 := hA3.size
  clear hN hs1 hs2 hs12 hbox hs3 hA1
  have hbad : n < 96 ∨ 4096 < n ∨ first < 0 ∨ ((150 : Nat) : Int) - n < first ∨ pl < 0 ∨ n ≤ pl := by omega
  have hop := open_bad (.pointer (some ⟨gd, 0, none⟩)) 150 (by omega) (fun W hW => (pd_size (hP3.below hW)).mono fun _ _ ⟨a1, a2⟩ => ⟨by rw [a1, newS_len], a2.symm⟩) first n pl num last hf hbad
  rw [← Hmv.out] at hop
  have Hop := Lib.hid hop
  clear hop
  go_wp2_with (first
    | (refine wpList_load_row rfl 25 _ rfl x rfl 25 mv.toArray (0, 0) _ hbox3.out Tryd.underlying25 rfl hmi.out ?_)
    | (go_at_call 14; refine Hop.out.mono ?_))
  rintro e w4 ⟨v4, rfl, hE4, hb4⟩
  clear Hop
  have hA4 := hA3.trans (hb4.mono s3)
  have s4 := hA4.size
  have c4 : w4.cell? ⟨x, 0, none⟩ = some (.int .i64 pl) := by rw [cell_of_row w4 x 0 _ _ _ ((hb4.block x hbn3).trans hbox3.out), Hmv.out]; rfl
  clear hbad
  have hq0 : ((0 : Nat) : Int) = 0 := rfl
  have hop5 := open_bad (.pointer none) 0 (by omega) (size_none w4) 0 100 0 0 (List.replicate 32 0) (by omega) (by omega)
  have hz0 : markI 0 0 (List.replicate 32 0) = hl := by rw [Hl.out]; rfl
  rw [hz0] at hop5
  have Hop5 := Lib.hid hop5
  have w1 : IntKind.i64.wrap (150 - n) = 150 - n ∨ ¬ (96 ≤ n ∧ n ≤ 150) := by
    by_cases hh : 96 ≤ n ∧ n ≤ 150
    · exact .inl (IntWalk.i64_in _ (by omega))
    · exact .inr hh
  have Hw1 := Lib.hid w1
  clear hop5 hz0 hq0 hA3 hb4 hbox3 w1
  go_wp2_with (first
    | (refine wpList_buildZ 25 rfl hl.toArray hbz.out (by rfl) ?_)
    | (go_at_call 14; refine Hop5.out.mono ?_))
  rintro e w5 ⟨v5, rfl, hE5, hb5⟩
  have hA5 := hA4.trans (hb5.mono s4)
  have s5 := hA5.size
  clear Hop5 hA4 s4 c4 Hw1
  have hE5v := hE4.below hb5
  clear hE4
  go_wp2_with (first
    | (go_at_call 26; refine (room_nil _).mono ?_; rintro e w' ⟨rfl, m1, rfl⟩)
    | (go_at_call 20; refine (fits_nil 1 (by omega) _).mono ?_; rintro e w' ⟨rfl, m2, rfl⟩)
    | (go_at_call 19; refine (lchanges_any 1 (by omega) 1 _).mono ?_))
  rintro e w6 ⟨ap6, cp6, rfl, _, hb6⟩
  have hb56 := (below_drewN w5 (m1 + m2) _).trans hb6
  have hA6 := hA5.trans (hb56.mono s5)
  have s6 := hA6.size
  have hE6 := hE5.below hb56
  have hE6v := hE5v.below hb56
  clear hE5v
  clear hb6 hb56 hA5 s5 hE5
  go_wp2_with (first
    | (go_at_call 22; refine (padd_none _ _).mono ?_))
  rintro e w7 ⟨v7, rfl, hE7, hb7⟩
  have hA7 := hA6.trans (hb7.mono s6)
  have s7 := hA7.size
  have hE7b := hE6.below hb7
  have hE7v := hE6v.below hb7
  clear hE6v
  clear hb7 hA6 s6 hE6
  go_wp2_with (first
    | (go_at_call 17; refine (num_any 10 v7 _ (hL.below hpos hA7) hE7).mono ?_))
  rintro e w8 ⟨rfl, hb8⟩
  have h8 := hA7.trans (hb8.mono s7)
  have s8 := h8.size
  have hE8 := hE7b.below hb8
  have hE8v := hE7v.below hb8
  clear hE7v
  clear hb8 hA7 s7 hE7b hE7
  go_wp2_with (first
    | (go_at_call 25; refine (head_nil _).mono ?_))
  rintro e w9 ⟨rv, Hrv, rfl, hb9⟩
  have h9 := h8.trans (hb9.mono s8)
  have s9 := h9.size
  have hE9 := hE8.below hb9
  have hE9v := hE8v.below hb9
  clear hE8v
  clear hb9 h8 s8 hE8
  have hrv : rv = hl.toArray := by rw [Hrv.out, Hl.out]
  subst hrv
  have heq : ∀ W : World, (Op.equalIn 10000 25 (.agg hl.toArray) (.agg hl.toArray)).run Tryd.prog W = .ok true W := fun W => by
    have := eqMark_ring (a := m00) (b := m00) (by rfl) (by rfl) W
    rw [← zMark_m00, ← Hl.out] at this
    rw [this]; simp
  go_wp2_with (first
    | (refine wpList_buildZ 25 rfl hl.toArray hbz.out (by rfl) ?_)
    | (go_at_call 17; refine (num_any 1 v4 _ (hL.below hpos h9) hE9v).mono ?_))
  rintro e w10 ⟨rfl, hb10⟩
  have h10 := h9.trans (hb10.mono s9)
  have s10 := h10.size
  have hE10 := hE9.below hb10
  have hE10v := hE9v.below hb10
  clear hE9v hE9 hb10
  go_wp2_with (first
    | (go_at_call 17; refine (num_any 1 v4 _ (hL.below hpos h10) hE10v).mono ?_))
  rintro e w11 ⟨rfl, hb11⟩
  have h11 := h10.trans (hb11.mono s10)
  have s11 := h11.size
  have hE11 := hE10.below hb11
  clear hE10 hE10v hb11
  go_wp2_with (first
    | (go_at_call 17; refine (num_any 1 v5 _ (hL.below hpos h11) hE11).mono ?_))
  rintro e w12 ⟨rfl, hb12⟩
  have h12 := h11.trans (hb12.mono s11)
  go_wp2
  go_ret
  exact ⟨rfl, h12⟩
set_option maxRecDepth 100000 in
set_option maxHeartbeats 8000000 in
theorem ringNone_bad3 (first n pl : Int) (num : Nat) (last : List UInt8) (hlast : last.length = 32) (hnum : num < 18446744073709551616) (hf : -9223372036854775808 ≤ first ∧ first ≤ 9223372036854775807) (hnn : -9223372036854775808 ≤ n ∧ n ≤ 9223372036854775807) (h1 : 0 ≤ first) (h2 : 96 ≤ n) (h3 : ¬ n ≤ 150) (w : World) (hL : Laid w) :
    Calls Tryd.prog 7 #[.int .i64 first, .int .i64 n, .agg (markI pl num last).toArray] w fun e w' => e = .returned (.bool true) ∧ Below w.heap.size w w' := by
  have hpos := hL.pos
  obtain ⟨mv, Hmv⟩ : ∃ mv : List Value, Hid (mv = markI pl num last) := ⟨_, rfl⟩
  have hmvl : mv.length = 34 := by rw [Hmv.out]; simp [markI, hlast]
  have hmi : Hid ((Tryd.prog.info? 25).map (·.size) = some mv.toArray.size) := by rw [List.size_toArray, hmvl]; exact infoPMark
  rw [← Hmv.out]
  obtain ⟨hl, Hl⟩ : ∃ hl : List Value, Hid (hl = zMark) := ⟨_, rfl⟩
  have hbz : Hid (Tryd.prog.built 25 [] = some hl.toArray) := by rw [Hl.out]; exact builtPMark
  obtain ⟨zl, Hzl⟩ : ∃ zl : List Value, Hid (zl = z32) := ⟨_, rfl⟩
  have hb23 : Hid (Tryd.prog.built 23 [] = some zl.toArray) := by rw [Hzl.out]; exact built23
  have hA1 : Below w.heap.size w (w.alloc (.cells mv.toArray 25)) := (Below.refl _ _).alloc (Nat.le_refl _) _
  have hbox : (w.alloc (.cells mv.toArray 25)).heap[w.heap.size]? = some (.cells mv.toArray 25 (0, 0)) := heap_alloc_new w _
  have hbn : w.heap.size < (w.alloc (.cells mv.toArray 25)).heap.size := by simp
  clear hmvl
  go_enter Tryd.func7, Tryd.ntmps7
  go_upto_region 1 with (fail)
  generalize w.alloc (.cells mv.toArray 25) = wa at hA1 hbox hbn ⊢
  obtain ⟨x, hx⟩ : ∃ x, w.heap.size = x := ⟨_, rfl⟩
  rw [hx] at hbox hbn ⊢
  have Hx := Lib.hid hx
  clear hx
  go_wp2_with (first
    | (go_at_call 10; refine (stands_any _).mono ?_; rintro e w1 ⟨rfl, hs1⟩)
    | (refine wpList_buildZ 23 rfl zl.toArray hb23.out (by rfl) ?_)
    | (go_at_call 27; refine (cut_nil zl _).mono ?_; rintro e w2 ⟨rfl, hs2⟩)
    | (go_at_call 12; refine (pd_new 150 (by omega) (by omega) _).mono ?_))
  rintro e w3 ⟨v, rfl, hN⟩
  have hs12 := hs1.trans (hs2.mono hs1.size)
  obtain ⟨gd, F3, rfl, hP3, hF3, hs3⟩ := hN.next hs12.size hs12
  have hA3 := hA1.trans (hs3.mono hA1.size)
  have hbox3 := Lib.hid ((hs3.block x hbn).trans hbox)
  have hbn3 : x < w3.heap.size := by have := hs3.size; omega
  have s3 := hA3.size
  clear hN hs1 hs2 hs12 hbox hs3 hA1
  have hbad : n < 96 ∨ 4096 < n ∨ first < 0 ∨ ((150 : Nat) : Int) - n < first ∨ pl < 0 ∨ n ≤ pl := by omega
  have hop := open_bad (.pointer (some ⟨gd, 0, none⟩)) 150 (by omega) (fun W hW => (pd_size (hP3.below hW)).mono fun _ _ ⟨a1, a2⟩ => ⟨by rw [a1, newS_len], a2.symm⟩) first n pl num last hf hbad
  rw [← Hmv.out] at hop
  have Hop := Lib.hid hop
  clear hop
  go_wp2_with (first
    | (refine wpList_load_row rfl 25 _ rfl x rfl 25 mv.toArray (0, 0) _ hbox3.out Tryd.underlying25 rfl hmi.out ?_)
    | (go_at_call 14; refine Hop.out.mono ?_))
  rintro e w4 ⟨v4, rfl, hE4, hb4⟩
  clear Hop
  have hA4 := hA3.trans (hb4.mono s3)
  have s4 := hA4.size
  have c4 : w4.cell? ⟨x, 0, none⟩ = some (.int .i64 pl) := by rw [cell_of_row w4 x 0 _ _ _ ((hb4.block x hbn3).trans hbox3.out), Hmv.out]; rfl
  clear hbad
  have hq0 : ((0 : Nat) : Int) = 0 := rfl
  have hop5 := open_bad (.pointer none) 0 (by omega) (size_none w4) 0 100 0 0 (List.replicate 32 0) (by omega) (by omega)
  have hz0 : markI 0 0 (List.replicate 32 0) = hl := by rw [Hl.out]; rfl
  rw [hz0] at hop5
  have Hop5 := Lib.hid hop5
  have w1 : IntKind.i64.wrap (150 - n) = 150 - n ∨ ¬ (96 ≤ n ∧ n ≤ 150) := by
    by_cases hh : 96 ≤ n ∧ n ≤ 150
    · exact .inl (IntWalk.i64_in _ (by omega))
    · exact .inr hh
  have Hw1 := Lib.hid w1
  clear hop5 hz0 hq0 hA3 hb4 hbox3 w1
  go_wp2_with (first
    | (refine wpList_buildZ 25 rfl hl.toArray hbz.out (by rfl) ?_)
    | (go_at_call 14; refine Hop5.out.mono ?_))
  rintro e w5 ⟨v5, rfl, hE5, hb5⟩
  have hA5 := hA4.trans (hb5.mono s4)
  have s5 := hA5.size
  clear Hop5 hA4 s4 c4 Hw1
  have hE5v := hE4.below hb5
  clear hE4
  go_wp2_with (first
    | (go_at_call 26; refine (room_nil _).mono ?_; rintro e w' ⟨rfl, m1, rfl⟩)
    | (go_at_call 20; refine (fits_nil 1 (by omega) _).mono ?_; rintro e w' ⟨rfl, m2, rfl⟩)
    | (go_at_call 19; refine (lchanges_any 1 (by omega) 1 _).mono ?_))
  rintro e w6 ⟨ap6, cp6, rfl, _, hb6⟩
  have hb56 := (below_drewN w5 (m1 + m2) _).trans hb6
  have hA6 := hA5.trans (hb56.mono s5)
  have s6 := hA6.size
  have hE6 := hE5.below hb56
  have hE6v := hE5v.below hb56
  clear hE5v
  clear hb6 hb56 hA5 s5 hE5
  go_wp2_with (first
    | (go_at_call 22; refine (padd_none _ _).mono ?_))
  rintro e w7 ⟨v7, rfl, hE7, hb7⟩
  have hA7 := hA6.trans (hb7.mono s6)
  have s7 := hA7.size
  have hE7b := hE6.below hb7
  have hE7v := hE6v.below hb7
  clear hE6v
  clear hb7 hA6 s6 hE6
  go_wp2_with (first
    | (go_at_call 17; refine (num_any 10 v7 _ (hL.below hpos hA7) hE7).mono ?_))
  rintro e w8 ⟨rfl, hb8⟩
  have h8 := hA7.trans (hb8.mono s7)
  have s8 := h8.size
  have hE8 := hE7b.below hb8
  have hE8v := hE7v.below hb8
  clear hE7v
  clear hb8 hA7 s7 hE7b hE7
  go_wp2_with (first
    | (go_at_call 25; refine (head_nil _).mono ?_))
  rintro e w9 ⟨rv, Hrv, rfl, hb9⟩
  have h9 := h8.trans (hb9.mono s8)
  have s9 := h9.size
  have hE9 := hE8.below hb9
  have hE9v := hE8v.below hb9
  clear hE8v
  clear hb9 h8 s8 hE8
  have hrv : rv = hl.toArray := by rw [Hrv.out, Hl.out]
  subst hrv
  have heq : ∀ W : World, (Op.equalIn 10000 25 (.agg hl.toArray) (.agg hl.toArray)).run Tryd.prog W = .ok true W := fun W => by
    have := eqMark_ring (a := m00) (b := m00) (by rfl) (by rfl) W
    rw [← zMark_m00, ← Hl.out] at this
    rw [this]; simp
  go_wp2_with (first
    | (refine wpList_buildZ 25 rfl hl.toArray hbz.out (by rfl) ?_)
    | (go_at_call 17; refine (num_any 1 v4 _ (hL.below hpos h9) hE9v).mono ?_))
  rintro e w10 ⟨rfl, hb10⟩
  have h10 := h9.trans (hb10.mono s9)
  have s10 := h10.size
  have hE10 := hE9.below hb10
  have hE10v := hE9v.below hb10
  clear hE9v hE9 hb10
  go_wp2_with (first
    | (go_at_call 17; refine (num_any 1 v4 _ (hL.below hpos h10) hE10v).mono ?_))
  rintro e w11 ⟨rfl, hb11⟩
  have h11 := h10.trans (hb11.mono s10)
  have s11 := h11.size
  have hE11 := hE10.below hb11
  clear hE10 hE10v hb11
  go_wp2_with (first
    | (go_at_call 17; refine (num_any 1 v5 _ (hL.below hpos h11) hE11).mono ?_))
  rintro e w12 ⟨rfl, hb12⟩
  have h12 := h11.trans (hb12.mono s11)
  go_wp2
  go_ret
  exact ⟨rfl, h12⟩
set_option maxRecDepth 100000 in
set_option maxHeartbeats 8000000 in
theorem ringNone_bad4 (first n pl : Int) (num : Nat) (last : List UInt8) (hlast : last.length = 32) (hnum : num < 18446744073709551616) (hf : -9223372036854775808 ≤ first ∧ first ≤ 9223372036854775807) (hnn : -9223372036854775808 ≤ n ∧ n ≤ 9223372036854775807) (h1 : 0 ≤ first) (h2 : 96 ≤ n) (h3 : n ≤ 150) (h4 : ¬ first ≤ 150 - n) (w : World) (hL : Laid w) :
    Calls Tryd.prog 7 #[.int .i64 first, .int .i64 n, .agg (markI pl num last).toArray] w fun e w' => e = .returned (.bool true) ∧ Below w.heap.size w w' := by
  have hpos := hL.pos
  obtain ⟨mv, Hmv⟩ : ∃ mv : List Value, Hid (mv = markI pl num last) := ⟨_, rfl⟩
  have hmvl : mv.length = 34 := by rw [Hmv.out]; simp [markI, hlast]
  have hmi : Hid ((Tryd.prog.info? 25).map (·.size) = some mv.toArray.size) := by rw [List.size_toArray, hmvl]; exact infoPMark
  rw [← Hmv.out]
  obtain ⟨hl, Hl⟩ : ∃ hl : List Value, Hid (hl = zMark) := ⟨_, rfl⟩
  have hbz : Hid (Tryd.prog.built 25 [] = some hl.toArray) := by rw [Hl.out]; exact builtPMark
  obtain ⟨zl, Hzl⟩ : ∃ zl : List Value, Hid (zl = z32) := ⟨_, rfl⟩
  have hb23 : Hid (Tryd.prog.built 23 [] = some zl.toArray) := by rw [Hzl.out]; exact built23
  have hA1 : Below w.heap.size w (w.alloc (.cells mv.toArray 25)) := (Below.refl _ _).alloc (Nat.le_refl _) _
  have hbox : (w.alloc (.cells mv.toArray 25)).heap[w.heap.size]? = some (.cells mv.toArray 25 (0, 0)) := heap_alloc_new w _
  have hbn : w.heap.size < (w.alloc (.cells mv.toArray 25)).heap.size := by simp
  clear hmvl
  go_enter Tryd.func7, Tryd.ntmps7
  go_upto_region 1 with (fail)
  generalize w.alloc (.cells mv.toArray 25) = wa at hA1 hbox hbn ⊢
  obtain ⟨x, hx⟩ : ∃ x, w.heap.size = x := ⟨_, rfl⟩
  rw [hx] at hbox hbn ⊢
  have Hx := Lib.hid hx
  clear hx
  go_wp2_with (first
    | (go_at_call 10; refine (stands_any _).mono ?_; rintro e w1 ⟨rfl, hs1⟩)
    | (refine wpList_buildZ 23 rfl zl.toArray hb23.out (by rfl) ?_)
    | (go_at_call 27; refine (cut_nil zl _).mono ?_; rintro e w2 ⟨rfl, hs2⟩)
    | (go_at_call 12; refine (pd_new 150 (by omega) (by omega) _).mono ?_))
  rintro e w3 ⟨v, rfl, hN⟩
  have hs12 := hs1.trans (hs2.mono hs1.size)
  obtain ⟨gd, F3, rfl, hP3, hF3, hs3⟩ := hN.next hs12.size hs12
  have hA3 := hA1.trans (hs3.mono hA1.size)
  have hbox3 := Lib.hid ((hs3.block x hbn).trans hbox)
  have hbn3 : x < w3.heap.size := by have := hs3.size; omega
  have s3 := hA3.size
  clear hN hs1 hs2 hs12 hbox hs3 hA1
  have hbad : n < 96 ∨ 4096 < n ∨ first < 0 ∨ ((150 : Nat) : Int) - n < first ∨ pl < 0 ∨ n ≤ pl := by omega
  have hop := open_bad (.pointer (some ⟨gd, 0, none⟩)) 150 (by omega) (fun W hW => (pd_size (hP3.below hW)).mono fun _ _ ⟨a1, a2⟩ => ⟨by rw [a1, newS_len], a2.symm⟩) first n pl num last hf hbad
  rw [← Hmv.out] at hop
  have Hop := Lib.hid hop
  clear hop
  go_wp2_with (first
    | (refine wpList_load_row rfl 25 _ rfl x rfl 25 mv.toArray (0, 0) _ hbox3.out Tryd.underlying25 rfl hmi.out ?_)
    | (go_at_call 14; refine Hop.out.mono ?_))
  rintro e w4 ⟨v4, rfl, hE4, hb4⟩
  clear Hop
  have hA4 := hA3.trans (hb4.mono s3)
  have s4 := hA4.size
  have c4 : w4.cell? ⟨x, 0, none⟩ = some (.int .i64 pl) := by rw [cell_of_row w4 x 0 _ _ _ ((hb4.block x hbn3).trans hbox3.out), Hmv.out]; rfl
  clear hbad
  have hq0 : ((0 : Nat) : Int) = 0 := rfl
  have hop5 := open_bad (.pointer none) 0 (by omega) (size_none w4) 0 100 0 0 (List.replicate 32 0) (by omega) (by omega)
  have hz0 : markI 0 0 (List.replicate 32 0) = hl := by rw [Hl.out]; rfl
  rw [hz0] at hop5
  have Hop5 := Lib.hid hop5
  have w1 : IntKind.i64.wrap (150 - n) = 150 - n ∨ ¬ (96 ≤ n ∧ n ≤ 150) := by
    by_cases hh : 96 ≤ n ∧ n ≤ 150
    · exact .inl (IntWalk.i64_in _ (by omega))
    · exact .inr hh
  have Hw1 := Lib.hid w1
  clear hop5 hz0 hq0 hA3 hb4 hbox3 w1
  have hw150 : IntKind.i64.wrap (150 - n) = 150 - n := Hw1.out.resolve_right (fun h => h ⟨by omega, by omega⟩)
  go_wp2_with (first
    | (refine wpList_buildZ 25 rfl hl.toArray hbz.out (by rfl) ?_)
    | (go_at_call 14; refine Hop5.out.mono ?_))
  rintro e w5 ⟨v5, rfl, hE5, hb5⟩
  have hA5 := hA4.trans (hb5.mono s4)
  have s5 := hA5.size
  clear Hop5 hA4 s4 c4 Hw1
  have hE5v := hE4.below hb5
  clear hE4
  go_wp2_with (first
    | (go_at_call 26; refine (room_nil _).mono ?_; rintro e w' ⟨rfl, m1, rfl⟩)
    | (go_at_call 20; refine (fits_nil 1 (by omega) _).mono ?_; rintro e w' ⟨rfl, m2, rfl⟩)
    | (go_at_call 19; refine (lchanges_any 1 (by omega) 1 _).mono ?_))
  rintro e w6 ⟨ap6, cp6, rfl, _, hb6⟩
  have hb56 := (below_drewN w5 (m1 + m2) _).trans hb6
  have hA6 := hA5.trans (hb56.mono s5)
  have s6 := hA6.size
  have hE6 := hE5.below hb56
  have hE6v := hE5v.below hb56
  clear hE5v
  clear hb6 hb56 hA5 s5 hE5
  go_wp2_with (first
    | (go_at_call 22; refine (padd_none _ _).mono ?_))
  rintro e w7 ⟨v7, rfl, hE7, hb7⟩
  have hA7 := hA6.trans (hb7.mono s6)
  have s7 := hA7.size
  have hE7b := hE6.below hb7
  have hE7v := hE6v.below hb7
  clear hE6v
  clear hb7 hA6 s6 hE6
  go_wp2_with (first
    | (go_at_call 17; refine (num_any 10 v7 _ (hL.below hpos hA7) hE7).mono ?_))
  rintro e w8 ⟨rfl, hb8⟩
  have h8 := hA7.trans (hb8.mono s7)
  have s8 := h8.size
  have hE8 := hE7b.below hb8
  have hE8v := hE7v.below hb8
  clear hE7v
  clear hb8 hA7 s7 hE7b hE7
  go_wp2_with (first
    | (go_at_call 25; refine (head_nil _).mono ?_))
  rintro e w9 ⟨rv, Hrv, rfl, hb9⟩
  have h9 := h8.trans (hb9.mono s8)
  have s9 := h9.size
  have hE9 := hE8.below hb9
  have hE9v := hE8v.below hb9
  clear hE8v
  clear hb9 h8 s8 hE8
  have hrv : rv = hl.toArray := by rw [Hrv.out, Hl.out]
  subst hrv
  have heq : ∀ W : World, (Op.equalIn 10000 25 (.agg hl.toArray) (.agg hl.toArray)).run Tryd.prog W = .ok true W := fun W => by
    have := eqMark_ring (a := m00) (b := m00) (by rfl) (by rfl) W
    rw [← zMark_m00, ← Hl.out] at this
    rw [this]; simp
  go_wp2_with (first
    | (refine wpList_buildZ 25 rfl hl.toArray hbz.out (by rfl) ?_)
    | (go_at_call 17; refine (num_any 1 v4 _ (hL.below hpos h9) hE9v).mono ?_))
  rintro e w10 ⟨rfl, hb10⟩
  have h10 := h9.trans (hb10.mono s9)
  have s10 := h10.size
  have hE10 := hE9.below hb10
  have hE10v := hE9v.below hb10
  clear hE9v hE9 hb10
  go_wp2_with (first
    | (go_at_call 17; refine (num_any 1 v4 _ (hL.below hpos h10) hE10v).mono ?_))
  rintro e w11 ⟨rfl, hb11⟩
  have h11 := h10.trans (hb11.mono s10)
  have s11 := h11.size
  have hE11 := hE10.below hb11
  clear hE10 hE10v hb11
  go_wp2_with (first
    | (go_at_call 17; refine (num_any 1 v5 _ (hL.below hpos h11) hE11).mono ?_))
  rintro e w12 ⟨rfl, hb12⟩
  have h12 := h11.trans (hb12.mono s11)
  go_wp2
  go_ret
  exact ⟨rfl, h12⟩
set_option maxRecDepth 100000 in
set_option maxHeartbeats 8000000 in
theorem ringNone_bad5 (first n pl : Int) (num : Nat) (last : List UInt8) (hlast : last.length = 32) (hnum : num < 18446744073709551616) (hf : -9223372036854775808 ≤ first ∧ first ≤ 9223372036854775807) (hnn : -9223372036854775808 ≤ n ∧ n ≤ 9223372036854775807) (h1 : 0 ≤ first) (h2 : 96 ≤ n) (h3 : n ≤ 150) (h4 : first ≤ 150 - n) (h5 : ¬ 0 ≤ pl) (w : World) (hL : Laid w) :
    Calls Tryd.prog 7 #[.int .i64 first, .int .i64 n, .agg (markI pl num last).toArray] w fun e w' => e = .returned (.bool true) ∧ Below w.heap.size w w' := by
  have hpos := hL.pos
  obtain ⟨mv, Hmv⟩ : ∃ mv : List Value, Hid (mv = markI pl num last) := ⟨_, rfl⟩
  have hmvl : mv.length = 34 := by rw [Hmv.out]; simp [markI, hlast]
  have hmi : Hid ((Tryd.prog.info? 25).map (·.size) = some mv.toArray.size) := by rw [List.size_toArray, hmvl]; exact infoPMark
  rw [← Hmv.out]
  obtain ⟨hl, Hl⟩ : ∃ hl : List Value, Hid (hl = zMark) := ⟨_, rfl⟩
  have hbz : Hid (Tryd.prog.built 25 [] = some hl.toArray) := by rw [Hl.out]; exact builtPMark
  obtain ⟨zl, Hzl⟩ : ∃ zl : List Value, Hid (zl = z32) := ⟨_, rfl⟩
  have hb23 : Hid (Tryd.prog.built 23 [] = some zl.toArray) := by rw [Hzl.out]; exact built23
  have hA1 : Below w.heap.size w (w.alloc (.cells mv.toArray 25)) := (Below.refl _ _).alloc (Nat.le_refl _) _
  have hbox : (w.alloc (.cells mv.toArray 25)).heap[w.heap.size]? = some (.cells mv.toArray 25 (0, 0)) := heap_alloc_new w _
  have hbn : w.heap.size < (w.alloc (.cells mv.toArray 25)).heap.size := by simp
  clear hmvl
  go_enter Tryd.func7, Tryd.ntmps7
  go_upto_region 1 with (fail)
  generalize w.alloc (.cells mv.toArray 25) = wa at hA1 hbox hbn ⊢
  obtain ⟨x, hx⟩ : ∃ x, w.heap.size = x := ⟨_, rfl⟩
  rw [hx] at hbox hbn ⊢
  have Hx := Lib.hid hx
  clear hx
  go_wp2_with (first
    | (go_at_call 10; refine (stands_any _).mono ?_; rintro e w1 ⟨rfl, hs1⟩)
    | (refine wpList_buildZ 23 rfl zl.toArray hb23.out (by rfl) ?_)
    | (go_at_call 27; refine (cut_nil zl _).mono ?_; rintro e w2 ⟨rfl, hs2⟩)
    | (go_at_call 12; refine (pd_new 150 (by omega) (by omega) _).mono ?_))
  rintro e w3 ⟨v, rfl, hN⟩
  have hs12 := hs1.trans (hs2.mono hs1.size)
  obtain ⟨gd, F3, rfl, hP3, hF3, hs3⟩ := hN.next hs12.size hs12
  have hA3 := hA1.trans (hs3.mono hA1.size)
  have hbox3 := Lib.hid ((hs3.block x hbn).trans hbox)
  have hbn3 : x < w3.heap.size := by have := hs3.size; omega
  have s3 := hA3.size
  clear hN hs1 hs2 hs12 hbox hs3 hA1
  have hbad : n < 96 ∨ 4096 < n ∨ first < 0 ∨ ((150 : Nat) : Int) - n < first ∨ pl < 0 ∨ n ≤ pl := by omega
  have hop := open_bad (.pointer (some ⟨gd, 0, none⟩)) 150 (by omega) (fun W hW => (pd_size (hP3.below hW)).mono fun _ _ ⟨a1, a2⟩ => ⟨by rw [a1, newS_len], a2.symm⟩) first n pl num last hf hbad
  rw [← Hmv.out] at hop
  have Hop := Lib.hid hop
  clear hop
  go_wp2_with (first
    | (refine wpList_load_row rfl 25 _ rfl x rfl 25 mv.toArray (0, 0) _ hbox3.out Tryd.underlying25 rfl hmi.out ?_)
    | (go_at_call 14; refine Hop.out.mono ?_))
  rintro e w4 ⟨v4, rfl, hE4, hb4⟩
  clear Hop
  have hA4 := hA3.trans (hb4.mono s3)
  have s4 := hA4.size
  have c4 : w4.cell? ⟨x, 0, none⟩ = some (.int .i64 pl) := by rw [cell_of_row w4 x 0 _ _ _ ((hb4.block x hbn3).trans hbox3.out), Hmv.out]; rfl
  clear hbad
  have hq0 : ((0 : Nat) : Int) = 0 := rfl
  have hop5 := open_bad (.pointer none) 0 (by omega) (size_none w4) 0 100 0 0 (List.replicate 32 0) (by omega) (by omega)
  have hz0 : markI 0 0 (List.replicate 32 0) = hl := by rw [Hl.out]; rfl
  rw [hz0] at hop5
  have Hop5 := Lib.hid hop5
  have w1 : IntKind.i64.wrap (150 - n) = 150 - n ∨ ¬ (96 ≤ n ∧ n ≤ 150) := by
    by_cases hh : 96 ≤ n ∧ n ≤ 150
    · exact .inl (IntWalk.i64_in _ (by omega))
    · exact .inr hh
  have Hw1 := Lib.hid w1
  clear hop5 hz0 hq0 hA3 hb4 hbox3 w1
  have hw150 : IntKind.i64.wrap (150 - n) = 150 - n := Hw1.out.resolve_right (fun h => h ⟨by omega, by omega⟩)
  go_wp2_with (first
    | (refine wpList_buildZ 25 rfl hl.toArray hbz.out (by rfl) ?_)
    | (go_at_call 14; refine Hop5.out.mono ?_))
  rintro e w5 ⟨v5, rfl, hE5, hb5⟩
  have hA5 := hA4.trans (hb5.mono s4)
  have s5 := hA5.size
  clear Hop5 hA4 s4 c4 Hw1
  have hE5v := hE4.below hb5
  clear hE4
  go_wp2_with (first
    | (go_at_call 26; refine (room_nil _).mono ?_; rintro e w' ⟨rfl, m1, rfl⟩)
    | (go_at_call 20; refine (fits_nil 1 (by omega) _).mono ?_; rintro e w' ⟨rfl, m2, rfl⟩)
    | (go_at_call 19; refine (lchanges_any 1 (by omega) 1 _).mono ?_))
  rintro e w6 ⟨ap6, cp6, rfl, _, hb6⟩
  have hb56 := (below_drewN w5 (m1 + m2) _).trans hb6
  have hA6 := hA5.trans (hb56.mono s5)
  have s6 := hA6.size
  have hE6 := hE5.below hb56
  have hE6v := hE5v.below hb56
  clear hE5v
  clear hb6 hb56 hA5 s5 hE5
  go_wp2_with (first
    | (go_at_call 22; refine (padd_none _ _).mono ?_))
  rintro e w7 ⟨v7, rfl, hE7, hb7⟩
  have hA7 := hA6.trans (hb7.mono s6)
  have s7 := hA7.size
  have hE7b := hE6.below hb7
  have hE7v := hE6v.below hb7
  clear hE6v
  clear hb7 hA6 s6 hE6
  go_wp2_with (first
    | (go_at_call 17; refine (num_any 10 v7 _ (hL.below hpos hA7) hE7).mono ?_))
  rintro e w8 ⟨rfl, hb8⟩
  have h8 := hA7.trans (hb8.mono s7)
  have s8 := h8.size
  have hE8 := hE7b.below hb8
  have hE8v := hE7v.below hb8
  clear hE7v
  clear hb8 hA7 s7 hE7b hE7
  go_wp2_with (first
    | (go_at_call 25; refine (head_nil _).mono ?_))
  rintro e w9 ⟨rv, Hrv, rfl, hb9⟩
  have h9 := h8.trans (hb9.mono s8)
  have s9 := h9.size
  have hE9 := hE8.below hb9
  have hE9v := hE8v.below hb9
  clear hE8v
  clear hb9 h8 s8 hE8
  have hrv : rv = hl.toArray := by rw [Hrv.out, Hl.out]
  subst hrv
  have heq : ∀ W : World, (Op.equalIn 10000 25 (.agg hl.toArray) (.agg hl.toArray)).run Tryd.prog W = .ok true W := fun W => by
    have := eqMark_ring (a := m00) (b := m00) (by rfl) (by rfl) W
    rw [← zMark_m00, ← Hl.out] at this
    rw [this]; simp
  go_wp2_with (first
    | (refine wpList_buildZ 25 rfl hl.toArray hbz.out (by rfl) ?_)
    | (go_at_call 17; refine (num_any 1 v4 _ (hL.below hpos h9) hE9v).mono ?_))
  rintro e w10 ⟨rfl, hb10⟩
  have h10 := h9.trans (hb10.mono s9)
  have s10 := h10.size
  have hE10 := hE9.below hb10
  have hE10v := hE9v.below hb10
  clear hE9v hE9 hb10
  go_wp2_with (first
    | (go_at_call 17; refine (num_any 1 v4 _ (hL.below hpos h10) hE10v).mono ?_))
  rintro e w11 ⟨rfl, hb11⟩
  have h11 := h10.trans (hb11.mono s10)
  have s11 := h11.size
  have hE11 := hE10.below hb11
  clear hE10 hE10v hb11
  go_wp2_with (first
    | (go_at_call 17; refine (num_any 1 v5 _ (hL.below hpos h11) hE11).mono ?_))
  rintro e w12 ⟨rfl, hb12⟩
  have h12 := h11.trans (hb12.mono s11)
  go_wp2
  go_ret
  exact ⟨rfl, h12⟩
set_option maxRecDepth 100000 in
set_option maxHeartbeats 8000000 in
theorem ringNone_bad6 (first n pl : Int) (num : Nat) (last : List UInt8) (hlast : last.length = 32) (hnum : num < 18446744073709551616) (hf : -9223372036854775808 ≤ first ∧ first ≤ 9223372036854775807) (hnn : -9223372036854775808 ≤ n ∧ n ≤ 9223372036854775807) (h1 : 0 ≤ first) (h2 : 96 ≤ n) (h3 : n ≤ 150) (h4 : first ≤ 150 - n) (h5 : 0 ≤ pl) (h6 : ¬ pl < n) (w : World) (hL : Laid w) :
    Calls Tryd.prog 7 #[.int .i64 first, .int .i64 n, .agg (markI pl num last).toArray] w fun e w' => e = .returned (.bool true) ∧ Below w.heap.size w w' := by
  have hpos := hL.pos
  obtain ⟨mv, Hmv⟩ : ∃ mv : List Value, Hid (mv = markI pl num last) := ⟨_, rfl⟩
  have hmvl : mv.length = 34 := by rw [Hmv.out]; simp [markI, hlast]
  have hmi : Hid ((Tryd.prog.info? 25).map (·.size) = some mv.toArray.size) := by rw [List.size_toArray, hmvl]; exact infoPMark
  rw [← Hmv.out]
  obtain ⟨hl, Hl⟩ : ∃ hl : List Value, Hid (hl = zMark) := ⟨_, rfl⟩
  have hbz : Hid (Tryd.prog.built 25 [] = some hl.toArray) := by rw [Hl.out]; exact builtPMark
  obtain ⟨zl, Hzl⟩ : ∃ zl : List Value, Hid (zl = z32) := ⟨_, rfl⟩
  have hb23 : Hid (Tryd.prog.built 23 [] = some zl.toArray) := by rw [Hzl.out]; exact built23
  have hA1 : Below w.heap.size w (w.alloc (.cells mv.toArray 25)) := (Below.refl _ _).alloc (Nat.le_refl _) _
  have hbox : (w.alloc (.cells mv.toArray 25)).heap[w.heap.size]? = some (.cells mv.toArray 25 (0, 0)) := heap_alloc_new w _
  have hbn : w.heap.size < (w.alloc (.cells mv.toArray 25)).heap.size := by simp
  clear hmvl
  go_enter Tryd.func7, Tryd.ntmps7
  go_upto_region 1 with (fail)
  generalize w.alloc (.cells mv.toArray 25) = wa at hA1 hbox hbn ⊢
  obtain ⟨x, hx⟩ : ∃ x, w.heap.size = x := ⟨_, rfl⟩
  rw [hx] at hbox hbn ⊢
  have Hx := Lib.hid hx
  clear hx
  go_wp2_with (first
    | (go_at_call 10; refine (stands_any _).mono ?_; rintro e w1 ⟨rfl, hs1⟩)
    | (refine wpList_buildZ 23 rfl zl.toArray hb23.out (by rfl) ?_)
    | (go_at_call 27; refine (cut_nil zl _).mono ?_; rintro e w2 ⟨rfl, hs2⟩)
    | (go_at_call 12; refine (pd_new 150 (by omega) (by omega) _).mono ?_))
  rintro e w3 ⟨v, rfl, hN⟩
  have hs12 := hs1.trans (hs2.mono hs1.size)
  obtain ⟨gd, F3, rfl, hP3, hF3, hs3⟩ := hN.next hs12.size hs12
  have hA3 := hA1.trans (hs3.mono hA1.size)
  have hbox3 := Lib.hid ((hs3.block x hbn).trans hbox)
  have hbn3 : x < w3.heap.size := by have := hs3.size; omega
  have s3 := hA3.size
  clear hN hs1 hs2 hs12 hbox hs3 hA1
  have hbad : n < 96 ∨ 4096 < n ∨ first < 0 ∨ ((150 : Nat) : Int) - n < first ∨ pl < 0 ∨ n ≤ pl := by omega
  have hop := open_bad (.pointer (some ⟨gd, 0, none⟩)) 150 (by omega) (fun W hW => (pd_size (hP3.below hW)).mono fun _ _ ⟨a1, a2⟩ => ⟨by rw [a1, newS_len], a2.symm⟩) first n pl num last hf hbad
  rw [← Hmv.out] at hop
  have Hop := Lib.hid hop
  clear hop
  go_wp2_with (first
    | (refine wpList_load_row rfl 25 _ rfl x rfl 25 mv.toArray (0, 0) _ hbox3.out Tryd.underlying25 rfl hmi.out ?_)
    | (go_at_call 14; refine Hop.out.mono ?_))
  rintro e w4 ⟨v4, rfl, hE4, hb4⟩
  clear Hop
  have hA4 := hA3.trans (hb4.mono s3)
  have s4 := hA4.size
  have c4 : w4.cell? ⟨x, 0, none⟩ = some (.int .i64 pl) := by rw [cell_of_row w4 x 0 _ _ _ ((hb4.block x hbn3).trans hbox3.out), Hmv.out]; rfl
  clear hbad
  have hq0 : ((0 : Nat) : Int) = 0 := rfl
  have hop5 := open_bad (.pointer none) 0 (by omega) (size_none w4) 0 100 0 0 (List.replicate 32 0) (by omega) (by omega)
  have hz0 : markI 0 0 (List.replicate 32 0) = hl := by rw [Hl.out]; rfl
  rw [hz0] at hop5
  have Hop5 := Lib.hid hop5
  have w1 : IntKind.i64.wrap (150 - n) = 150 - n ∨ ¬ (96 ≤ n ∧ n ≤ 150) := by
    by_cases hh : 96 ≤ n ∧ n ≤ 150
    · exact .inl (IntWalk.i64_in _ (by omega))
    · exact .inr hh
  have Hw1 := Lib.hid w1
  clear hop5 hz0 hq0 hA3 hb4 hbox3 w1
  have hw150 : IntKind.i64.wrap (150 - n) = 150 - n := Hw1.out.resolve_right (fun h => h ⟨by omega, by omega⟩)
  have hd6 : decide (pl < n) = false := decide_eq_false (by omega)
  go_wp2_with (first
    | (refine wpList_buildZ 25 rfl hl.toArray hbz.out (by rfl) ?_)
    | (go_at_call 14; refine Hop5.out.mono ?_))
  rintro e w5 ⟨v5, rfl, hE5, hb5⟩
  have hA5 := hA4.trans (hb5.mono s4)
  have s5 := hA5.size
  clear Hop5 hA4 s4 c4 Hw1
  have hE5v := hE4.below hb5
  clear hE4
  go_wp2_with (first
    | (go_at_call 26; refine (room_nil _).mono ?_; rintro e w' ⟨rfl, m1, rfl⟩)
    | (go_at_call 20; refine (fits_nil 1 (by omega) _).mono ?_; rintro e w' ⟨rfl, m2, rfl⟩)
    | (go_at_call 19; refine (lchanges_any 1 (by omega) 1 _).mono ?_))
  rintro e w6 ⟨ap6, cp6, rfl, _, hb6⟩
  have hb56 := (below_drewN w5 (m1 + m2) _).trans hb6
  have hA6 := hA5.trans (hb56.mono s5)
  have s6 := hA6.size
  have hE6 := hE5.below hb56
  have hE6v := hE5v.below hb56
  clear hE5v
  clear hb6 hb56 hA5 s5 hE5
  go_wp2_with (first
    | (go_at_call 22; refine (padd_none _ _).mono ?_))
  rintro e w7 ⟨v7, rfl, hE7, hb7⟩
  have hA7 := hA6.trans (hb7.mono s6)
  have s7 := hA7.size
  have hE7b := hE6.below hb7
  have hE7v := hE6v.below hb7
  clear hE6v
  clear hb7 hA6 s6 hE6
  go_wp2_with (first
    | (go_at_call 17; refine (num_any 10 v7 _ (hL.below hpos hA7) hE7).mono ?_))
  rintro e w8 ⟨rfl, hb8⟩
  have h8 := hA7.trans (hb8.mono s7)
  have s8 := h8.size
  have hE8 := hE7b.below hb8
  have hE8v := hE7v.below hb8
  clear hE7v
  clear hb8 hA7 s7 hE7b hE7
  go_wp2_with (first
    | (go_at_call 25; refine (head_nil _).mono ?_))
  rintro e w9 ⟨rv, Hrv, rfl, hb9⟩
  have h9 := h8.trans (hb9.mono s8)
  have s9 := h9.size
  have hE9 := hE8.below hb9
  have hE9v := hE8v.below hb9
  clear hE8v
  clear hb9 h8 s8 hE8
  have hrv : rv = hl.toArray := by rw [Hrv.out, Hl.out]
  subst hrv
  have heq : ∀ W : World, (Op.equalIn 10000 25 (.agg hl.toArray) (.agg hl.toArray)).run Tryd.prog W = .ok true W := fun W => by
    have := eqMark_ring (a := m00) (b := m00) (by rfl) (by rfl) W
    rw [← zMark_m00, ← Hl.out] at this
    rw [this]; simp
  go_wp2_with (first
    | (refine wpList_buildZ 25 rfl hl.toArray hbz.out (by rfl) ?_)
    | (go_at_call 17; refine (num_any 1 v4 _ (hL.below hpos h9) hE9v).mono ?_))
  rintro e w10 ⟨rfl, hb10⟩
  have h10 := h9.trans (hb10.mono s9)
  have s10 := h10.size
  have hE10 := hE9.below hb10
  have hE10v := hE9v.below hb10
  clear hE9v hE9 hb10
  go_wp2_with (first
    | (go_at_call 17; refine (num_any 1 v4 _ (hL.below hpos h10) hE10v).mono ?_))
  rintro e w11 ⟨rfl, hb11⟩
  have h11 := h10.trans (hb11.mono s10)
  have s11 := h11.size
  have hE11 := hE10.below hb11
  clear hE10 hE10v hb11
  go_wp2_with (first
    | (go_at_call 17; refine (num_any 1 v5 _ (hL.below hpos h11) hE11).mono ?_))
  rintro e w12 ⟨rfl, hb12⟩
  have h12 := h11.trans (hb12.mono s11)
  go_wp2
  go_ret
  exact ⟨rfl, h12⟩
theorem ringNone_any (first n pl : Int) (num : Nat) (last : List UInt8) (hlast : last.length = 32) (hnum : num < 18446744073709551616) (hf : -9223372036854775808 ≤ first ∧ first ≤ 9223372036854775807) (hnn : -9223372036854775808 ≤ n ∧ n ≤ 9223372036854775807) (w : World) (hL : Laid w) :
    Calls Tryd.prog 7 #[.int .i64 first, .int .i64 n, .agg (markI pl num last).toArray] w fun e w' => e = .returned (.bool true) ∧ Below w.heap.size w w' := by
  by_cases h1 : 0 ≤ first
  · by_cases h2 : 96 ≤ n
    · by_cases h3 : n ≤ 150
      · by_cases h4 : first ≤ 150 - n
        · by_cases h5 : 0 ≤ pl
          · by_cases h6 : pl < n
            · exact ringNone_ok first n pl num last hlast hnum hf hnn h1 h2 h3 h4 h5 h6 w hL
            · exact ringNone_bad6 first n pl num last hlast hnum hf hnn h1 h2 h3 h4 h5 h6 w hL
          · exact ringNone_bad5 first n pl num last hlast hnum hf hnn h1 h2 h3 h4 h5 w hL
        · exact ringNone_bad4 first n pl num last hlast hnum hf hnn h1 h2 h3 h4 w hL
      · exact ringNone_bad3 first n pl num last hlast hnum hf hnn h1 h2 h3 w hL
    · exact ringNone_bad2 first n pl num last hlast hnum hf hnn h1 h2 w hL
  · exact ringNone_bad1 first n pl num last hlast hnum hf hnn h1 w hL
end Go.Proofs.YtegdlpllljccgaaDoor
