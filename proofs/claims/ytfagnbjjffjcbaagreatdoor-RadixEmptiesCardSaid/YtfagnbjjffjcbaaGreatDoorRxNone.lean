/-
  'RadixNone': its walk.
-/
import Derived.Test.YtfagnbjjffjcbaaGreatDoorRxCall
set_option linter.unusedSimpArgs false
set_option linter.unusedVariables false
namespace Go.Proofs.YtfagnbjjffjcbaaGreatDoor
open Go.RowKit Sh Go.Maps Go.Extern.Stop Go.Stop Go.Extern

theorem bk140 : (bk1 140 100).pages = 38 := (fr (D := 140) (n := 100) (by omega) (by omega) (by omega) (by omega)).pages
def callV (lun block xx : Int) : Value := .agg #[.int .i64 lun, .int .i64 block, .int .i64 xx]
def NumQ (n : Int) (w : World) (e : Ending) (w' : World) : Prop := e = .returned (.int .i64 n) ∧ Below w.heap.size w w'
theorem num9 (n : Int) (v : Value) (w : World) (hL : Laid w) (hE : ErrV w n v) : Calls Tryz.prog 28 #[v] w (NumQ n w) := num_any n v w hL hE
attribute [local irreducible] bk1 bk0
set_option maxRecDepth 100000 in
set_option maxHeartbeats 8000000 in
theorem rnone_ok (first n lun block xx : Int) (hf : -9223372036854775808 ≤ first ∧ first ≤ 9223372036854775807) (hn : -9223372036854775808 ≤ n ∧ n ≤ 9223372036854775807) (h1 : 0 ≤ first) (h2 : 1 ≤ n) (h3 : n ≤ 4095) (h4 : first ≤ 37 - n) (w : World) (hL : Laid w) :
    Calls Tryz.prog 7 #[.int .i64 first, .int .i64 n, callV lun block xx] w fun e w' => e = .returned (.bool true) ∧ Below w.heap.size w w' := by
  have hpos := hL.pos
  unfold callV
  have hb0 : Below w.heap.size w (w.alloc (.cells #[.int .i64 lun, .int .i64 block, .int .i64 xx] 30)) := (Below.refl _ _).alloc (Nat.le_refl _) _
  have hx0 : (w.alloc (.cells #[.int .i64 lun, .int .i64 block, .int .i64 xx] 30)).heap[w.heap.size]? = some (.cells #[.int .i64 lun, .int .i64 block, .int .i64 xx] 30 (0, 0)) := heap_alloc_new w _
  go_enter Tryz.func7, Tryz.ntmps7
  go_upto_region 1 with (fail)
  generalize w.alloc (.cells #[.int .i64 lun, .int .i64 block, .int .i64 xx] 30) = w0 at hb0 hx0 ⊢
  obtain ⟨x0, hx0e⟩ : ∃ x0, w.heap.size = x0 := ⟨_, rfl⟩
  rw [hx0e] at hx0 ⊢
  have hxl := (Array.getElem?_eq_some_iff.1 hx0).1
  have HC := Lib.hid (fun W (hW : Below w0.heap.size w0 W) => (show W.cell? ⟨x0, 0, none⟩ = some (.int .i64 lun) ∧ W.cell? ⟨x0, 1, none⟩ = some (.int .i64 block) ∧ W.cell? ⟨x0, 2, none⟩ = some (.int .i64 xx) by
    have h := (hW.block x0 hxl).trans hx0
    refine ⟨?_, ?_, ?_⟩ <;> rw [cell_of_row W x0 _ _ _ _ h] <;> rfl))
  have Hx0e := Lib.hid hx0e
  clear hx0 hxl hx0e
  go_wp2_with (first
    | (go_at_call 13; refine (stands9_any _).mono ?_))
  rintro e w1 ⟨rfl, hb1⟩
  have hg := fun (W : World) => Get_of (get1_bad (w := W) (.pointer none) lun block (has_nil lun block))
  have Hg := Lib.hid hg
  obtain ⟨c0, c1, _⟩ := HC.out w1 hb1
  clear hg
  go_wp2_with (first
    | (go_at_call 21; refine (Hg.out _).mono ?_))
  rintro e w2 ⟨va, rfl, hEa, hb2⟩
  have hb02 := hb1.trans (hb2.mono hb1.size)
  clear Hg c0 c1 hb1 hb2
  go_wp2_with (first
    | (go_at_call 16; refine Nodes_nil.mono ?_))
  rintro e w3 ⟨vb, rfl, hEb, hb3⟩
  have hEa := hEa.below hb3
  have hb03 := hb02.trans (hb3.mono hb02.size)
  have Hnw := Lib.hid (own_new (B := w3.heap.size) (w0 := w3) (w := w3) 140 (by omega) (by omega) (Below.refl _ _) (Nat.le_refl _))
  clear hb02 hb3
  go_wp2_with (first
    | (go_at_call 22; refine Hnw.out.mono ?_))
  rintro e w4 ⟨gd, rfl, hD4⟩
  have Hm := Lib.hid (hD4.mountNew (D := 140) (n := 100) (by omega) (by omega) (by omega) (by omega))
  clear hD4 Hnw
  go_wp2_with (first
    | (go_at_call 23; refine Hm.out.mono ?_))
  rintro e w5 ⟨g, rfl, hB5⟩
  have hpg := hB5.pages
  rw [bk140] at hpg
  have hb35 := hB5.bel
  have hb05 := hb03.trans (hb35.mono hb03.size)
  have hEa := hEa.below hb35
  have hEb := hEb.below hb35
  clear hb35 hb03 hB5 Hm
  obtain ⟨F, rfl⟩ : ∃ F : Nat, first = (F : Int) := ⟨first.toNat, by omega⟩
  obtain ⟨K, rfl⟩ : ∃ K : Nat, n = (K : Int) := ⟨n.toNat, by omega⟩
  have Hn := Lib.hid (rNew_ok hpg (by omega) F K (by omega) (by omega))
  clear hpg
  go_wp2_with (first
    | (go_at_call 24; refine Hn.out.mono ?_))
  rintro e w6 ⟨x, rfl, rfl, rfl⟩
  have hb56 : Below w5.heap.size w5 (w5.alloc (foO g F K)) := (Below.refl _ _).alloc (Nat.le_refl _) _
  generalize w5.alloc (foO g F K) = w6 at hb56 ⊢
  obtain ⟨x, hxe⟩ : ∃ x, w5.heap.size = x := ⟨_, rfl⟩
  rw [hxe]
  clear hxe
  have hE6 : ErrV w6 0 .nilIface := ErrV.nil
  have q1 : (0 : Int) ≤ (F : Int) := by omega
  have q2 : (1 : Int) ≤ (K : Int) := by omega
  have q3 : (K : Int) ≤ 4095 := by omega
  have q4 : IntKind.i64.wrap (37 - (K : Int)) = 37 - (K : Int) := IntWalk.i64_in _ (by omega)
  have q5 : (F : Int) ≤ 37 - (K : Int) := by omega

  have hb06 := hb05.trans (hb56.mono hb05.size)
  have hEa := hEa.below hb56
  have hEb := hEb.below hb56
  have Hs := Lib.hid (fun (W : World) => rSet_arg (set1_bad (w := W) (.pointer none) lun block xx (has_nil lun block)))
  have hL6 := (hL.below hpos hb0).below (hL.below hpos hb0).pos hb06
  clear Hn hb56 hb05
  go_wp2_with (first
    | (go_at_call 28; refine (num9 1 va _ hL6 hEa).mono ?_))
  rintro e w7 ⟨rfl, hb7⟩
  have hb07 := hb06.trans (hb7.mono hb06.size)
  have hEb := hEb.below hb7
  have hE7 := hE6.below hb7
  have hL7 := hL6.below hL6.pos hb7
  clear hEa hb7 hb06 hL6 hE6
  go_wp2_with (first
    | (go_at_call 28; refine (num9 1 vb _ hL7 hEb).mono ?_))
  rintro e w8 ⟨rfl, hb8⟩
  have hb08 := hb07.trans (hb8.mono hb07.size)
  have hE8 := hE7.below hb8
  have hL8 := hL7.below hL7.pos hb8
  obtain ⟨c0, c1, c2⟩ := HC.out w8 hb08
  clear hEb hb8 hb07 hL7 hE7
  go_wp2_with (first
    | (go_at_call 19; refine (Hs.out _).mono ?_))
  rintro e w9 ⟨vs, rfl, hEs, hb9⟩
  have hb09 := hb08.trans (hb9.mono hb08.size)
  have hE9 := hE8.below hb9
  have hL9 := hL8.below hL8.pos hb9
  clear hb9 hb08 hL8 hE8 c0 c1 c2 Hs
  go_wp2_with (first
    | (go_at_call 28; refine (num9 1 vs _ hL9 hEs).mono ?_))
  rintro e wa ⟨rfl, hba⟩
  have hb0a := hb09.trans (hba.mono hb09.size)
  have hEa := hE9.below hba
  have hLa := hL9.below hL9.pos hba
  clear hba hb09 hL9 hE9 hEs
  go_wp2_with (first
    | (go_at_call 28; refine (num_nil _).mono ?_))
  rintro e w' ⟨rfl, rfl⟩
  have Hfin := Lib.hid (hb0.trans (hb0a.mono hb0.size))
  clear hb0a hLa hEa hb0
  go_wp2
  go_ret
  exact ⟨rfl, by first | exact Hfin.out | (rw [Hx0e.out]; exact Hfin.out) | (rw [← Hx0e.out]; exact Hfin.out)⟩
set_option maxRecDepth 100000 in
set_option maxHeartbeats 8000000 in
theorem rnone_b1 (first n lun block xx : Int) (hf : -9223372036854775808 ≤ first ∧ first ≤ 9223372036854775807) (hn : -9223372036854775808 ≤ n ∧ n ≤ 9223372036854775807) (h1 : first < 0) (w : World) (hL : Laid w) :
    Calls Tryz.prog 7 #[.int .i64 first, .int .i64 n, callV lun block xx] w fun e w' => e = .returned (.bool true) ∧ Below w.heap.size w w' := by
  have hpos := hL.pos
  unfold callV
  have hb0 : Below w.heap.size w (w.alloc (.cells #[.int .i64 lun, .int .i64 block, .int .i64 xx] 30)) := (Below.refl _ _).alloc (Nat.le_refl _) _
  have hx0 : (w.alloc (.cells #[.int .i64 lun, .int .i64 block, .int .i64 xx] 30)).heap[w.heap.size]? = some (.cells #[.int .i64 lun, .int .i64 block, .int .i64 xx] 30 (0, 0)) := heap_alloc_new w _
  go_enter Tryz.func7, Tryz.ntmps7
  go_upto_region 1 with (fail)
  generalize w.alloc (.cells #[.int .i64 lun, .int .i64 block, .int .i64 xx] 30) = w0 at hb0 hx0 ⊢
  obtain ⟨x0, hx0e⟩ : ∃ x0, w.heap.size = x0 := ⟨_, rfl⟩
  rw [hx0e] at hx0 ⊢
  have hxl := (Array.getElem?_eq_some_iff.1 hx0).1
  have HC := Lib.hid (fun W (hW : Below w0.heap.size w0 W) => (show W.cell? ⟨x0, 0, none⟩ = some (.int .i64 lun) ∧ W.cell? ⟨x0, 1, none⟩ = some (.int .i64 block) ∧ W.cell? ⟨x0, 2, none⟩ = some (.int .i64 xx) by
    have h := (hW.block x0 hxl).trans hx0
    refine ⟨?_, ?_, ?_⟩ <;> rw [cell_of_row W x0 _ _ _ _ h] <;> rfl))
  have Hx0e := Lib.hid hx0e
  clear hx0 hxl hx0e
  go_wp2_with (first
    | (go_at_call 13; refine (stands9_any _).mono ?_))
  rintro e w1 ⟨rfl, hb1⟩
  have hg := fun (W : World) => Get_of (get1_bad (w := W) (.pointer none) lun block (has_nil lun block))
  have Hg := Lib.hid hg
  obtain ⟨c0, c1, _⟩ := HC.out w1 hb1
  clear hg
  go_wp2_with (first
    | (go_at_call 21; refine (Hg.out _).mono ?_))
  rintro e w2 ⟨va, rfl, hEa, hb2⟩
  have hb02 := hb1.trans (hb2.mono hb1.size)
  clear Hg c0 c1 hb1 hb2
  go_wp2_with (first
    | (go_at_call 16; refine Nodes_nil.mono ?_))
  rintro e w3 ⟨vb, rfl, hEb, hb3⟩
  have hEa := hEa.below hb3
  have hb03 := hb02.trans (hb3.mono hb02.size)
  have Hnw := Lib.hid (own_new (B := w3.heap.size) (w0 := w3) (w := w3) 140 (by omega) (by omega) (Below.refl _ _) (Nat.le_refl _))
  clear hb02 hb3
  go_wp2_with (first
    | (go_at_call 22; refine Hnw.out.mono ?_))
  rintro e w4 ⟨gd, rfl, hD4⟩
  have Hm := Lib.hid (hD4.mountNew (D := 140) (n := 100) (by omega) (by omega) (by omega) (by omega))
  clear hD4 Hnw
  go_wp2_with (first
    | (go_at_call 23; refine Hm.out.mono ?_))
  rintro e w5 ⟨g, rfl, hB5⟩
  have hpg := hB5.pages
  rw [bk140] at hpg
  have hb35 := hB5.bel
  have hb05 := hb03.trans (hb35.mono hb03.size)
  have hEa := hEa.below hb35
  have hEb := hEb.below hb35
  clear hb35 hb03 hB5 Hm
  have Hn := Lib.hid (rNew_bad hpg (by omega) first n hf (by omega))
  clear hpg
  go_wp2_with (first
    | (go_at_call 24; refine Hn.out.mono ?_))
  rintro e w6 ⟨v6, rfl, hE6, hb56⟩
  have q1 : ¬ (0 ≤ first) := by omega

  have hb06 := hb05.trans (hb56.mono hb05.size)
  have hEa := hEa.below hb56
  have hEb := hEb.below hb56
  have Hs := Lib.hid (fun (W : World) => rSet_arg (set1_bad (w := W) (.pointer none) lun block xx (has_nil lun block)))
  have hL6 := (hL.below hpos hb0).below (hL.below hpos hb0).pos hb06
  clear Hn hb56 hb05
  go_wp2_with (first
    | (go_at_call 28; refine (num9 1 va _ hL6 hEa).mono ?_))
  rintro e w7 ⟨rfl, hb7⟩
  have hb07 := hb06.trans (hb7.mono hb06.size)
  have hEb := hEb.below hb7
  have hE7 := hE6.below hb7
  have hL7 := hL6.below hL6.pos hb7
  clear hEa hb7 hb06 hL6 hE6
  go_wp2_with (first
    | (go_at_call 28; refine (num9 1 vb _ hL7 hEb).mono ?_))
  rintro e w8 ⟨rfl, hb8⟩
  have hb08 := hb07.trans (hb8.mono hb07.size)
  have hE8 := hE7.below hb8
  have hL8 := hL7.below hL7.pos hb8
  obtain ⟨c0, c1, c2⟩ := HC.out w8 hb08
  clear hEb hb8 hb07 hL7 hE7
  go_wp2_with (first
    | (go_at_call 19; refine (Hs.out _).mono ?_))
  rintro e w9 ⟨vs, rfl, hEs, hb9⟩
  have hb09 := hb08.trans (hb9.mono hb08.size)
  have hE9 := hE8.below hb9
  have hL9 := hL8.below hL8.pos hb9
  clear hb9 hb08 hL8 hE8 c0 c1 c2 Hs
  go_wp2_with (first
    | (go_at_call 28; refine (num9 1 vs _ hL9 hEs).mono ?_))
  rintro e wa ⟨rfl, hba⟩
  have hb0a := hb09.trans (hba.mono hb09.size)
  have hEa := hE9.below hba
  have hLa := hL9.below hL9.pos hba
  clear hba hb09 hL9 hE9 hEs
  go_wp2_with (first
    | (go_at_call 28; refine (num9 1 v6 _ hLa hEa).mono ?_))
  rintro e wb ⟨rfl, hbb⟩
  have hb0b := hb0a.trans (hbb.mono hb0a.size)
  have hEb := hEa.below hbb
  have hLb := hLa.below hLa.pos hbb
  clear hbb hb0a hLa hEa
  go_wp2_with (first
    | (go_at_call 28; refine (num9 1 v6 _ hLb hEb).mono ?_))
  rintro e wc ⟨rfl, hbc⟩
  have hb0c := hb0b.trans (hbc.mono hb0b.size)
  have Hfin := Lib.hid (hb0.trans (hb0c.mono hb0.size))
  clear hb0c hb0b hbc hLb hEb hb0
  go_wp2
  go_ret
  exact ⟨rfl, by first | exact Hfin.out | (rw [Hx0e.out]; exact Hfin.out) | (rw [← Hx0e.out]; exact Hfin.out)⟩
set_option maxRecDepth 100000 in
set_option maxHeartbeats 8000000 in
theorem rnone_b2 (first n lun block xx : Int) (hf : -9223372036854775808 ≤ first ∧ first ≤ 9223372036854775807) (hn : -9223372036854775808 ≤ n ∧ n ≤ 9223372036854775807) (h1 : 0 ≤ first) (h2 : n < 1) (w : World) (hL : Laid w) :
    Calls Tryz.prog 7 #[.int .i64 first, .int .i64 n, callV lun block xx] w fun e w' => e = .returned (.bool true) ∧ Below w.heap.size w w' := by
  have hpos := hL.pos
  unfold callV
  have hb0 : Below w.heap.size w (w.alloc (.cells #[.int .i64 lun, .int .i64 block, .int .i64 xx] 30)) := (Below.refl _ _).alloc (Nat.le_refl _) _
  have hx0 : (w.alloc (.cells #[.int .i64 lun, .int .i64 block, .int .i64 xx] 30)).heap[w.heap.size]? = some (.cells #[.int .i64 lun, .int .i64 block, .int .i64 xx] 30 (0, 0)) := heap_alloc_new w _
  go_enter Tryz.func7, Tryz.ntmps7
  go_upto_region 1 with (fail)
  generalize w.alloc (.cells #[.int .i64 lun, .int .i64 block, .int .i64 xx] 30) = w0 at hb0 hx0 ⊢
  obtain ⟨x0, hx0e⟩ : ∃ x0, w.heap.size = x0 := ⟨_, rfl⟩
  rw [hx0e] at hx0 ⊢
  have hxl := (Array.getElem?_eq_some_iff.1 hx0).1
  have HC := Lib.hid (fun W (hW : Below w0.heap.size w0 W) => (show W.cell? ⟨x0, 0, none⟩ = some (.int .i64 lun) ∧ W.cell? ⟨x0, 1, none⟩ = some (.int .i64 block) ∧ W.cell? ⟨x0, 2, none⟩ = some (.int .i64 xx) by
    have h := (hW.block x0 hxl).trans hx0
    refine ⟨?_, ?_, ?_⟩ <;> rw [cell_of_row W x0 _ _ _ _ h] <;> rfl))
  have Hx0e := Lib.hid hx0e
  clear hx0 hxl hx0e
  go_wp2_with (first
    | (go_at_call 13; refine (stands9_any _).mono ?_))
  rintro e w1 ⟨rfl, hb1⟩
  have hg := fun (W : World) => Get_of (get1_bad (w := W) (.pointer none) lun block (has_nil lun block))
  have Hg := Lib.hid hg
  obtain ⟨c0, c1, _⟩ := HC.out w1 hb1
  clear hg
  go_wp2_with (first
    | (go_at_call 21; refine (Hg.out _).mono ?_))
  rintro e w2 ⟨va, rfl, hEa, hb2⟩
  have hb02 := hb1.trans (hb2.mono hb1.size)
  clear Hg c0 c1 hb1 hb2
  go_wp2_with (first
    | (go_at_call 16; refine Nodes_nil.mono ?_))
  rintro e w3 ⟨vb, rfl, hEb, hb3⟩
  have hEa := hEa.below hb3
  have hb03 := hb02.trans (hb3.mono hb02.size)
  have Hnw := Lib.hid (own_new (B := w3.heap.size) (w0 := w3) (w := w3) 140 (by omega) (by omega) (Below.refl _ _) (Nat.le_refl _))
  clear hb02 hb3
  go_wp2_with (first
    | (go_at_call 22; refine Hnw.out.mono ?_))
  rintro e w4 ⟨gd, rfl, hD4⟩
  have Hm := Lib.hid (hD4.mountNew (D := 140) (n := 100) (by omega) (by omega) (by omega) (by omega))
  clear hD4 Hnw
  go_wp2_with (first
    | (go_at_call 23; refine Hm.out.mono ?_))
  rintro e w5 ⟨g, rfl, hB5⟩
  have hpg := hB5.pages
  rw [bk140] at hpg
  have hb35 := hB5.bel
  have hb05 := hb03.trans (hb35.mono hb03.size)
  have hEa := hEa.below hb35
  have hEb := hEb.below hb35
  clear hb35 hb03 hB5 Hm
  have Hn := Lib.hid (rNew_bad hpg (by omega) first n hf (by omega))
  clear hpg
  go_wp2_with (first
    | (go_at_call 24; refine Hn.out.mono ?_))
  rintro e w6 ⟨v6, rfl, hE6, hb56⟩
  have q2 : ¬ (1 ≤ n) := by omega

  have hb06 := hb05.trans (hb56.mono hb05.size)
  have hEa := hEa.below hb56
  have hEb := hEb.below hb56
  have Hs := Lib.hid (fun (W : World) => rSet_arg (set1_bad (w := W) (.pointer none) lun block xx (has_nil lun block)))
  have hL6 := (hL.below hpos hb0).below (hL.below hpos hb0).pos hb06
  clear Hn hb56 hb05
  go_wp2_with (first
    | (go_at_call 28; refine (num9 1 va _ hL6 hEa).mono ?_))
  rintro e w7 ⟨rfl, hb7⟩
  have hb07 := hb06.trans (hb7.mono hb06.size)
  have hEb := hEb.below hb7
  have hE7 := hE6.below hb7
  have hL7 := hL6.below hL6.pos hb7
  clear hEa hb7 hb06 hL6 hE6
  go_wp2_with (first
    | (go_at_call 28; refine (num9 1 vb _ hL7 hEb).mono ?_))
  rintro e w8 ⟨rfl, hb8⟩
  have hb08 := hb07.trans (hb8.mono hb07.size)
  have hE8 := hE7.below hb8
  have hL8 := hL7.below hL7.pos hb8
  obtain ⟨c0, c1, c2⟩ := HC.out w8 hb08
  clear hEb hb8 hb07 hL7 hE7
  go_wp2_with (first
    | (go_at_call 19; refine (Hs.out _).mono ?_))
  rintro e w9 ⟨vs, rfl, hEs, hb9⟩
  have hb09 := hb08.trans (hb9.mono hb08.size)
  have hE9 := hE8.below hb9
  have hL9 := hL8.below hL8.pos hb9
  clear hb9 hb08 hL8 hE8 c0 c1 c2 Hs
  go_wp2_with (first
    | (go_at_call 28; refine (num9 1 vs _ hL9 hEs).mono ?_))
  rintro e wa ⟨rfl, hba⟩
  have hb0a := hb09.trans (hba.mono hb09.size)
  have hEa := hE9.below hba
  have hLa := hL9.below hL9.pos hba
  clear hba hb09 hL9 hE9 hEs
  go_wp2_with (first
    | (go_at_call 28; refine (num9 1 v6 _ hLa hEa).mono ?_))
  rintro e wb ⟨rfl, hbb⟩
  have hb0b := hb0a.trans (hbb.mono hb0a.size)
  have hEb := hEa.below hbb
  have hLb := hLa.below hLa.pos hbb
  clear hbb hb0a hLa hEa
  go_wp2_with (first
    | (go_at_call 28; refine (num9 1 v6 _ hLb hEb).mono ?_))
  rintro e wc ⟨rfl, hbc⟩
  have hb0c := hb0b.trans (hbc.mono hb0b.size)
  have Hfin := Lib.hid (hb0.trans (hb0c.mono hb0.size))
  clear hb0c hb0b hbc hLb hEb hb0
  go_wp2
  go_ret
  exact ⟨rfl, by first | exact Hfin.out | (rw [Hx0e.out]; exact Hfin.out) | (rw [← Hx0e.out]; exact Hfin.out)⟩
set_option maxRecDepth 100000 in
set_option maxHeartbeats 8000000 in
theorem rnone_b3 (first n lun block xx : Int) (hf : -9223372036854775808 ≤ first ∧ first ≤ 9223372036854775807) (hn : -9223372036854775808 ≤ n ∧ n ≤ 9223372036854775807) (h1 : 0 ≤ first) (h2 : 4095 < n) (w : World) (hL : Laid w) :
    Calls Tryz.prog 7 #[.int .i64 first, .int .i64 n, callV lun block xx] w fun e w' => e = .returned (.bool true) ∧ Below w.heap.size w w' := by
  have hpos := hL.pos
  unfold callV
  have hb0 : Below w.heap.size w (w.alloc (.cells #[.int .i64 lun, .int .i64 block, .int .i64 xx] 30)) := (Below.refl _ _).alloc (Nat.le_refl _) _
  have hx0 : (w.alloc (.cells #[.int .i64 lun, .int .i64 block, .int .i64 xx] 30)).heap[w.heap.size]? = some (.cells #[.int .i64 lun, .int .i64 block, .int .i64 xx] 30 (0, 0)) := heap_alloc_new w _
  go_enter Tryz.func7, Tryz.ntmps7
  go_upto_region 1 with (fail)
  generalize w.alloc (.cells #[.int .i64 lun, .int .i64 block, .int .i64 xx] 30) = w0 at hb0 hx0 ⊢
  obtain ⟨x0, hx0e⟩ : ∃ x0, w.heap.size = x0 := ⟨_, rfl⟩
  rw [hx0e] at hx0 ⊢
  have hxl := (Array.getElem?_eq_some_iff.1 hx0).1
  have HC := Lib.hid (fun W (hW : Below w0.heap.size w0 W) => (show W.cell? ⟨x0, 0, none⟩ = some (.int .i64 lun) ∧ W.cell? ⟨x0, 1, none⟩ = some (.int .i64 block) ∧ W.cell? ⟨x0, 2, none⟩ = some (.int .i64 xx) by
    have h := (hW.block x0 hxl).trans hx0
    refine ⟨?_, ?_, ?_⟩ <;> rw [cell_of_row W x0 _ _ _ _ h] <;> rfl))
  have Hx0e := Lib.hid hx0e
  clear hx0 hxl hx0e
  go_wp2_with (first
    | (go_at_call 13; refine (stands9_any _).mono ?_))
  rintro e w1 ⟨rfl, hb1⟩
  have hg := fun (W : World) => Get_of (get1_bad (w := W) (.pointer none) lun block (has_nil lun block))
  have Hg := Lib.hid hg
  obtain ⟨c0, c1, _⟩ := HC.out w1 hb1
  clear hg
  go_wp2_with (first
    | (go_at_call 21; refine (Hg.out _).mono ?_))
  rintro e w2 ⟨va, rfl, hEa, hb2⟩
  have hb02 := hb1.trans (hb2.mono hb1.size)
  clear Hg c0 c1 hb1 hb2
  go_wp2_with (first
    | (go_at_call 16; refine Nodes_nil.mono ?_))
  rintro e w3 ⟨vb, rfl, hEb, hb3⟩
  have hEa := hEa.below hb3
  have hb03 := hb02.trans (hb3.mono hb02.size)
  have Hnw := Lib.hid (own_new (B := w3.heap.size) (w0 := w3) (w := w3) 140 (by omega) (by omega) (Below.refl _ _) (Nat.le_refl _))
  clear hb02 hb3
  go_wp2_with (first
    | (go_at_call 22; refine Hnw.out.mono ?_))
  rintro e w4 ⟨gd, rfl, hD4⟩
  have Hm := Lib.hid (hD4.mountNew (D := 140) (n := 100) (by omega) (by omega) (by omega) (by omega))
  clear hD4 Hnw
  go_wp2_with (first
    | (go_at_call 23; refine Hm.out.mono ?_))
  rintro e w5 ⟨g, rfl, hB5⟩
  have hpg := hB5.pages
  rw [bk140] at hpg
  have hb35 := hB5.bel
  have hb05 := hb03.trans (hb35.mono hb03.size)
  have hEa := hEa.below hb35
  have hEb := hEb.below hb35
  clear hb35 hb03 hB5 Hm
  have Hn := Lib.hid (rNew_bad hpg (by omega) first n hf (by omega))
  clear hpg
  go_wp2_with (first
    | (go_at_call 24; refine Hn.out.mono ?_))
  rintro e w6 ⟨v6, rfl, hE6, hb56⟩
  have q2 : 1 ≤ n := by omega
  have q3 : ¬ (n ≤ 4095) := by omega

  have hb06 := hb05.trans (hb56.mono hb05.size)
  have hEa := hEa.below hb56
  have hEb := hEb.below hb56
  have Hs := Lib.hid (fun (W : World) => rSet_arg (set1_bad (w := W) (.pointer none) lun block xx (has_nil lun block)))
  have hL6 := (hL.below hpos hb0).below (hL.below hpos hb0).pos hb06
  clear Hn hb56 hb05
  go_wp2_with (first
    | (go_at_call 28; refine (num9 1 va _ hL6 hEa).mono ?_))
  rintro e w7 ⟨rfl, hb7⟩
  have hb07 := hb06.trans (hb7.mono hb06.size)
  have hEb := hEb.below hb7
  have hE7 := hE6.below hb7
  have hL7 := hL6.below hL6.pos hb7
  clear hEa hb7 hb06 hL6 hE6
  go_wp2_with (first
    | (go_at_call 28; refine (num9 1 vb _ hL7 hEb).mono ?_))
  rintro e w8 ⟨rfl, hb8⟩
  have hb08 := hb07.trans (hb8.mono hb07.size)
  have hE8 := hE7.below hb8
  have hL8 := hL7.below hL7.pos hb8
  obtain ⟨c0, c1, c2⟩ := HC.out w8 hb08
  clear hEb hb8 hb07 hL7 hE7
  go_wp2_with (first
    | (go_at_call 19; refine (Hs.out _).mono ?_))
  rintro e w9 ⟨vs, rfl, hEs, hb9⟩
  have hb09 := hb08.trans (hb9.mono hb08.size)
  have hE9 := hE8.below hb9
  have hL9 := hL8.below hL8.pos hb9
  clear hb9 hb08 hL8 hE8 c0 c1 c2 Hs
  go_wp2_with (first
    | (go_at_call 28; refine (num9 1 vs _ hL9 hEs).mono ?_))
  rintro e wa ⟨rfl, hba⟩
  have hb0a := hb09.trans (hba.mono hb09.size)
  have hEa := hE9.below hba
  have hLa := hL9.below hL9.pos hba
  clear hba hb09 hL9 hE9 hEs
  go_wp2_with (first
    | (go_at_call 28; refine (num9 1 v6 _ hLa hEa).mono ?_))
  rintro e wb ⟨rfl, hbb⟩
  have hb0b := hb0a.trans (hbb.mono hb0a.size)
  have hEb := hEa.below hbb
  have hLb := hLa.below hLa.pos hbb
  clear hbb hb0a hLa hEa
  go_wp2_with (first
    | (go_at_call 28; refine (num9 1 v6 _ hLb hEb).mono ?_))
  rintro e wc ⟨rfl, hbc⟩
  have hb0c := hb0b.trans (hbc.mono hb0b.size)
  have Hfin := Lib.hid (hb0.trans (hb0c.mono hb0.size))
  clear hb0c hb0b hbc hLb hEb hb0
  go_wp2
  go_ret
  exact ⟨rfl, by first | exact Hfin.out | (rw [Hx0e.out]; exact Hfin.out) | (rw [← Hx0e.out]; exact Hfin.out)⟩
set_option maxRecDepth 100000 in
set_option maxHeartbeats 8000000 in
theorem rnone_b4 (first n lun block xx : Int) (hf : -9223372036854775808 ≤ first ∧ first ≤ 9223372036854775807) (hn : -9223372036854775808 ≤ n ∧ n ≤ 9223372036854775807) (h1 : 0 ≤ first) (h2 : 1 ≤ n) (h3 : n ≤ 4095) (h4 : 37 - n < first) (w : World) (hL : Laid w) :
    Calls Tryz.prog 7 #[.int .i64 first, .int .i64 n, callV lun block xx] w fun e w' => e = .returned (.bool true) ∧ Below w.heap.size w w' := by
  have hpos := hL.pos
  unfold callV
  have hb0 : Below w.heap.size w (w.alloc (.cells #[.int .i64 lun, .int .i64 block, .int .i64 xx] 30)) := (Below.refl _ _).alloc (Nat.le_refl _) _
  have hx0 : (w.alloc (.cells #[.int .i64 lun, .int .i64 block, .int .i64 xx] 30)).heap[w.heap.size]? = some (.cells #[.int .i64 lun, .int .i64 block, .int .i64 xx] 30 (0, 0)) := heap_alloc_new w _
  go_enter Tryz.func7, Tryz.ntmps7
  go_upto_region 1 with (fail)
  generalize w.alloc (.cells #[.int .i64 lun, .int .i64 block, .int .i64 xx] 30) = w0 at hb0 hx0 ⊢
  obtain ⟨x0, hx0e⟩ : ∃ x0, w.heap.size = x0 := ⟨_, rfl⟩
  rw [hx0e] at hx0 ⊢
  have hxl := (Array.getElem?_eq_some_iff.1 hx0).1
  have HC := Lib.hid (fun W (hW : Below w0.heap.size w0 W) => (show W.cell? ⟨x0, 0, none⟩ = some (.int .i64 lun) ∧ W.cell? ⟨x0, 1, none⟩ = some (.int .i64 block) ∧ W.cell? ⟨x0, 2, none⟩ = some (.int .i64 xx) by
    have h := (hW.block x0 hxl).trans hx0
    refine ⟨?_, ?_, ?_⟩ <;> rw [cell_of_row W x0 _ _ _ _ h] <;> rfl))
  have Hx0e := Lib.hid hx0e
  clear hx0 hxl hx0e
  go_wp2_with (first
    | (go_at_call 13; refine (stands9_any _).mono ?_))
  rintro e w1 ⟨rfl, hb1⟩
  have hg := fun (W : World) => Get_of (get1_bad (w := W) (.pointer none) lun block (has_nil lun block))
  have Hg := Lib.hid hg
  obtain ⟨c0, c1, _⟩ := HC.out w1 hb1
  clear hg
  go_wp2_with (first
    | (go_at_call 21; refine (Hg.out _).mono ?_))
  rintro e w2 ⟨va, rfl, hEa, hb2⟩
  have hb02 := hb1.trans (hb2.mono hb1.size)
  clear Hg c0 c1 hb1 hb2
  go_wp2_with (first
    | (go_at_call 16; refine Nodes_nil.mono ?_))
  rintro e w3 ⟨vb, rfl, hEb, hb3⟩
  have hEa := hEa.below hb3
  have hb03 := hb02.trans (hb3.mono hb02.size)
  have Hnw := Lib.hid (own_new (B := w3.heap.size) (w0 := w3) (w := w3) 140 (by omega) (by omega) (Below.refl _ _) (Nat.le_refl _))
  clear hb02 hb3
  go_wp2_with (first
    | (go_at_call 22; refine Hnw.out.mono ?_))
  rintro e w4 ⟨gd, rfl, hD4⟩
  have Hm := Lib.hid (hD4.mountNew (D := 140) (n := 100) (by omega) (by omega) (by omega) (by omega))
  clear hD4 Hnw
  go_wp2_with (first
    | (go_at_call 23; refine Hm.out.mono ?_))
  rintro e w5 ⟨g, rfl, hB5⟩
  have hpg := hB5.pages
  rw [bk140] at hpg
  have hb35 := hB5.bel
  have hb05 := hb03.trans (hb35.mono hb03.size)
  have hEa := hEa.below hb35
  have hEb := hEb.below hb35
  clear hb35 hb03 hB5 Hm
  have Hn := Lib.hid (rNew_bad hpg (by omega) first n hf (by omega))
  clear hpg
  go_wp2_with (first
    | (go_at_call 24; refine Hn.out.mono ?_))
  rintro e w6 ⟨v6, rfl, hE6, hb56⟩
  have q4 : IntKind.i64.wrap (37 - n) = 37 - n := IntWalk.i64_in _ (by omega)
  have q5 : decide (first ≤ 37 - n) = false := decide_eq_false (by omega)

  have hb06 := hb05.trans (hb56.mono hb05.size)
  have hEa := hEa.below hb56
  have hEb := hEb.below hb56
  have Hs := Lib.hid (fun (W : World) => rSet_arg (set1_bad (w := W) (.pointer none) lun block xx (has_nil lun block)))
  have hL6 := (hL.below hpos hb0).below (hL.below hpos hb0).pos hb06
  clear Hn hb56 hb05
  go_wp2_with (first
    | (go_at_call 28; refine (num9 1 va _ hL6 hEa).mono ?_))
  rintro e w7 ⟨rfl, hb7⟩
  have hb07 := hb06.trans (hb7.mono hb06.size)
  have hEb := hEb.below hb7
  have hE7 := hE6.below hb7
  have hL7 := hL6.below hL6.pos hb7
  clear hEa hb7 hb06 hL6 hE6
  go_wp2_with (first
    | (go_at_call 28; refine (num9 1 vb _ hL7 hEb).mono ?_))
  rintro e w8 ⟨rfl, hb8⟩
  have hb08 := hb07.trans (hb8.mono hb07.size)
  have hE8 := hE7.below hb8
  have hL8 := hL7.below hL7.pos hb8
  obtain ⟨c0, c1, c2⟩ := HC.out w8 hb08
  clear hEb hb8 hb07 hL7 hE7
  go_wp2_with (first
    | (go_at_call 19; refine (Hs.out _).mono ?_))
  rintro e w9 ⟨vs, rfl, hEs, hb9⟩
  have hb09 := hb08.trans (hb9.mono hb08.size)
  have hE9 := hE8.below hb9
  have hL9 := hL8.below hL8.pos hb9
  clear hb9 hb08 hL8 hE8 c0 c1 c2 Hs
  go_wp2_with (first
    | (go_at_call 28; refine (num9 1 vs _ hL9 hEs).mono ?_))
  rintro e wa ⟨rfl, hba⟩
  have hb0a := hb09.trans (hba.mono hb09.size)
  have hEa := hE9.below hba
  have hLa := hL9.below hL9.pos hba
  clear hba hb09 hL9 hE9 hEs
  go_wp2_with (first
    | (go_at_call 28; refine (num9 1 v6 _ hLa hEa).mono ?_))
  rintro e wb ⟨rfl, hbb⟩
  have hb0b := hb0a.trans (hbb.mono hb0a.size)
  have hEb := hEa.below hbb
  have hLb := hLa.below hLa.pos hbb
  clear hbb hb0a hLa hEa
  go_wp2_with (first
    | (go_at_call 28; refine (num9 1 v6 _ hLb hEb).mono ?_))
  rintro e wc ⟨rfl, hbc⟩
  have hb0c := hb0b.trans (hbc.mono hb0b.size)
  have Hfin := Lib.hid (hb0.trans (hb0c.mono hb0.size))
  clear hb0c hb0b hbc hLb hEb hb0
  go_wp2
  go_ret
  exact ⟨rfl, by first | exact Hfin.out | (rw [Hx0e.out]; exact Hfin.out) | (rw [← Hx0e.out]; exact Hfin.out)⟩
theorem radixNone_any (first n lun block xx : Int) (hf : -9223372036854775808 ≤ first ∧ first ≤ 9223372036854775807) (hn : -9223372036854775808 ≤ n ∧ n ≤ 9223372036854775807) (w : World) (hL : Laid w) :
    Calls Tryz.prog 7 #[.int .i64 first, .int .i64 n, callV lun block xx] w fun e w' => e = .returned (.bool true) ∧ Below w.heap.size w w' := by
  by_cases h1 : first < 0
  · exact rnone_b1 first n lun block xx hf hn h1 w hL
  by_cases h2 : n < 1
  · exact rnone_b2 first n lun block xx hf hn (by omega) h2 w hL
  by_cases h3 : 4095 < n
  · exact rnone_b3 first n lun block xx hf hn (by omega) h3 w hL
  by_cases h4 : 37 - n < first
  · exact rnone_b4 first n lun block xx hf hn (by omega) (by omega) (by omega) h4 w hL
  · exact rnone_ok first n lun block xx hf hn (by omega) (by omega) (by omega) (by omega) w hL
end Go.Proofs.YtfagnbjjffjcbaaGreatDoor
