/-
  'PagesNone': its walk.
-/
import Derived.Test.YticdanndfogjfaaGreatDoorBkStands
set_option linter.unusedSimpArgs false
set_option linter.unusedVariables false
namespace Go.Proofs.YticdanndfogjfaaGreatDoor
open Go.RowKit Sh Go.Maps Go.Extern.Stop Go.Stop Go.Extern

theorem psize_none (w : World) : Calls Tryz.prog 81 #[.pointer none] w fun e w' => e = .returned (.int .i64 (0 : Nat)) ∧ w = w' := (size_nil w).mono fun _ _ ⟨h1, h2⟩ => ⟨h1, h2.symm⟩
set_option maxRecDepth 100000 in
set_option maxHeartbeats 8000000 in
theorem pnone_new (size sectors i : Int) (hsz : -9223372036854775808 ≤ size ∧ size ≤ 9223372036854775807) (hs : sectors < 1 ∨ 4096 < sectors) (w : World) (hL : Laid w) :
    Calls Tryz.prog 4 #[.int .i64 size, .int .i64 sectors, .int .i64 i] w fun e w' => e = .returned (.bool true) ∧ Below w.heap.size w w' := by
  have hpos := hL.pos
  obtain ⟨zl, Hzl⟩ : ∃ zl : List Value, Hid (zl = (List.replicate 64 (0 : UInt8)).map cu8) := ⟨_, rfl⟩
  have hzV : pageV (List.replicate 64 0) = .agg zl.toArray := by rw [Hzl.out]; rfl
  have hbz : Hid (Tryz.prog.built 37 [] = some zl.toArray) := by rw [Hzl.out, ← zerosV]; exact built64
  have hzi : Hid ((Tryz.prog.info? 37).map (·.size) = some zl.toArray.size) := by rw [Hzl.out]; exact pageInfo (by simp)
  have hzz : Hid (zeros64.size = zl.toArray.size) := by rw [Hzl.out]; exact pageZ (by simp)
  have hz1 : Hid (zl.toArray.all (·.oneCell') = true) := by rw [Hzl.out]; exact bytes_one _
  have hrd : ∀ W : World, Calls Tryz.prog 24 #[.pointer none, .int .i64 i] W fun e w' => ∃ v, e = .returned (.tuple #[.agg zl.toArray, v]) ∧ ErrV w' 10 v ∧ Below W.heap.size W w' := fun W => (Read_nil W i).mono fun e w' ⟨v, h1, h2, h3⟩ => ⟨v, by rw [h1, hzV], h2, h3⟩
  have hwr := fun W => Write_nil W i (List.replicate 64 0) (by simp)
  simp only [hzV] at hwr
  have Hrd := Lib.hid hrd; have Hwr := Lib.hid hwr
  clear hrd hwr hzV
  go_enter Tryz.func4, Tryz.ntmps4
  go_wp2_with (first
    | (go_at_call 15; refine (stands6_any _).mono ?_; rintro e w1 ⟨rfl, hb1⟩)
    | (go_at_call 20; refine (undo_nil _).mono ?_; rintro e w' ⟨rfl, rfl⟩)
    | (go_at_call 24; refine (Hrd.out _).mono ?_))
  rintro e w2 ⟨vr, rfl, hEr, hb2⟩
  have s1 := hb1.size
  have hb02 := hb1.trans (hb2.mono s1)
  have s2 := hb02.size
  clear hb1 hb2 Hrd
  go_upto_region 6 with (first
    | (refine wpList_alloc_arr rfl 37 rfl _ alloc64 ?_)
    | (refine wpList_store_new rfl 37 _ _ rfl w2.heap.size rfl zl.toArray rfl rfl 37 _ hzi.out hzz.out hz1.out ?_))
  have hba : Below w2.heap.size w2 (w2.alloc (.cells zl.toArray 37)) := (Below.refl _ _).alloc (Nat.le_refl _) _
  have hEr3 := hEr.below hba
  have hb03 := hb02.trans (hba.mono s2)
  generalize w2.alloc (.cells zl.toArray 37) = w3 at hba hEr3 hb03 ⊢
  generalize w2.heap.size = x3
  have s3 := hb03.size
  clear hba hEr hb02 hzi hzz hz1
  go_wp2_with (first
    | (go_at_call 17; refine (pnew_bad sectors hs _).mono ?_))
  rintro e w4 ⟨v4, rfl, hE4, hb4⟩
  obtain ⟨t4, z4, rfl⟩ := hE4.held (by decide)
  have hq4 := neq_held t4 z4
  have hb04 := hb03.trans (hb4.mono s3)
  have s4 := hb04.size
  have Hm := Lib.hid (Mount_bad (w := w4) (.pointer none) 0 (by omega) (psize_none w4) size (by omega))
  clear hb03 hb4 hE4 hEr3
  go_wp2_with (first
    | (go_at_call 18; refine Hm.out.mono ?_))
  rintro e w5 ⟨v5, rfl, hE5, hb5⟩
  have hb05 := hb04.trans (hb5.mono s4)
  have s5 := hb05.size

  clear Hm hb5 hb04
  go_wp2_with (first
    | (go_at_call 25; refine (num_any 1 v5 _ (hL.below hpos hb05) hE5).mono ?_))
  rintro e w6 ⟨rfl, hb6⟩
  have hb06 := hb05.trans (hb6.mono s5)
  go_wp2
  go_ret
  exact ⟨rfl, hb06⟩
set_option maxRecDepth 100000 in
set_option maxHeartbeats 8000000 in
theorem pnone_ok (size sectors i : Int) (hsz : -9223372036854775808 ≤ size ∧ size ≤ 9223372036854775807) (hs : 1 ≤ sectors ∧ sectors ≤ 4096) (h1 : 96 ≤ size) (h2 : size ≤ 4096) (h3 : 3 + size ≤ sectors) (w : World) (hL : Laid w) :
    Calls Tryz.prog 4 #[.int .i64 size, .int .i64 sectors, .int .i64 i] w fun e w' => e = .returned (.bool true) ∧ Below w.heap.size w w' := by
  have hpos := hL.pos
  obtain ⟨zl, Hzl⟩ : ∃ zl : List Value, Hid (zl = (List.replicate 64 (0 : UInt8)).map cu8) := ⟨_, rfl⟩
  have hzV : pageV (List.replicate 64 0) = .agg zl.toArray := by rw [Hzl.out]; rfl
  have hbz : Hid (Tryz.prog.built 37 [] = some zl.toArray) := by rw [Hzl.out, ← zerosV]; exact built64
  have hzi : Hid ((Tryz.prog.info? 37).map (·.size) = some zl.toArray.size) := by rw [Hzl.out]; exact pageInfo (by simp)
  have hzz : Hid (zeros64.size = zl.toArray.size) := by rw [Hzl.out]; exact pageZ (by simp)
  have hz1 : Hid (zl.toArray.all (·.oneCell') = true) := by rw [Hzl.out]; exact bytes_one _
  have hrd : ∀ W : World, Calls Tryz.prog 24 #[.pointer none, .int .i64 i] W fun e w' => ∃ v, e = .returned (.tuple #[.agg zl.toArray, v]) ∧ ErrV w' 10 v ∧ Below W.heap.size W w' := fun W => (Read_nil W i).mono fun e w' ⟨v, h1, h2, h3⟩ => ⟨v, by rw [h1, hzV], h2, h3⟩
  have hwr := fun W => Write_nil W i (List.replicate 64 0) (by simp)
  simp only [hzV] at hwr
  have Hrd := Lib.hid hrd; have Hwr := Lib.hid hwr
  clear hrd hwr hzV
  go_enter Tryz.func4, Tryz.ntmps4
  go_wp2_with (first
    | (go_at_call 15; refine (stands6_any _).mono ?_; rintro e w1 ⟨rfl, hb1⟩)
    | (go_at_call 20; refine (undo_nil _).mono ?_; rintro e w' ⟨rfl, rfl⟩)
    | (go_at_call 24; refine (Hrd.out _).mono ?_))
  rintro e w2 ⟨vr, rfl, hEr, hb2⟩
  have s1 := hb1.size
  have hb02 := hb1.trans (hb2.mono s1)
  have s2 := hb02.size
  clear hb1 hb2 Hrd
  go_upto_region 6 with (first
    | (refine wpList_alloc_arr rfl 37 rfl _ alloc64 ?_)
    | (refine wpList_store_new rfl 37 _ _ rfl w2.heap.size rfl zl.toArray rfl rfl 37 _ hzi.out hzz.out hz1.out ?_))
  have hba : Below w2.heap.size w2 (w2.alloc (.cells zl.toArray 37)) := (Below.refl _ _).alloc (Nat.le_refl _) _
  have hEr3 := hEr.below hba
  have hb03 := hb02.trans (hba.mono s2)
  generalize w2.alloc (.cells zl.toArray 37) = w3 at hba hEr3 hb03 ⊢
  generalize w2.heap.size = x3
  have s3 := hb03.size
  clear hba hEr hb02 hzi hzz hz1
  obtain ⟨D, rfl⟩ : ∃ D : Nat, sectors = (D : Int) := ⟨sectors.toNat, by omega⟩
  have Hnw := Lib.hid (own_new (B := w3.heap.size) (w0 := w3) (w := w3) D (by omega) (by omega) (Below.refl _ _) (Nat.le_refl _))
  go_wp2_with (first
    | (go_at_call 17; refine Hnw.out.mono ?_))
  rintro e w4 ⟨gd, rfl, hD4⟩
  clear Hnw
  obtain ⟨n, rfl⟩ : ∃ n : Nat, size = (n : Int) := ⟨size.toNat, by omega⟩
  have Hm := Lib.hid (hD4.mountNew (D := D) (n := n) (by omega) (by omega) (by omega) (by omega))
  clear hD4
  go_wp2_with (first
    | (go_at_call 18; refine Hm.out.mono ?_))
  rintro e w5 ⟨g, rfl, hB5⟩
  have hb35 := hB5.bel
  have hb05 := hb03.trans (hb35.mono s3)
  have s5 := hb05.size
  have hEr5 := hEr3.below hb35
  clear hB5 Hm hb35 hEr3 hb03 s3
  go_wp2_with (first
    | (go_at_call 25; refine (num_any 10 vr _ (hL.below hpos hb05) hEr5).mono ?_))
  rintro e w6 ⟨rfl, hb6⟩
  have hb06 := hb05.trans (hb6.mono s5)
  have s6 := hb06.size
  clear hb6 hb05 s5
  go_wp2_with (first
    | (refine wpList_buildZ 37 rfl zl.toArray hbz.out (by rfl) ?_)
    | (go_at_call 19; refine (Hwr.out _).mono ?_))
  rintro e w7 ⟨x1, rfl, hx1, hb7⟩
  have hb07 := hb06.trans (hb7.mono s6)
  have s7 := hb07.size
  clear hb7 hb06 s6
  go_wp2_with (first
    | (go_at_call 25; refine (num_any 10 x1 _ (hL.below hpos hb07) hx1).mono ?_))
  rintro e w8 ⟨rfl, hb8⟩
  have hb08 := hb07.trans (hb8.mono s7)
  have s8 := hb08.size
  clear hb8 hb07 s7
  go_wp2_with (first
    | (go_at_call 22; refine (Commit_nil _).mono ?_))
  rintro e w9 ⟨x2, rfl, hx2, hb9⟩
  have hb09 := hb08.trans (hb9.mono s8)
  have s9 := hb09.size
  clear hb9 hb08 s8
  go_wp2_with (first
    | (go_at_call 25; refine (num_any 10 x2 _ (hL.below hpos hb09) hx2).mono ?_))
  rintro e w10 ⟨rfl, hb10⟩
  have hb010 := hb09.trans (hb10.mono s9)
  have s10 := hb010.size
  clear hb10 hb09 s9
  go_wp2_with (first
    | (go_at_call 26; refine (Sync_nil _).mono ?_))
  rintro e w11 ⟨x3, rfl, hx3, hb11⟩
  have hb011 := hb010.trans (hb11.mono s10)
  have s11 := hb011.size
  clear hb11 hb010 s10
  go_wp2_with (first
    | (go_at_call 25; refine (num_any 10 x3 _ (hL.below hpos hb011) hx3).mono ?_))
  rintro e w12 ⟨rfl, hb12⟩
  have hb012 := hb011.trans (hb12.mono s11)
  have s12 := hb012.size
  clear hb12 hb011 s11
  go_wp2_with (first
    | (go_at_call 23; refine (pages_nil _).mono ?_; rintro e w' ⟨rfl, rfl⟩)
    | (go_at_call 25; refine (num_nil _).mono ?_))
  rintro e w' ⟨rfl, rfl⟩
  go_wp2
  go_ret
  exact ⟨rfl, hb012⟩
set_option maxRecDepth 100000 in
set_option maxHeartbeats 8000000 in
theorem pnone_b1 (size sectors i : Int) (hsz : -9223372036854775808 ≤ size ∧ size ≤ 9223372036854775807) (hs : 1 ≤ sectors ∧ sectors ≤ 4096) (h1 : size < 96) (w : World) (hL : Laid w) :
    Calls Tryz.prog 4 #[.int .i64 size, .int .i64 sectors, .int .i64 i] w fun e w' => e = .returned (.bool true) ∧ Below w.heap.size w w' := by
  have hpos := hL.pos
  obtain ⟨zl, Hzl⟩ : ∃ zl : List Value, Hid (zl = (List.replicate 64 (0 : UInt8)).map cu8) := ⟨_, rfl⟩
  have hzV : pageV (List.replicate 64 0) = .agg zl.toArray := by rw [Hzl.out]; rfl
  have hbz : Hid (Tryz.prog.built 37 [] = some zl.toArray) := by rw [Hzl.out, ← zerosV]; exact built64
  have hzi : Hid ((Tryz.prog.info? 37).map (·.size) = some zl.toArray.size) := by rw [Hzl.out]; exact pageInfo (by simp)
  have hzz : Hid (zeros64.size = zl.toArray.size) := by rw [Hzl.out]; exact pageZ (by simp)
  have hz1 : Hid (zl.toArray.all (·.oneCell') = true) := by rw [Hzl.out]; exact bytes_one _
  have hrd : ∀ W : World, Calls Tryz.prog 24 #[.pointer none, .int .i64 i] W fun e w' => ∃ v, e = .returned (.tuple #[.agg zl.toArray, v]) ∧ ErrV w' 10 v ∧ Below W.heap.size W w' := fun W => (Read_nil W i).mono fun e w' ⟨v, h1, h2, h3⟩ => ⟨v, by rw [h1, hzV], h2, h3⟩
  have hwr := fun W => Write_nil W i (List.replicate 64 0) (by simp)
  simp only [hzV] at hwr
  have Hrd := Lib.hid hrd; have Hwr := Lib.hid hwr
  clear hrd hwr hzV
  go_enter Tryz.func4, Tryz.ntmps4
  go_wp2_with (first
    | (go_at_call 15; refine (stands6_any _).mono ?_; rintro e w1 ⟨rfl, hb1⟩)
    | (go_at_call 20; refine (undo_nil _).mono ?_; rintro e w' ⟨rfl, rfl⟩)
    | (go_at_call 24; refine (Hrd.out _).mono ?_))
  rintro e w2 ⟨vr, rfl, hEr, hb2⟩
  have s1 := hb1.size
  have hb02 := hb1.trans (hb2.mono s1)
  have s2 := hb02.size
  clear hb1 hb2 Hrd
  go_upto_region 6 with (first
    | (refine wpList_alloc_arr rfl 37 rfl _ alloc64 ?_)
    | (refine wpList_store_new rfl 37 _ _ rfl w2.heap.size rfl zl.toArray rfl rfl 37 _ hzi.out hzz.out hz1.out ?_))
  have hba : Below w2.heap.size w2 (w2.alloc (.cells zl.toArray 37)) := (Below.refl _ _).alloc (Nat.le_refl _) _
  have hEr3 := hEr.below hba
  have hb03 := hb02.trans (hba.mono s2)
  generalize w2.alloc (.cells zl.toArray 37) = w3 at hba hEr3 hb03 ⊢
  generalize w2.heap.size = x3
  have s3 := hb03.size
  clear hba hEr hb02 hzi hzz hz1
  obtain ⟨D, rfl⟩ : ∃ D : Nat, sectors = (D : Int) := ⟨sectors.toNat, by omega⟩
  have Hnw := Lib.hid (own_new (B := w3.heap.size) (w0 := w3) (w := w3) D (by omega) (by omega) (Below.refl _ _) (Nat.le_refl _))
  go_wp2_with (first
    | (go_at_call 17; refine Hnw.out.mono ?_))
  rintro e w4 ⟨gd, rfl, hD4⟩
  clear Hnw
  have hs4 : Calls Tryz.prog 81 #[.pointer (some ⟨gd, 0, none⟩)] w4 fun e w' => e = .returned (.int .i64 D) ∧ w4 = w' := by
    obtain ⟨F, hP, _⟩ := hD4.ex
    exact (pd_size hP).mono fun _ _ ⟨a1, a2⟩ => ⟨by rw [a1, dnew_len], a2.symm⟩
  have Hm := Lib.hid (Mount_bad (w := w4) (.pointer (some ⟨gd, 0, none⟩)) D (by omega) hs4 size (by omega))
  have hb34 := hD4.bel
  clear hD4 hs4
  go_wp2_with (first
    | (go_at_call 18; refine Hm.out.mono ?_))
  rintro e w5 ⟨v5, rfl, hE5, hb5⟩
  have hb35 := hb34.trans (hb5.mono hb34.size)
  have hb05 := hb03.trans (hb35.mono s3)
  have s5 := hb05.size
  have hEr5 := hEr3.below hb35
  clear Hm hb35 hEr3 hb03 s3 hb34 hb5
  have hd1 : decide (96 ≤ size) = false := decide_eq_false (by omega)
  go_wp2_with (first
    | (go_at_call 25; refine (num_any 10 vr _ (hL.below hpos hb05) hEr5).mono ?_))
  rintro e w6 ⟨rfl, hb6⟩
  have hb06 := hb05.trans (hb6.mono s5)
  have s6 := hb06.size
  have hE6 := hE5.below hb6
  clear hb6 hb05 s5
  go_wp2_with (first
    | (refine wpList_buildZ 37 rfl zl.toArray hbz.out (by rfl) ?_)
    | (go_at_call 19; refine (Hwr.out _).mono ?_))
  rintro e w7 ⟨x1, rfl, hx1, hb7⟩
  have hb07 := hb06.trans (hb7.mono s6)
  have s7 := hb07.size
  have hE7 := hE6.below hb7
  clear hb7 hb06 s6
  go_wp2_with (first
    | (go_at_call 25; refine (num_any 10 x1 _ (hL.below hpos hb07) hx1).mono ?_))
  rintro e w8 ⟨rfl, hb8⟩
  have hb08 := hb07.trans (hb8.mono s7)
  have s8 := hb08.size
  have hE8 := hE7.below hb8
  clear hb8 hb07 s7
  go_wp2_with (first
    | (go_at_call 22; refine (Commit_nil _).mono ?_))
  rintro e w9 ⟨x2, rfl, hx2, hb9⟩
  have hb09 := hb08.trans (hb9.mono s8)
  have s9 := hb09.size
  have hE9 := hE8.below hb9
  clear hb9 hb08 s8
  go_wp2_with (first
    | (go_at_call 25; refine (num_any 10 x2 _ (hL.below hpos hb09) hx2).mono ?_))
  rintro e w10 ⟨rfl, hb10⟩
  have hb010 := hb09.trans (hb10.mono s9)
  have s10 := hb010.size
  have hE10 := hE9.below hb10
  clear hb10 hb09 s9
  go_wp2_with (first
    | (go_at_call 26; refine (Sync_nil _).mono ?_))
  rintro e w11 ⟨x3, rfl, hx3, hb11⟩
  have hb011 := hb010.trans (hb11.mono s10)
  have s11 := hb011.size
  have hE11 := hE10.below hb11
  clear hb11 hb010 s10
  go_wp2_with (first
    | (go_at_call 25; refine (num_any 10 x3 _ (hL.below hpos hb011) hx3).mono ?_))
  rintro e w12 ⟨rfl, hb12⟩
  have hb012 := hb011.trans (hb12.mono s11)
  have s12 := hb012.size
  have hE12 := hE11.below hb12
  clear hb12 hb011 s11
  go_wp2_with (first
    | (go_at_call 23; refine (pages_nil _).mono ?_; rintro e w' ⟨rfl, rfl⟩)
    | (go_at_call 25; refine (num_any 1 v5 _ (hL.below hpos hb012) hE12).mono ?_))
  rintro e w13 ⟨rfl, hb13⟩
  have hb013 := hb012.trans (hb13.mono s12)
  have s13 := hb013.size
  have hE13 := hE12.below hb13
  clear hb13 hb012 s12
  go_wp2_with (first
    | (go_at_call 25; refine (num_any 1 v5 _ (hL.below hpos hb013) hE13).mono ?_))
  rintro e w14 ⟨rfl, hb14⟩
  have hb014 := hb013.trans (hb14.mono s13)
  have s14 := hb014.size
  have hE14 := hE13.below hb14
  clear hb14 hb013 s13
  go_wp2
  go_ret
  exact ⟨rfl, hb014⟩
set_option maxRecDepth 100000 in
set_option maxHeartbeats 8000000 in
theorem pnone_b2 (size sectors i : Int) (hsz : -9223372036854775808 ≤ size ∧ size ≤ 9223372036854775807) (hs : 1 ≤ sectors ∧ sectors ≤ 4096) (h1 : 96 ≤ size) (h2 : 4096 < size) (w : World) (hL : Laid w) :
    Calls Tryz.prog 4 #[.int .i64 size, .int .i64 sectors, .int .i64 i] w fun e w' => e = .returned (.bool true) ∧ Below w.heap.size w w' := by
  have hpos := hL.pos
  obtain ⟨zl, Hzl⟩ : ∃ zl : List Value, Hid (zl = (List.replicate 64 (0 : UInt8)).map cu8) := ⟨_, rfl⟩
  have hzV : pageV (List.replicate 64 0) = .agg zl.toArray := by rw [Hzl.out]; rfl
  have hbz : Hid (Tryz.prog.built 37 [] = some zl.toArray) := by rw [Hzl.out, ← zerosV]; exact built64
  have hzi : Hid ((Tryz.prog.info? 37).map (·.size) = some zl.toArray.size) := by rw [Hzl.out]; exact pageInfo (by simp)
  have hzz : Hid (zeros64.size = zl.toArray.size) := by rw [Hzl.out]; exact pageZ (by simp)
  have hz1 : Hid (zl.toArray.all (·.oneCell') = true) := by rw [Hzl.out]; exact bytes_one _
  have hrd : ∀ W : World, Calls Tryz.prog 24 #[.pointer none, .int .i64 i] W fun e w' => ∃ v, e = .returned (.tuple #[.agg zl.toArray, v]) ∧ ErrV w' 10 v ∧ Below W.heap.size W w' := fun W => (Read_nil W i).mono fun e w' ⟨v, h1, h2, h3⟩ => ⟨v, by rw [h1, hzV], h2, h3⟩
  have hwr := fun W => Write_nil W i (List.replicate 64 0) (by simp)
  simp only [hzV] at hwr
  have Hrd := Lib.hid hrd; have Hwr := Lib.hid hwr
  clear hrd hwr hzV
  go_enter Tryz.func4, Tryz.ntmps4
  go_wp2_with (first
    | (go_at_call 15; refine (stands6_any _).mono ?_; rintro e w1 ⟨rfl, hb1⟩)
    | (go_at_call 20; refine (undo_nil _).mono ?_; rintro e w' ⟨rfl, rfl⟩)
    | (go_at_call 24; refine (Hrd.out _).mono ?_))
  rintro e w2 ⟨vr, rfl, hEr, hb2⟩
  have s1 := hb1.size
  have hb02 := hb1.trans (hb2.mono s1)
  have s2 := hb02.size
  clear hb1 hb2 Hrd
  go_upto_region 6 with (first
    | (refine wpList_alloc_arr rfl 37 rfl _ alloc64 ?_)
    | (refine wpList_store_new rfl 37 _ _ rfl w2.heap.size rfl zl.toArray rfl rfl 37 _ hzi.out hzz.out hz1.out ?_))
  have hba : Below w2.heap.size w2 (w2.alloc (.cells zl.toArray 37)) := (Below.refl _ _).alloc (Nat.le_refl _) _
  have hEr3 := hEr.below hba
  have hb03 := hb02.trans (hba.mono s2)
  generalize w2.alloc (.cells zl.toArray 37) = w3 at hba hEr3 hb03 ⊢
  generalize w2.heap.size = x3
  have s3 := hb03.size
  clear hba hEr hb02 hzi hzz hz1
  obtain ⟨D, rfl⟩ : ∃ D : Nat, sectors = (D : Int) := ⟨sectors.toNat, by omega⟩
  have Hnw := Lib.hid (own_new (B := w3.heap.size) (w0 := w3) (w := w3) D (by omega) (by omega) (Below.refl _ _) (Nat.le_refl _))
  go_wp2_with (first
    | (go_at_call 17; refine Hnw.out.mono ?_))
  rintro e w4 ⟨gd, rfl, hD4⟩
  clear Hnw
  have hs4 : Calls Tryz.prog 81 #[.pointer (some ⟨gd, 0, none⟩)] w4 fun e w' => e = .returned (.int .i64 D) ∧ w4 = w' := by
    obtain ⟨F, hP, _⟩ := hD4.ex
    exact (pd_size hP).mono fun _ _ ⟨a1, a2⟩ => ⟨by rw [a1, dnew_len], a2.symm⟩
  have Hm := Lib.hid (Mount_bad (w := w4) (.pointer (some ⟨gd, 0, none⟩)) D (by omega) hs4 size (by omega))
  have hb34 := hD4.bel
  clear hD4 hs4
  go_wp2_with (first
    | (go_at_call 18; refine Hm.out.mono ?_))
  rintro e w5 ⟨v5, rfl, hE5, hb5⟩
  have hb35 := hb34.trans (hb5.mono hb34.size)
  have hb05 := hb03.trans (hb35.mono s3)
  have s5 := hb05.size
  have hEr5 := hEr3.below hb35
  clear Hm hb35 hEr3 hb03 s3 hb34 hb5
  have hd2 : decide (size ≤ 4096) = false := decide_eq_false (by omega)
  go_wp2_with (first
    | (go_at_call 25; refine (num_any 10 vr _ (hL.below hpos hb05) hEr5).mono ?_))
  rintro e w6 ⟨rfl, hb6⟩
  have hb06 := hb05.trans (hb6.mono s5)
  have s6 := hb06.size
  have hE6 := hE5.below hb6
  clear hb6 hb05 s5
  go_wp2_with (first
    | (refine wpList_buildZ 37 rfl zl.toArray hbz.out (by rfl) ?_)
    | (go_at_call 19; refine (Hwr.out _).mono ?_))
  rintro e w7 ⟨x1, rfl, hx1, hb7⟩
  have hb07 := hb06.trans (hb7.mono s6)
  have s7 := hb07.size
  have hE7 := hE6.below hb7
  clear hb7 hb06 s6
  go_wp2_with (first
    | (go_at_call 25; refine (num_any 10 x1 _ (hL.below hpos hb07) hx1).mono ?_))
  rintro e w8 ⟨rfl, hb8⟩
  have hb08 := hb07.trans (hb8.mono s7)
  have s8 := hb08.size
  have hE8 := hE7.below hb8
  clear hb8 hb07 s7
  go_wp2_with (first
    | (go_at_call 22; refine (Commit_nil _).mono ?_))
  rintro e w9 ⟨x2, rfl, hx2, hb9⟩
  have hb09 := hb08.trans (hb9.mono s8)
  have s9 := hb09.size
  have hE9 := hE8.below hb9
  clear hb9 hb08 s8
  go_wp2_with (first
    | (go_at_call 25; refine (num_any 10 x2 _ (hL.below hpos hb09) hx2).mono ?_))
  rintro e w10 ⟨rfl, hb10⟩
  have hb010 := hb09.trans (hb10.mono s9)
  have s10 := hb010.size
  have hE10 := hE9.below hb10
  clear hb10 hb09 s9
  go_wp2_with (first
    | (go_at_call 26; refine (Sync_nil _).mono ?_))
  rintro e w11 ⟨x3, rfl, hx3, hb11⟩
  have hb011 := hb010.trans (hb11.mono s10)
  have s11 := hb011.size
  have hE11 := hE10.below hb11
  clear hb11 hb010 s10
  go_wp2_with (first
    | (go_at_call 25; refine (num_any 10 x3 _ (hL.below hpos hb011) hx3).mono ?_))
  rintro e w12 ⟨rfl, hb12⟩
  have hb012 := hb011.trans (hb12.mono s11)
  have s12 := hb012.size
  have hE12 := hE11.below hb12
  clear hb12 hb011 s11
  go_wp2_with (first
    | (go_at_call 23; refine (pages_nil _).mono ?_; rintro e w' ⟨rfl, rfl⟩)
    | (go_at_call 25; refine (num_any 1 v5 _ (hL.below hpos hb012) hE12).mono ?_))
  rintro e w13 ⟨rfl, hb13⟩
  have hb013 := hb012.trans (hb13.mono s12)
  have s13 := hb013.size
  have hE13 := hE12.below hb13
  clear hb13 hb012 s12
  go_wp2_with (first
    | (go_at_call 25; refine (num_any 1 v5 _ (hL.below hpos hb013) hE13).mono ?_))
  rintro e w14 ⟨rfl, hb14⟩
  have hb014 := hb013.trans (hb14.mono s13)
  have s14 := hb014.size
  have hE14 := hE13.below hb14
  clear hb14 hb013 s13
  go_wp2
  go_ret
  exact ⟨rfl, hb014⟩
set_option maxRecDepth 100000 in
set_option maxHeartbeats 8000000 in
theorem pnone_b3 (size sectors i : Int) (hsz : -9223372036854775808 ≤ size ∧ size ≤ 9223372036854775807) (hs : 1 ≤ sectors ∧ sectors ≤ 4096) (h1 : 96 ≤ size) (h2 : size ≤ 4096) (h3 : sectors < 3 + size) (w : World) (hL : Laid w) :
    Calls Tryz.prog 4 #[.int .i64 size, .int .i64 sectors, .int .i64 i] w fun e w' => e = .returned (.bool true) ∧ Below w.heap.size w w' := by
  have hpos := hL.pos
  obtain ⟨zl, Hzl⟩ : ∃ zl : List Value, Hid (zl = (List.replicate 64 (0 : UInt8)).map cu8) := ⟨_, rfl⟩
  have hzV : pageV (List.replicate 64 0) = .agg zl.toArray := by rw [Hzl.out]; rfl
  have hbz : Hid (Tryz.prog.built 37 [] = some zl.toArray) := by rw [Hzl.out, ← zerosV]; exact built64
  have hzi : Hid ((Tryz.prog.info? 37).map (·.size) = some zl.toArray.size) := by rw [Hzl.out]; exact pageInfo (by simp)
  have hzz : Hid (zeros64.size = zl.toArray.size) := by rw [Hzl.out]; exact pageZ (by simp)
  have hz1 : Hid (zl.toArray.all (·.oneCell') = true) := by rw [Hzl.out]; exact bytes_one _
  have hrd : ∀ W : World, Calls Tryz.prog 24 #[.pointer none, .int .i64 i] W fun e w' => ∃ v, e = .returned (.tuple #[.agg zl.toArray, v]) ∧ ErrV w' 10 v ∧ Below W.heap.size W w' := fun W => (Read_nil W i).mono fun e w' ⟨v, h1, h2, h3⟩ => ⟨v, by rw [h1, hzV], h2, h3⟩
  have hwr := fun W => Write_nil W i (List.replicate 64 0) (by simp)
  simp only [hzV] at hwr
  have Hrd := Lib.hid hrd; have Hwr := Lib.hid hwr
  clear hrd hwr hzV
  go_enter Tryz.func4, Tryz.ntmps4
  go_wp2_with (first
    | (go_at_call 15; refine (stands6_any _).mono ?_; rintro e w1 ⟨rfl, hb1⟩)
    | (go_at_call 20; refine (undo_nil _).mono ?_; rintro e w' ⟨rfl, rfl⟩)
    | (go_at_call 24; refine (Hrd.out _).mono ?_))
  rintro e w2 ⟨vr, rfl, hEr, hb2⟩
  have s1 := hb1.size
  have hb02 := hb1.trans (hb2.mono s1)
  have s2 := hb02.size
  clear hb1 hb2 Hrd
  go_upto_region 6 with (first
    | (refine wpList_alloc_arr rfl 37 rfl _ alloc64 ?_)
    | (refine wpList_store_new rfl 37 _ _ rfl w2.heap.size rfl zl.toArray rfl rfl 37 _ hzi.out hzz.out hz1.out ?_))
  have hba : Below w2.heap.size w2 (w2.alloc (.cells zl.toArray 37)) := (Below.refl _ _).alloc (Nat.le_refl _) _
  have hEr3 := hEr.below hba
  have hb03 := hb02.trans (hba.mono s2)
  generalize w2.alloc (.cells zl.toArray 37) = w3 at hba hEr3 hb03 ⊢
  generalize w2.heap.size = x3
  have s3 := hb03.size
  clear hba hEr hb02 hzi hzz hz1
  obtain ⟨D, rfl⟩ : ∃ D : Nat, sectors = (D : Int) := ⟨sectors.toNat, by omega⟩
  have Hnw := Lib.hid (own_new (B := w3.heap.size) (w0 := w3) (w := w3) D (by omega) (by omega) (Below.refl _ _) (Nat.le_refl _))
  go_wp2_with (first
    | (go_at_call 17; refine Hnw.out.mono ?_))
  rintro e w4 ⟨gd, rfl, hD4⟩
  clear Hnw
  have hs4 : Calls Tryz.prog 81 #[.pointer (some ⟨gd, 0, none⟩)] w4 fun e w' => e = .returned (.int .i64 D) ∧ w4 = w' := by
    obtain ⟨F, hP, _⟩ := hD4.ex
    exact (pd_size hP).mono fun _ _ ⟨a1, a2⟩ => ⟨by rw [a1, dnew_len], a2.symm⟩
  have Hm := Lib.hid (Mount_bad (w := w4) (.pointer (some ⟨gd, 0, none⟩)) D (by omega) hs4 size (by omega))
  have hb34 := hD4.bel
  clear hD4 hs4
  go_wp2_with (first
    | (go_at_call 18; refine Hm.out.mono ?_))
  rintro e w5 ⟨v5, rfl, hE5, hb5⟩
  have hb35 := hb34.trans (hb5.mono hb34.size)
  have hb05 := hb03.trans (hb35.mono s3)
  have s5 := hb05.size
  have hEr5 := hEr3.below hb35
  clear Hm hb35 hEr3 hb03 s3 hb34 hb5
  have hd3 : decide (3 + size ≤ (D : Int)) = false := decide_eq_false (by omega)
  go_wp2_with (first
    | (go_at_call 25; refine (num_any 10 vr _ (hL.below hpos hb05) hEr5).mono ?_))
  rintro e w6 ⟨rfl, hb6⟩
  have hb06 := hb05.trans (hb6.mono s5)
  have s6 := hb06.size
  have hE6 := hE5.below hb6
  clear hb6 hb05 s5
  go_wp2_with (first
    | (refine wpList_buildZ 37 rfl zl.toArray hbz.out (by rfl) ?_)
    | (go_at_call 19; refine (Hwr.out _).mono ?_))
  rintro e w7 ⟨x1, rfl, hx1, hb7⟩
  have hb07 := hb06.trans (hb7.mono s6)
  have s7 := hb07.size
  have hE7 := hE6.below hb7
  clear hb7 hb06 s6
  go_wp2_with (first
    | (go_at_call 25; refine (num_any 10 x1 _ (hL.below hpos hb07) hx1).mono ?_))
  rintro e w8 ⟨rfl, hb8⟩
  have hb08 := hb07.trans (hb8.mono s7)
  have s8 := hb08.size
  have hE8 := hE7.below hb8
  clear hb8 hb07 s7
  go_wp2_with (first
    | (go_at_call 22; refine (Commit_nil _).mono ?_))
  rintro e w9 ⟨x2, rfl, hx2, hb9⟩
  have hb09 := hb08.trans (hb9.mono s8)
  have s9 := hb09.size
  have hE9 := hE8.below hb9
  clear hb9 hb08 s8
  go_wp2_with (first
    | (go_at_call 25; refine (num_any 10 x2 _ (hL.below hpos hb09) hx2).mono ?_))
  rintro e w10 ⟨rfl, hb10⟩
  have hb010 := hb09.trans (hb10.mono s9)
  have s10 := hb010.size
  have hE10 := hE9.below hb10
  clear hb10 hb09 s9
  go_wp2_with (first
    | (go_at_call 26; refine (Sync_nil _).mono ?_))
  rintro e w11 ⟨x3, rfl, hx3, hb11⟩
  have hb011 := hb010.trans (hb11.mono s10)
  have s11 := hb011.size
  have hE11 := hE10.below hb11
  clear hb11 hb010 s10
  go_wp2_with (first
    | (go_at_call 25; refine (num_any 10 x3 _ (hL.below hpos hb011) hx3).mono ?_))
  rintro e w12 ⟨rfl, hb12⟩
  have hb012 := hb011.trans (hb12.mono s11)
  have s12 := hb012.size
  have hE12 := hE11.below hb12
  clear hb12 hb011 s11
  go_wp2_with (first
    | (go_at_call 23; refine (pages_nil _).mono ?_; rintro e w' ⟨rfl, rfl⟩)
    | (go_at_call 25; refine (num_any 1 v5 _ (hL.below hpos hb012) hE12).mono ?_))
  rintro e w13 ⟨rfl, hb13⟩
  have hb013 := hb012.trans (hb13.mono s12)
  have s13 := hb013.size
  have hE13 := hE12.below hb13
  clear hb13 hb012 s12
  go_wp2_with (first
    | (go_at_call 25; refine (num_any 1 v5 _ (hL.below hpos hb013) hE13).mono ?_))
  rintro e w14 ⟨rfl, hb14⟩
  have hb014 := hb013.trans (hb14.mono s13)
  have s14 := hb014.size
  have hE14 := hE13.below hb14
  clear hb14 hb013 s13
  go_wp2
  go_ret
  exact ⟨rfl, hb014⟩
theorem pagesNone_any (size sectors i : Int) (hsz : -9223372036854775808 ≤ size ∧ size ≤ 9223372036854775807) (w : World) (hL : Laid w) :
    Calls Tryz.prog 4 #[.int .i64 size, .int .i64 sectors, .int .i64 i] w fun e w' => e = .returned (.bool true) ∧ Below w.heap.size w w' := by
  by_cases hs : sectors < 1 ∨ 4096 < sectors
  · exact pnone_new size sectors i hsz hs w hL
  have hs' : 1 ≤ sectors ∧ sectors ≤ 4096 := by omega
  by_cases h1 : 96 ≤ size
  · by_cases h2 : size ≤ 4096
    · by_cases h3 : 3 + size ≤ sectors
      · exact pnone_ok size sectors i hsz hs' h1 h2 h3 w hL
      · exact pnone_b3 size sectors i hsz hs' h1 h2 (by omega) w hL
    · exact pnone_b2 size sectors i hsz hs' h1 (by omega) w hL
  · exact pnone_b1 size sectors i hsz hs' (by omega) w hL
end Go.Proofs.YticdanndfogjfaaGreatDoor
