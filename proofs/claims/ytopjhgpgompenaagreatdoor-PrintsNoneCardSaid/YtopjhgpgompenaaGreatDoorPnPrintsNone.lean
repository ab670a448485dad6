/-
  'PrintsNone': its walk.
-/
import Derived.Test.YtopjhgpgompenaaGreatDoorPnStands
set_option linter.unusedSimpArgs false
set_option linter.unusedVariables false
namespace Go.Proofs.YtopjhgpgompenaaGreatDoor
open Go.RowKit Sh Go.Maps Go.Extern.Stop Go.Stop Go.Extern

theorem bk140 : (bk1 140 100).pages = 38 := (fr (D := 140) (n := 100) (by omega) (by omega) (by omega) (by omega)).pages
def NumQ (n : Int) (w : World) (e : Ending) (w' : World) : Prop := e = .returned (.int .i64 n) ∧ Below w.heap.size w w'
theorem num8 (n : Int) (v : Value) (w : World) (hL : Laid w) (hE : ErrV w n v) : Calls Tryz.prog 41 #[v] w (NumQ n w) := num_any08 n v w hL hE
theorem built_dg0 : Tryz.prog.built 71 [] = some ((List.replicate 32 (0 : UInt8)).map cu8).toArray := by kernel_rfl
def PGetV (x : Value) (w : World) (e : Ending) (w' : World) : Prop := ∃ v, e = .returned (.tuple #[x, v]) ∧ ErrV w' 1 v ∧ Below w.heap.size w w'
attribute [local irreducible] bk1 bk0
set_option maxRecDepth 100000 in
set_option maxHeartbeats 16000000 in
theorem pnone_ok (first n slot : Int) (hf : -9223372036854775808 ≤ first ∧ first ≤ 9223372036854775807) (hn : -9223372036854775808 ≤ n ∧ n ≤ 9223372036854775807) (h1 : 0 ≤ first) (h2 : 1 ≤ n) (h4 : first ≤ 38 - n) (w : World) (hL : Laid w) :
    Calls Tryz.prog 9 #[.int .i64 first, .int .i64 n, .int .i64 slot] w (RetP (.bool true) w) := by
  have hpos := hL.pos
  obtain ⟨zv, Hz⟩ : ∃ zv : Array Value, Hid (zv = (entC noE).toArray) := ⟨_, rfl⟩
  have hbz : Hid (Tryz.prog.built 73 [] = some zv) := by rw [Hz.out]; exact builtEnt0
  have hzV : entV noE = .agg zv := by rw [Hz.out]; rfl
  obtain ⟨zd, Hzd⟩ : ∃ zd : Array Value, Hid (zd = ((List.replicate 32 (0 : UInt8)).map cu8).toArray) := ⟨_, rfl⟩
  have hbd : Hid (Tryz.prog.built 71 [] = some zd) := by rw [Hzd.out]; exact built_dg0
  have hzD : digV (List.replicate 32 0) = .agg zd := by rw [Hzd.out]; rfl
  have hal : ∀ w : World, (Instr.alloc 73 true (.tuple #[])).run Tryz.prog w = .ok (.pointer (some ⟨w.heap.size, 0, none⟩)) (w.alloc (.cells zv 73)) := by rw [Hz.out]; exact allocEnt
  have hzi : Hid ((Tryz.prog.info? 73).map (·.size) = some zv.size) := by rw [Hz.out, List.size_toArray, entC_len (by simp [noE])]; exact infoEnt
  have hz1 : Hid (zv.all (·.oneCell') = true) := by rw [Hz.out]; exact all_oneCell_toArray (entC_one noE)
  have HGet := Lib.hid (fun W => (show Calls Tryz.prog 35 #[.pointer none, .int .i64 slot] W (PGetV (.agg zv) W) by have := pGet_nil W slot; unfold PGetP at this; rw [hzV] at this; exact this))
  have HFin := Lib.hid (fun W => (show Calls Tryz.prog 36 #[.pointer none, .agg zd] W (LkP 0 false 1 W) by have := pFind_nil (List.replicate 32 0) (by simp) W; rw [hzD] at this; exact this))
  have HFre := Lib.hid (fun W => (show Calls Tryz.prog 37 #[.pointer none, .agg zd] W (FrP 0 1 W) by have := pFree_nil (List.replicate 32 0) (by simp) W; rw [hzD] at this; exact this))
  have HSlo := Lib.hid (fun W => pSlot_nil slot W)
  have HAll := Lib.hid (fun W => pAll_nil W)
  have HSet := Lib.hid (fun W => (show Calls Tryz.prog 42 #[.pointer none, .int .i64 slot, .agg zv] W (PSetP 1 (fun w' => Below W.heap.size W w')) by have := pSet_nil slot noE (by simp [noE]) W; rw [hzV] at this; exact this))
  clear hzV hzD
  go_enter Tryz.func9, Tryz.ntmps9
  go_wp2_with (first
    | (go_at_call 34; refine (stands8_any _).mono ?_))
  rintro e w1 ⟨rfl, hb01⟩
  go_wp2_with (first
    | (go_at_call 35; refine (HGet.out _).mono ?_))
  rintro e w3 ⟨va, rfl, hEa, hb3⟩
  have hb03 := hb01.trans (hb3.mono hb01.size)
  clear HGet hb01 hb3
  go_upto_region 5 with (first
    | (refine wpList_alloc_arr rfl 73 rfl _ hal ?_)
    | (refine wpList_store_new rfl 73 _ _ rfl w3.heap.size rfl zv rfl rfl 73 _ hzi.out rfl hz1.out ?_))
  have hb4 : Below w3.heap.size w3 (w3.alloc (.cells zv 73)) := (Below.refl _ _).alloc (Nat.le_refl _) _
  have hb0p := hb03.trans (hb4.mono hb03.size)
  have hEa := hEa.below hb4
  generalize w3.alloc (.cells zv 73) = wp at hb4 hb0p hEa ⊢
  generalize w3.heap.size = k3 at hb4 ⊢
  clear hb4 hb03 hzi hz1 hal
  go_wp2_with (first
    | (refine wpList_buildZ 71 rfl zd hbd.out (by rfl) ?_)
    | (go_at_call 36; refine (HFin.out _).mono ?_))
  rintro e wq ⟨vb, rfl, hEb, hbq⟩
  have hb0q := hb0p.trans (hbq.mono hb0p.size)
  have hEa := hEa.below hbq
  clear HFin hb0p hbq
  rename Below _ _ wq => hb0p
  rename World => wp
  go_wp2_with (first
    | (refine wpList_buildZ 71 rfl zd hbd.out (by rfl) ?_)
    | (go_at_call 37; refine (HFre.out _).mono ?_))
  rintro e wq ⟨vc, rfl, hEc, hbq⟩
  have hb0q := hb0p.trans (hbq.mono hb0p.size)
  have hEa := hEa.below hbq
  have hEb := hEb.below hbq
  clear HFre hb0p hbq
  rename Below _ _ wq => hb0p
  rename World => wp
  go_wp2_with (first
    | (go_at_call 38; refine (HSlo.out _).mono ?_))
  rintro e wq ⟨vd, rfl, hEd, hbq⟩
  have hb0q := hb0p.trans (hbq.mono hb0p.size)
  have hEa := hEa.below hbq
  have hEb := hEb.below hbq
  have hEc := hEc.below hbq
  clear HSlo hb0p hbq
  rename Below _ _ wq => hb0p
  rename World => wp
  go_wp2_with (first
    | (go_at_call 39; refine (HAll.out _).mono ?_))
  rintro e wq ⟨ve, rfl, hEe, hbq⟩
  have hb0q := hb0p.trans (hbq.mono hb0p.size)
  have hEa := hEa.below hbq
  have hEb := hEb.below hbq
  have hEc := hEc.below hbq
  have hEd := hEd.below hbq
  clear HAll hb0p hbq
  rename Below _ _ wq => hb0p
  rename World => wp
  have Hnw := Lib.hid (own_new (B := wp.heap.size) (w0 := wp) (w := wp) 140 (by omega) (by omega) (Below.refl _ _) (Nat.le_refl _))
  go_wp2_with (first
    | (go_at_call 21; refine Hnw.out.mono ?_))
  rintro e w9 ⟨gd, rfl, hD4⟩
  have Hm := Lib.hid (hD4.mountNew (D := 140) (n := 100) (by omega) (by omega) (by omega) (by omega))
  clear hD4 Hnw
  go_wp2_with (first
    | (go_at_call 22; refine Hm.out.mono ?_))
  rintro e wa ⟨g, rfl, hB5⟩
  have hpg := hB5.pages
  rw [bk140] at hpg
  have hb8a := hB5.bel
  have hb0a := hb0p.trans (hb8a.mono hb0p.size)
  have hEa := hEa.below hb8a
  have hEb := hEb.below hb8a
  have hEc := hEc.below hb8a
  have hEd := hEd.below hb8a
  have hEe := hEe.below hb8a
  clear hb8a hb0p hB5 Hm
  obtain ⟨F, rfl⟩ : ∃ F : Nat, first = (F : Int) := ⟨first.toNat, by omega⟩
  obtain ⟨K, rfl⟩ : ∃ K : Nat, n = (K : Int) := ⟨n.toNat, by omega⟩
  have Hn := Lib.hid (tabNew_ok hpg (by omega) F K (by omega) (by omega))
  clear hpg
  go_wp2_with (first
    | (go_at_call 40; refine Hn.out.mono ?_))
  rintro e wb ⟨x, rfl, _, hbb, _⟩
  have hEg : ErrV wb 0 .nilIface := ErrV.nil
  have q1 : (0 : Int) ≤ (F : Int) := by omega
  have q2 : (1 : Int) ≤ (K : Int) := by omega
  have q6 : IntKind.i64.wrap (38 - (K : Int)) = 38 - (K : Int) := IntWalk.i64_in _ (by omega)
  have q5 : (F : Int) ≤ 38 - (K : Int) := by omega
  have hb0b := hb0a.trans (hbb.mono hb0a.size)
  have hEa := hEa.below hbb
  have hEb := hEb.below hbb
  have hEc := hEc.below hbb
  have hEd := hEd.below hbb
  have hEe := hEe.below hbb
  have hLc := hL.below hpos hb0b
  clear Hn hb0a hbb
  go_wp2_with (first
    | (go_at_call 41; refine (num8 1 va _ hLc hEa).mono ?_))
  rintro e wc ⟨rfl, hbc⟩
  have hb0c := hb0b.trans (hbc.mono hb0b.size)
  have hEb := hEb.below hbc
  have hEc := hEc.below hbc
  have hEd := hEd.below hbc
  have hEe := hEe.below hbc
  have hEg := hEg.below hbc
  have hLd := hLc.below hLc.pos hbc
  clear hLc hbc hb0b hEa
  rename Laid wc => hLc
  rename Below _ _ wc => hb0b
  go_wp2_with (first
    | (go_at_call 41; refine (num8 1 vb _ hLc hEb).mono ?_))
  rintro e wc ⟨rfl, hbc⟩
  have hb0c := hb0b.trans (hbc.mono hb0b.size)
  have hEc := hEc.below hbc
  have hEd := hEd.below hbc
  have hEe := hEe.below hbc
  have hEg := hEg.below hbc
  have hLd := hLc.below hLc.pos hbc
  clear hLc hbc hb0b hEb
  rename Laid wc => hLc
  rename Below _ _ wc => hb0b
  go_wp2_with (first
    | (go_at_call 41; refine (num8 1 vc _ hLc hEc).mono ?_))
  rintro e wc ⟨rfl, hbc⟩
  have hb0c := hb0b.trans (hbc.mono hb0b.size)
  have hEd := hEd.below hbc
  have hEe := hEe.below hbc
  have hEg := hEg.below hbc
  have hLd := hLc.below hLc.pos hbc
  clear hLc hbc hb0b hEc
  rename Laid wc => hLc
  rename Below _ _ wc => hb0b
  go_wp2_with (first
    | (go_at_call 41; refine (num8 1 vd _ hLc hEd).mono ?_))
  rintro e wc ⟨rfl, hbc⟩
  have hb0c := hb0b.trans (hbc.mono hb0b.size)
  have hEe := hEe.below hbc
  have hEg := hEg.below hbc
  have hLd := hLc.below hLc.pos hbc
  clear hLc hbc hb0b hEd
  rename Laid wc => hLc
  rename Below _ _ wc => hb0b
  go_wp2_with (first
    | (go_at_call 41; refine (num8 1 ve _ hLc hEe).mono ?_))
  rintro e wc ⟨rfl, hbc⟩
  have hb0c := hb0b.trans (hbc.mono hb0b.size)
  have hEg := hEg.below hbc
  have hLd := hLc.below hLc.pos hbc
  clear hLc hbc hb0b hEe
  rename Laid wc => hLc
  rename Below _ _ wc => hb0b
  go_wp2_with (first
    | (refine wpList_buildZ 73 rfl zv hbz.out (by rfl) ?_)
    | (go_at_call 42; refine (HSet.out _).mono ?_))
  rintro e wd ⟨vs, rfl, hEs, hbd'⟩
  have hb0d := hb0b.trans (hbd'.mono hb0b.size)
  have hEg := hEg.below hbd'
  have hLd := hLc.below hLc.pos hbd'
  clear HSet hb0b hbd' hLc
  go_wp2_with (first
    | (go_at_call 41; refine (num8 1 vs _ hLd hEs).mono ?_))
  rintro e we ⟨rfl, hbe⟩
  have hb0e := hb0d.trans (hbe.mono hb0d.size)
  have hEg := hEg.below hbe
  have hLe := hLd.below hLd.pos hbe
  clear hb0d hbe hLd hEs
  go_wp2_with (first
    | (go_at_call 41; refine (num_nil08 _).mono ?_))
  rintro e w' ⟨rfl, rfl⟩
  have Hfin := Lib.hid hb0e
  clear hb0e hLe hEg
  go_wp2
  go_ret
  exact ⟨rfl, Hfin.out⟩
set_option maxRecDepth 100000 in
set_option maxHeartbeats 16000000 in
theorem pnone_b1 (first n slot : Int) (hf : -9223372036854775808 ≤ first ∧ first ≤ 9223372036854775807) (hn : -9223372036854775808 ≤ n ∧ n ≤ 9223372036854775807) (h1 : first < 0) (w : World) (hL : Laid w) :
    Calls Tryz.prog 9 #[.int .i64 first, .int .i64 n, .int .i64 slot] w (RetP (.bool true) w) := by
  have hpos := hL.pos
  obtain ⟨zv, Hz⟩ : ∃ zv : Array Value, Hid (zv = (entC noE).toArray) := ⟨_, rfl⟩
  have hbz : Hid (Tryz.prog.built 73 [] = some zv) := by rw [Hz.out]; exact builtEnt0
  have hzV : entV noE = .agg zv := by rw [Hz.out]; rfl
  obtain ⟨zd, Hzd⟩ : ∃ zd : Array Value, Hid (zd = ((List.replicate 32 (0 : UInt8)).map cu8).toArray) := ⟨_, rfl⟩
  have hbd : Hid (Tryz.prog.built 71 [] = some zd) := by rw [Hzd.out]; exact built_dg0
  have hzD : digV (List.replicate 32 0) = .agg zd := by rw [Hzd.out]; rfl
  have hal : ∀ w : World, (Instr.alloc 73 true (.tuple #[])).run Tryz.prog w = .ok (.pointer (some ⟨w.heap.size, 0, none⟩)) (w.alloc (.cells zv 73)) := by rw [Hz.out]; exact allocEnt
  have hzi : Hid ((Tryz.prog.info? 73).map (·.size) = some zv.size) := by rw [Hz.out, List.size_toArray, entC_len (by simp [noE])]; exact infoEnt
  have hz1 : Hid (zv.all (·.oneCell') = true) := by rw [Hz.out]; exact all_oneCell_toArray (entC_one noE)
  have HGet := Lib.hid (fun W => (show Calls Tryz.prog 35 #[.pointer none, .int .i64 slot] W (PGetV (.agg zv) W) by have := pGet_nil W slot; unfold PGetP at this; rw [hzV] at this; exact this))
  have HFin := Lib.hid (fun W => (show Calls Tryz.prog 36 #[.pointer none, .agg zd] W (LkP 0 false 1 W) by have := pFind_nil (List.replicate 32 0) (by simp) W; rw [hzD] at this; exact this))
  have HFre := Lib.hid (fun W => (show Calls Tryz.prog 37 #[.pointer none, .agg zd] W (FrP 0 1 W) by have := pFree_nil (List.replicate 32 0) (by simp) W; rw [hzD] at this; exact this))
  have HSlo := Lib.hid (fun W => pSlot_nil slot W)
  have HAll := Lib.hid (fun W => pAll_nil W)
  have HSet := Lib.hid (fun W => (show Calls Tryz.prog 42 #[.pointer none, .int .i64 slot, .agg zv] W (PSetP 1 (fun w' => Below W.heap.size W w')) by have := pSet_nil slot noE (by simp [noE]) W; rw [hzV] at this; exact this))
  clear hzV hzD
  go_enter Tryz.func9, Tryz.ntmps9
  go_wp2_with (first
    | (go_at_call 34; refine (stands8_any _).mono ?_))
  rintro e w1 ⟨rfl, hb01⟩
  go_wp2_with (first
    | (go_at_call 35; refine (HGet.out _).mono ?_))
  rintro e w3 ⟨va, rfl, hEa, hb3⟩
  have hb03 := hb01.trans (hb3.mono hb01.size)
  clear HGet hb01 hb3
  go_upto_region 5 with (first
    | (refine wpList_alloc_arr rfl 73 rfl _ hal ?_)
    | (refine wpList_store_new rfl 73 _ _ rfl w3.heap.size rfl zv rfl rfl 73 _ hzi.out rfl hz1.out ?_))
  have hb4 : Below w3.heap.size w3 (w3.alloc (.cells zv 73)) := (Below.refl _ _).alloc (Nat.le_refl _) _
  have hb0p := hb03.trans (hb4.mono hb03.size)
  have hEa := hEa.below hb4
  generalize w3.alloc (.cells zv 73) = wp at hb4 hb0p hEa ⊢
  generalize w3.heap.size = k3 at hb4 ⊢
  clear hb4 hb03 hzi hz1 hal
  go_wp2_with (first
    | (refine wpList_buildZ 71 rfl zd hbd.out (by rfl) ?_)
    | (go_at_call 36; refine (HFin.out _).mono ?_))
  rintro e wq ⟨vb, rfl, hEb, hbq⟩
  have hb0q := hb0p.trans (hbq.mono hb0p.size)
  have hEa := hEa.below hbq
  clear HFin hb0p hbq
  rename Below _ _ wq => hb0p
  rename World => wp
  go_wp2_with (first
    | (refine wpList_buildZ 71 rfl zd hbd.out (by rfl) ?_)
    | (go_at_call 37; refine (HFre.out _).mono ?_))
  rintro e wq ⟨vc, rfl, hEc, hbq⟩
  have hb0q := hb0p.trans (hbq.mono hb0p.size)
  have hEa := hEa.below hbq
  have hEb := hEb.below hbq
  clear HFre hb0p hbq
  rename Below _ _ wq => hb0p
  rename World => wp
  go_wp2_with (first
    | (go_at_call 38; refine (HSlo.out _).mono ?_))
  rintro e wq ⟨vd, rfl, hEd, hbq⟩
  have hb0q := hb0p.trans (hbq.mono hb0p.size)
  have hEa := hEa.below hbq
  have hEb := hEb.below hbq
  have hEc := hEc.below hbq
  clear HSlo hb0p hbq
  rename Below _ _ wq => hb0p
  rename World => wp
  go_wp2_with (first
    | (go_at_call 39; refine (HAll.out _).mono ?_))
  rintro e wq ⟨ve, rfl, hEe, hbq⟩
  have hb0q := hb0p.trans (hbq.mono hb0p.size)
  have hEa := hEa.below hbq
  have hEb := hEb.below hbq
  have hEc := hEc.below hbq
  have hEd := hEd.below hbq
  clear HAll hb0p hbq
  rename Below _ _ wq => hb0p
  rename World => wp
  have Hnw := Lib.hid (own_new (B := wp.heap.size) (w0 := wp) (w := wp) 140 (by omega) (by omega) (Below.refl _ _) (Nat.le_refl _))
  go_wp2_with (first
    | (go_at_call 21; refine Hnw.out.mono ?_))
  rintro e w9 ⟨gd, rfl, hD4⟩
  have Hm := Lib.hid (hD4.mountNew (D := 140) (n := 100) (by omega) (by omega) (by omega) (by omega))
  clear hD4 Hnw
  go_wp2_with (first
    | (go_at_call 22; refine Hm.out.mono ?_))
  rintro e wa ⟨g, rfl, hB5⟩
  have hpg := hB5.pages
  rw [bk140] at hpg
  have hb8a := hB5.bel
  have hb0a := hb0p.trans (hb8a.mono hb0p.size)
  have hEa := hEa.below hb8a
  have hEb := hEb.below hb8a
  have hEc := hEc.below hb8a
  have hEd := hEd.below hb8a
  have hEe := hEe.below hb8a
  clear hb8a hb0p hB5 Hm
  have Hn := Lib.hid (tabNew_bad hpg (by omega) first n hf hn (by omega))
  clear hpg
  go_wp2_with (first
    | (go_at_call 40; refine Hn.out.mono ?_))
  rintro e wb ⟨v6, rfl, hEg, hbb⟩
  have q1 : ¬ (0 ≤ first) := by omega
  have hb0b := hb0a.trans (hbb.mono hb0a.size)
  have hEa := hEa.below hbb
  have hEb := hEb.below hbb
  have hEc := hEc.below hbb
  have hEd := hEd.below hbb
  have hEe := hEe.below hbb
  have hLc := hL.below hpos hb0b
  clear Hn hb0a hbb
  go_wp2_with (first
    | (go_at_call 41; refine (num8 1 va _ hLc hEa).mono ?_))
  rintro e wc ⟨rfl, hbc⟩
  have hb0c := hb0b.trans (hbc.mono hb0b.size)
  have hEb := hEb.below hbc
  have hEc := hEc.below hbc
  have hEd := hEd.below hbc
  have hEe := hEe.below hbc
  have hEg := hEg.below hbc
  have hLd := hLc.below hLc.pos hbc
  clear hLc hbc hb0b hEa
  rename Laid wc => hLc
  rename Below _ _ wc => hb0b
  go_wp2_with (first
    | (go_at_call 41; refine (num8 1 vb _ hLc hEb).mono ?_))
  rintro e wc ⟨rfl, hbc⟩
  have hb0c := hb0b.trans (hbc.mono hb0b.size)
  have hEc := hEc.below hbc
  have hEd := hEd.below hbc
  have hEe := hEe.below hbc
  have hEg := hEg.below hbc
  have hLd := hLc.below hLc.pos hbc
  clear hLc hbc hb0b hEb
  rename Laid wc => hLc
  rename Below _ _ wc => hb0b
  go_wp2_with (first
    | (go_at_call 41; refine (num8 1 vc _ hLc hEc).mono ?_))
  rintro e wc ⟨rfl, hbc⟩
  have hb0c := hb0b.trans (hbc.mono hb0b.size)
  have hEd := hEd.below hbc
  have hEe := hEe.below hbc
  have hEg := hEg.below hbc
  have hLd := hLc.below hLc.pos hbc
  clear hLc hbc hb0b hEc
  rename Laid wc => hLc
  rename Below _ _ wc => hb0b
  go_wp2_with (first
    | (go_at_call 41; refine (num8 1 vd _ hLc hEd).mono ?_))
  rintro e wc ⟨rfl, hbc⟩
  have hb0c := hb0b.trans (hbc.mono hb0b.size)
  have hEe := hEe.below hbc
  have hEg := hEg.below hbc
  have hLd := hLc.below hLc.pos hbc
  clear hLc hbc hb0b hEd
  rename Laid wc => hLc
  rename Below _ _ wc => hb0b
  go_wp2_with (first
    | (go_at_call 41; refine (num8 1 ve _ hLc hEe).mono ?_))
  rintro e wc ⟨rfl, hbc⟩
  have hb0c := hb0b.trans (hbc.mono hb0b.size)
  have hEg := hEg.below hbc
  have hLd := hLc.below hLc.pos hbc
  clear hLc hbc hb0b hEe
  rename Laid wc => hLc
  rename Below _ _ wc => hb0b
  go_wp2_with (first
    | (refine wpList_buildZ 73 rfl zv hbz.out (by rfl) ?_)
    | (go_at_call 42; refine (HSet.out _).mono ?_))
  rintro e wd ⟨vs, rfl, hEs, hbd'⟩
  have hb0d := hb0b.trans (hbd'.mono hb0b.size)
  have hEg := hEg.below hbd'
  have hLd := hLc.below hLc.pos hbd'
  clear HSet hb0b hbd' hLc
  go_wp2_with (first
    | (go_at_call 41; refine (num8 1 vs _ hLd hEs).mono ?_))
  rintro e we ⟨rfl, hbe⟩
  have hb0e := hb0d.trans (hbe.mono hb0d.size)
  have hEg := hEg.below hbe
  have hLe := hLd.below hLd.pos hbe
  clear hb0d hbe hLd hEs
  go_wp2_with (first
    | (go_at_call 41; refine (num8 1 v6 _ hLe hEg).mono ?_))
  rintro e wf ⟨rfl, hbf⟩
  have hb0f := hb0e.trans (hbf.mono hb0e.size)
  have hEg := hEg.below hbf
  have hLf := hLe.below hLe.pos hbf
  clear hbf hb0e hLe
  go_wp2_with (first
    | (go_at_call 41; refine (num8 1 v6 _ hLf hEg).mono ?_))
  rintro e wg ⟨rfl, hbg⟩
  have hb0g := hb0f.trans (hbg.mono hb0f.size)
  have Hfin := Lib.hid hb0g
  clear hb0g hb0f hbg hLf hEg
  go_wp2
  go_ret
  exact ⟨rfl, Hfin.out⟩
set_option maxRecDepth 100000 in
set_option maxHeartbeats 16000000 in
theorem pnone_b2 (first n slot : Int) (hf : -9223372036854775808 ≤ first ∧ first ≤ 9223372036854775807) (hn : -9223372036854775808 ≤ n ∧ n ≤ 9223372036854775807) (h1 : 0 ≤ first) (h2 : n < 1) (w : World) (hL : Laid w) :
    Calls Tryz.prog 9 #[.int .i64 first, .int .i64 n, .int .i64 slot] w (RetP (.bool true) w) := by
  have hpos := hL.pos
  obtain ⟨zv, Hz⟩ : ∃ zv : Array Value, Hid (zv = (entC noE).toArray) := ⟨_, rfl⟩
  have hbz : Hid (Tryz.prog.built 73 [] = some zv) := by rw [Hz.out]; exact builtEnt0
  have hzV : entV noE = .agg zv := by rw [Hz.out]; rfl
  obtain ⟨zd, Hzd⟩ : ∃ zd : Array Value, Hid (zd = ((List.replicate 32 (0 : UInt8)).map cu8).toArray) := ⟨_, rfl⟩
  have hbd : Hid (Tryz.prog.built 71 [] = some zd) := by rw [Hzd.out]; exact built_dg0
  have hzD : digV (List.replicate 32 0) = .agg zd := by rw [Hzd.out]; rfl
  have hal : ∀ w : World, (Instr.alloc 73 true (.tuple #[])).run Tryz.prog w = .ok (.pointer (some ⟨w.heap.size, 0, none⟩)) (w.alloc (.cells zv 73)) := by rw [Hz.out]; exact allocEnt
  have hzi : Hid ((Tryz.prog.info? 73).map (·.size) = some zv.size) := by rw [Hz.out, List.size_toArray, entC_len (by simp [noE])]; exact infoEnt
  have hz1 : Hid (zv.all (·.oneCell') = true) := by rw [Hz.out]; exact all_oneCell_toArray (entC_one noE)
  have HGet := Lib.hid (fun W => (show Calls Tryz.prog 35 #[.pointer none, .int .i64 slot] W (PGetV (.agg zv) W) by have := pGet_nil W slot; unfold PGetP at this; rw [hzV] at this; exact this))
  have HFin := Lib.hid (fun W => (show Calls Tryz.prog 36 #[.pointer none, .agg zd] W (LkP 0 false 1 W) by have := pFind_nil (List.replicate 32 0) (by simp) W; rw [hzD] at this; exact this))
  have HFre := Lib.hid (fun W => (show Calls Tryz.prog 37 #[.pointer none, .agg zd] W (FrP 0 1 W) by have := pFree_nil (List.replicate 32 0) (by simp) W; rw [hzD] at this; exact this))
  have HSlo := Lib.hid (fun W => pSlot_nil slot W)
  have HAll := Lib.hid (fun W => pAll_nil W)
  have HSet := Lib.hid (fun W => (show Calls Tryz.prog 42 #[.pointer none, .int .i64 slot, .agg zv] W (PSetP 1 (fun w' => Below W.heap.size W w')) by have := pSet_nil slot noE (by simp [noE]) W; rw [hzV] at this; exact this))
  clear hzV hzD
  go_enter Tryz.func9, Tryz.ntmps9
  go_wp2_with (first
    | (go_at_call 34; refine (stands8_any _).mono ?_))
  rintro e w1 ⟨rfl, hb01⟩
  go_wp2_with (first
    | (go_at_call 35; refine (HGet.out _).mono ?_))
  rintro e w3 ⟨va, rfl, hEa, hb3⟩
  have hb03 := hb01.trans (hb3.mono hb01.size)
  clear HGet hb01 hb3
  go_upto_region 5 with (first
    | (refine wpList_alloc_arr rfl 73 rfl _ hal ?_)
    | (refine wpList_store_new rfl 73 _ _ rfl w3.heap.size rfl zv rfl rfl 73 _ hzi.out rfl hz1.out ?_))
  have hb4 : Below w3.heap.size w3 (w3.alloc (.cells zv 73)) := (Below.refl _ _).alloc (Nat.le_refl _) _
  have hb0p := hb03.trans (hb4.mono hb03.size)
  have hEa := hEa.below hb4
  generalize w3.alloc (.cells zv 73) = wp at hb4 hb0p hEa ⊢
  generalize w3.heap.size = k3 at hb4 ⊢
  clear hb4 hb03 hzi hz1 hal
  go_wp2_with (first
    | (refine wpList_buildZ 71 rfl zd hbd.out (by rfl) ?_)
    | (go_at_call 36; refine (HFin.out _).mono ?_))
  rintro e wq ⟨vb, rfl, hEb, hbq⟩
  have hb0q := hb0p.trans (hbq.mono hb0p.size)
  have hEa := hEa.below hbq
  clear HFin hb0p hbq
  rename Below _ _ wq => hb0p
  rename World => wp
  go_wp2_with (first
    | (refine wpList_buildZ 71 rfl zd hbd.out (by rfl) ?_)
    | (go_at_call 37; refine (HFre.out _).mono ?_))
  rintro e wq ⟨vc, rfl, hEc, hbq⟩
  have hb0q := hb0p.trans (hbq.mono hb0p.size)
  have hEa := hEa.below hbq
  have hEb := hEb.below hbq
  clear HFre hb0p hbq
  rename Below _ _ wq => hb0p
  rename World => wp
  go_wp2_with (first
    | (go_at_call 38; refine (HSlo.out _).mono ?_))
  rintro e wq ⟨vd, rfl, hEd, hbq⟩
  have hb0q := hb0p.trans (hbq.mono hb0p.size)
  have hEa := hEa.below hbq
  have hEb := hEb.below hbq
  have hEc := hEc.below hbq
  clear HSlo hb0p hbq
  rename Below _ _ wq => hb0p
  rename World => wp
  go_wp2_with (first
    | (go_at_call 39; refine (HAll.out _).mono ?_))
  rintro e wq ⟨ve, rfl, hEe, hbq⟩
  have hb0q := hb0p.trans (hbq.mono hb0p.size)
  have hEa := hEa.below hbq
  have hEb := hEb.below hbq
  have hEc := hEc.below hbq
  have hEd := hEd.below hbq
  clear HAll hb0p hbq
  rename Below _ _ wq => hb0p
  rename World => wp
  have Hnw := Lib.hid (own_new (B := wp.heap.size) (w0 := wp) (w := wp) 140 (by omega) (by omega) (Below.refl _ _) (Nat.le_refl _))
  go_wp2_with (first
    | (go_at_call 21; refine Hnw.out.mono ?_))
  rintro e w9 ⟨gd, rfl, hD4⟩
  have Hm := Lib.hid (hD4.mountNew (D := 140) (n := 100) (by omega) (by omega) (by omega) (by omega))
  clear hD4 Hnw
  go_wp2_with (first
    | (go_at_call 22; refine Hm.out.mono ?_))
  rintro e wa ⟨g, rfl, hB5⟩
  have hpg := hB5.pages
  rw [bk140] at hpg
  have hb8a := hB5.bel
  have hb0a := hb0p.trans (hb8a.mono hb0p.size)
  have hEa := hEa.below hb8a
  have hEb := hEb.below hb8a
  have hEc := hEc.below hb8a
  have hEd := hEd.below hb8a
  have hEe := hEe.below hb8a
  clear hb8a hb0p hB5 Hm
  have Hn := Lib.hid (tabNew_bad hpg (by omega) first n hf hn (by omega))
  clear hpg
  go_wp2_with (first
    | (go_at_call 40; refine Hn.out.mono ?_))
  rintro e wb ⟨v6, rfl, hEg, hbb⟩
  have q1 : 0 ≤ first := by omega
  have q2 : ¬ (1 ≤ n) := by omega
  have hb0b := hb0a.trans (hbb.mono hb0a.size)
  have hEa := hEa.below hbb
  have hEb := hEb.below hbb
  have hEc := hEc.below hbb
  have hEd := hEd.below hbb
  have hEe := hEe.below hbb
  have hLc := hL.below hpos hb0b
  clear Hn hb0a hbb
  go_wp2_with (first
    | (go_at_call 41; refine (num8 1 va _ hLc hEa).mono ?_))
  rintro e wc ⟨rfl, hbc⟩
  have hb0c := hb0b.trans (hbc.mono hb0b.size)
  have hEb := hEb.below hbc
  have hEc := hEc.below hbc
  have hEd := hEd.below hbc
  have hEe := hEe.below hbc
  have hEg := hEg.below hbc
  have hLd := hLc.below hLc.pos hbc
  clear hLc hbc hb0b hEa
  rename Laid wc => hLc
  rename Below _ _ wc => hb0b
  go_wp2_with (first
    | (go_at_call 41; refine (num8 1 vb _ hLc hEb).mono ?_))
  rintro e wc ⟨rfl, hbc⟩
  have hb0c := hb0b.trans (hbc.mono hb0b.size)
  have hEc := hEc.below hbc
  have hEd := hEd.below hbc
  have hEe := hEe.below hbc
  have hEg := hEg.below hbc
  have hLd := hLc.below hLc.pos hbc
  clear hLc hbc hb0b hEb
  rename Laid wc => hLc
  rename Below _ _ wc => hb0b
  go_wp2_with (first
    | (go_at_call 41; refine (num8 1 vc _ hLc hEc).mono ?_))
  rintro e wc ⟨rfl, hbc⟩
  have hb0c := hb0b.trans (hbc.mono hb0b.size)
  have hEd := hEd.below hbc
  have hEe := hEe.below hbc
  have hEg := hEg.below hbc
  have hLd := hLc.below hLc.pos hbc
  clear hLc hbc hb0b hEc
  rename Laid wc => hLc
  rename Below _ _ wc => hb0b
  go_wp2_with (first
    | (go_at_call 41; refine (num8 1 vd _ hLc hEd).mono ?_))
  rintro e wc ⟨rfl, hbc⟩
  have hb0c := hb0b.trans (hbc.mono hb0b.size)
  have hEe := hEe.below hbc
  have hEg := hEg.below hbc
  have hLd := hLc.below hLc.pos hbc
  clear hLc hbc hb0b hEd
  rename Laid wc => hLc
  rename Below _ _ wc => hb0b
  go_wp2_with (first
    | (go_at_call 41; refine (num8 1 ve _ hLc hEe).mono ?_))
  rintro e wc ⟨rfl, hbc⟩
  have hb0c := hb0b.trans (hbc.mono hb0b.size)
  have hEg := hEg.below hbc
  have hLd := hLc.below hLc.pos hbc
  clear hLc hbc hb0b hEe
  rename Laid wc => hLc
  rename Below _ _ wc => hb0b
  go_wp2_with (first
    | (refine wpList_buildZ 73 rfl zv hbz.out (by rfl) ?_)
    | (go_at_call 42; refine (HSet.out _).mono ?_))
  rintro e wd ⟨vs, rfl, hEs, hbd'⟩
  have hb0d := hb0b.trans (hbd'.mono hb0b.size)
  have hEg := hEg.below hbd'
  have hLd := hLc.below hLc.pos hbd'
  clear HSet hb0b hbd' hLc
  go_wp2_with (first
    | (go_at_call 41; refine (num8 1 vs _ hLd hEs).mono ?_))
  rintro e we ⟨rfl, hbe⟩
  have hb0e := hb0d.trans (hbe.mono hb0d.size)
  have hEg := hEg.below hbe
  have hLe := hLd.below hLd.pos hbe
  clear hb0d hbe hLd hEs
  go_wp2_with (first
    | (go_at_call 41; refine (num8 1 v6 _ hLe hEg).mono ?_))
  rintro e wf ⟨rfl, hbf⟩
  have hb0f := hb0e.trans (hbf.mono hb0e.size)
  have hEg := hEg.below hbf
  have hLf := hLe.below hLe.pos hbf
  clear hbf hb0e hLe
  go_wp2_with (first
    | (go_at_call 41; refine (num8 1 v6 _ hLf hEg).mono ?_))
  rintro e wg ⟨rfl, hbg⟩
  have hb0g := hb0f.trans (hbg.mono hb0f.size)
  have Hfin := Lib.hid hb0g
  clear hb0g hb0f hbg hLf hEg
  go_wp2
  go_ret
  exact ⟨rfl, Hfin.out⟩
set_option maxRecDepth 100000 in
set_option maxHeartbeats 16000000 in
theorem pnone_b4 (first n slot : Int) (hf : -9223372036854775808 ≤ first ∧ first ≤ 9223372036854775807) (hn : -9223372036854775808 ≤ n ∧ n ≤ 9223372036854775807) (h1 : 0 ≤ first) (h2 : 1 ≤ n) (h4 : 38 - n < first) (w : World) (hL : Laid w) :
    Calls Tryz.prog 9 #[.int .i64 first, .int .i64 n, .int .i64 slot] w (RetP (.bool true) w) := by
  have hpos := hL.pos
  obtain ⟨zv, Hz⟩ : ∃ zv : Array Value, Hid (zv = (entC noE).toArray) := ⟨_, rfl⟩
  have hbz : Hid (Tryz.prog.built 73 [] = some zv) := by rw [Hz.out]; exact builtEnt0
  have hzV : entV noE = .agg zv := by rw [Hz.out]; rfl
  obtain ⟨zd, Hzd⟩ : ∃ zd : Array Value, Hid (zd = ((List.replicate 32 (0 : UInt8)).map cu8).toArray) := ⟨_, rfl⟩
  have hbd : Hid (Tryz.prog.built 71 [] = some zd) := by rw [Hzd.out]; exact built_dg0
  have hzD : digV (List.replicate 32 0) = .agg zd := by rw [Hzd.out]; rfl
  have hal : ∀ w : World, (Instr.alloc 73 true (.tuple #[])).run Tryz.prog w = .ok (.pointer (some ⟨w.heap.size, 0, none⟩)) (w.alloc (.cells zv 73)) := by rw [Hz.out]; exact allocEnt
  have hzi : Hid ((Tryz.prog.info? 73).map (·.size) = some zv.size) := by rw [Hz.out, List.size_toArray, entC_len (by simp [noE])]; exact infoEnt
  have hz1 : Hid (zv.all (·.oneCell') = true) := by rw [Hz.out]; exact all_oneCell_toArray (entC_one noE)
  have HGet := Lib.hid (fun W => (show Calls Tryz.prog 35 #[.pointer none, .int .i64 slot] W (PGetV (.agg zv) W) by have := pGet_nil W slot; unfold PGetP at this; rw [hzV] at this; exact this))
  have HFin := Lib.hid (fun W => (show Calls Tryz.prog 36 #[.pointer none, .agg zd] W (LkP 0 false 1 W) by have := pFind_nil (List.replicate 32 0) (by simp) W; rw [hzD] at this; exact this))
  have HFre := Lib.hid (fun W => (show Calls Tryz.prog 37 #[.pointer none, .agg zd] W (FrP 0 1 W) by have := pFree_nil (List.replicate 32 0) (by simp) W; rw [hzD] at this; exact this))
  have HSlo := Lib.hid (fun W => pSlot_nil slot W)
  have HAll := Lib.hid (fun W => pAll_nil W)
  have HSet := Lib.hid (fun W => (show Calls Tryz.prog 42 #[.pointer none, .int .i64 slot, .agg zv] W (PSetP 1 (fun w' => Below W.heap.size W w')) by have := pSet_nil slot noE (by simp [noE]) W; rw [hzV] at this; exact this))
  clear hzV hzD
  go_enter Tryz.func9, Tryz.ntmps9
  go_wp2_with (first
    | (go_at_call 34; refine (stands8_any _).mono ?_))
  rintro e w1 ⟨rfl, hb01⟩
  go_wp2_with (first
    | (go_at_call 35; refine (HGet.out _).mono ?_))
  rintro e w3 ⟨va, rfl, hEa, hb3⟩
  have hb03 := hb01.trans (hb3.mono hb01.size)
  clear HGet hb01 hb3
  go_upto_region 5 with (first
    | (refine wpList_alloc_arr rfl 73 rfl _ hal ?_)
    | (refine wpList_store_new rfl 73 _ _ rfl w3.heap.size rfl zv rfl rfl 73 _ hzi.out rfl hz1.out ?_))
  have hb4 : Below w3.heap.size w3 (w3.alloc (.cells zv 73)) := (Below.refl _ _).alloc (Nat.le_refl _) _
  have hb0p := hb03.trans (hb4.mono hb03.size)
  have hEa := hEa.below hb4
  generalize w3.alloc (.cells zv 73) = wp at hb4 hb0p hEa ⊢
  generalize w3.heap.size = k3 at hb4 ⊢
  clear hb4 hb03 hzi hz1 hal
  go_wp2_with (first
    | (refine wpList_buildZ 71 rfl zd hbd.out (by rfl) ?_)
    | (go_at_call 36; refine (HFin.out _).mono ?_))
  rintro e wq ⟨vb, rfl, hEb, hbq⟩
  have hb0q := hb0p.trans (hbq.mono hb0p.size)
  have hEa := hEa.below hbq
  clear HFin hb0p hbq
  rename Below _ _ wq => hb0p
  rename World => wp
  go_wp2_with (first
    | (refine wpList_buildZ 71 rfl zd hbd.out (by rfl) ?_)
    | (go_at_call 37; refine (HFre.out _).mono ?_))
  rintro e wq ⟨vc, rfl, hEc, hbq⟩
  have hb0q := hb0p.trans (hbq.mono hb0p.size)
  have hEa := hEa.below hbq
  have hEb := hEb.below hbq
  clear HFre hb0p hbq
  rename Below _ _ wq => hb0p
  rename World => wp
  go_wp2_with (first
    | (go_at_call 38; refine (HSlo.out _).mono ?_))
  rintro e wq ⟨vd, rfl, hEd, hbq⟩
  have hb0q := hb0p.trans (hbq.mono hb0p.size)
  have hEa := hEa.below hbq
  have hEb := hEb.below hbq
  have hEc := hEc.below hbq
  clear HSlo hb0p hbq
  rename Below _ _ wq => hb0p
  rename World => wp
  go_wp2_with (first
    | (go_at_call 39; refine (HAll.out _).mono ?_))
  rintro e wq ⟨ve, rfl, hEe, hbq⟩
  have hb0q := hb0p.trans (hbq.mono hb0p.size)
  have hEa := hEa.below hbq
  have hEb := hEb.below hbq
  have hEc := hEc.below hbq
  have hEd := hEd.below hbq
  clear HAll hb0p hbq
  rename Below _ _ wq => hb0p
  rename World => wp
  have Hnw := Lib.hid (own_new (B := wp.heap.size) (w0 := wp) (w := wp) 140 (by omega) (by omega) (Below.refl _ _) (Nat.le_refl _))
  go_wp2_with (first
    | (go_at_call 21; refine Hnw.out.mono ?_))
  rintro e w9 ⟨gd, rfl, hD4⟩
  have Hm := Lib.hid (hD4.mountNew (D := 140) (n := 100) (by omega) (by omega) (by omega) (by omega))
  clear hD4 Hnw
  go_wp2_with (first
    | (go_at_call 22; refine Hm.out.mono ?_))
  rintro e wa ⟨g, rfl, hB5⟩
  have hpg := hB5.pages
  rw [bk140] at hpg
  have hb8a := hB5.bel
  have hb0a := hb0p.trans (hb8a.mono hb0p.size)
  have hEa := hEa.below hb8a
  have hEb := hEb.below hb8a
  have hEc := hEc.below hb8a
  have hEd := hEd.below hb8a
  have hEe := hEe.below hb8a
  clear hb8a hb0p hB5 Hm
  have Hn := Lib.hid (tabNew_bad hpg (by omega) first n hf hn (by omega))
  clear hpg
  go_wp2_with (first
    | (go_at_call 40; refine Hn.out.mono ?_))
  rintro e wb ⟨v6, rfl, hEg, hbb⟩
  have q1 : 0 ≤ first := by omega
  have q2 : 1 ≤ n := by omega
  have q6 : IntKind.i64.wrap (38 - n) = 38 - n := IntWalk.i64_in _ (by omega)
  have q5 : decide (first ≤ 38 - n) = false := decide_eq_false (by omega)
  have hb0b := hb0a.trans (hbb.mono hb0a.size)
  have hEa := hEa.below hbb
  have hEb := hEb.below hbb
  have hEc := hEc.below hbb
  have hEd := hEd.below hbb
  have hEe := hEe.below hbb
  have hLc := hL.below hpos hb0b
  clear Hn hb0a hbb
  go_wp2_with (first
    | (go_at_call 41; refine (num8 1 va _ hLc hEa).mono ?_))
  rintro e wc ⟨rfl, hbc⟩
  have hb0c := hb0b.trans (hbc.mono hb0b.size)
  have hEb := hEb.below hbc
  have hEc := hEc.below hbc
  have hEd := hEd.below hbc
  have hEe := hEe.below hbc
  have hEg := hEg.below hbc
  have hLd := hLc.below hLc.pos hbc
  clear hLc hbc hb0b hEa
  rename Laid wc => hLc
  rename Below _ _ wc => hb0b
  go_wp2_with (first
    | (go_at_call 41; refine (num8 1 vb _ hLc hEb).mono ?_))
  rintro e wc ⟨rfl, hbc⟩
  have hb0c := hb0b.trans (hbc.mono hb0b.size)
  have hEc := hEc.below hbc
  have hEd := hEd.below hbc
  have hEe := hEe.below hbc
  have hEg := hEg.below hbc
  have hLd := hLc.below hLc.pos hbc
  clear hLc hbc hb0b hEb
  rename Laid wc => hLc
  rename Below _ _ wc => hb0b
  go_wp2_with (first
    | (go_at_call 41; refine (num8 1 vc _ hLc hEc).mono ?_))
  rintro e wc ⟨rfl, hbc⟩
  have hb0c := hb0b.trans (hbc.mono hb0b.size)
  have hEd := hEd.below hbc
  have hEe := hEe.below hbc
  have hEg := hEg.below hbc
  have hLd := hLc.below hLc.pos hbc
  clear hLc hbc hb0b hEc
  rename Laid wc => hLc
  rename Below _ _ wc => hb0b
  go_wp2_with (first
    | (go_at_call 41; refine (num8 1 vd _ hLc hEd).mono ?_))
  rintro e wc ⟨rfl, hbc⟩
  have hb0c := hb0b.trans (hbc.mono hb0b.size)
  have hEe := hEe.below hbc
  have hEg := hEg.below hbc
  have hLd := hLc.below hLc.pos hbc
  clear hLc hbc hb0b hEd
  rename Laid wc => hLc
  rename Below _ _ wc => hb0b
  go_wp2_with (first
    | (go_at_call 41; refine (num8 1 ve _ hLc hEe).mono ?_))
  rintro e wc ⟨rfl, hbc⟩
  have hb0c := hb0b.trans (hbc.mono hb0b.size)
  have hEg := hEg.below hbc
  have hLd := hLc.below hLc.pos hbc
  clear hLc hbc hb0b hEe
  rename Laid wc => hLc
  rename Below _ _ wc => hb0b
  go_wp2_with (first
    | (refine wpList_buildZ 73 rfl zv hbz.out (by rfl) ?_)
    | (go_at_call 42; refine (HSet.out _).mono ?_))
  rintro e wd ⟨vs, rfl, hEs, hbd'⟩
  have hb0d := hb0b.trans (hbd'.mono hb0b.size)
  have hEg := hEg.below hbd'
  have hLd := hLc.below hLc.pos hbd'
  clear HSet hb0b hbd' hLc
  go_wp2_with (first
    | (go_at_call 41; refine (num8 1 vs _ hLd hEs).mono ?_))
  rintro e we ⟨rfl, hbe⟩
  have hb0e := hb0d.trans (hbe.mono hb0d.size)
  have hEg := hEg.below hbe
  have hLe := hLd.below hLd.pos hbe
  clear hb0d hbe hLd hEs
  go_wp2_with (first
    | (go_at_call 41; refine (num8 1 v6 _ hLe hEg).mono ?_))
  rintro e wf ⟨rfl, hbf⟩
  have hb0f := hb0e.trans (hbf.mono hb0e.size)
  have hEg := hEg.below hbf
  have hLf := hLe.below hLe.pos hbf
  clear hbf hb0e hLe
  go_wp2_with (first
    | (go_at_call 41; refine (num8 1 v6 _ hLf hEg).mono ?_))
  rintro e wg ⟨rfl, hbg⟩
  have hb0g := hb0f.trans (hbg.mono hb0f.size)
  have Hfin := Lib.hid hb0g
  clear hb0g hb0f hbg hLf hEg
  go_wp2
  go_ret
  exact ⟨rfl, Hfin.out⟩
theorem printsNone_any (first n slot : Int) (hf : -9223372036854775808 ≤ first ∧ first ≤ 9223372036854775807) (hn : -9223372036854775808 ≤ n ∧ n ≤ 9223372036854775807) (w : World) (hL : Laid w) :
    Calls Tryz.prog 9 #[.int .i64 first, .int .i64 n, .int .i64 slot] w (RetP (.bool true) w) := by
  by_cases h1 : first < 0
  · exact pnone_b1 first n slot hf hn h1 w hL
  by_cases h2 : n < 1
  · exact pnone_b2 first n slot hf hn (by omega) h2 w hL
  by_cases h4 : 38 - n < first
  · exact pnone_b4 first n slot hf hn (by omega) (by omega) h4 w hL
  exact pnone_ok first n slot hf hn (by omega) (by omega) (by omega) w hL
end Go.Proofs.YtopjhgpgompenaaGreatDoor
