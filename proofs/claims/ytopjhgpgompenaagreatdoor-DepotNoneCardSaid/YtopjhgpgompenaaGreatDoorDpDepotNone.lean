/-
  'DepotNone': its walk.
-/
import Derived.Test.YtopjhgpgompenaaGreatDoorDpLaw
set_option linter.unusedSimpArgs false
set_option linter.unusedVariables false
namespace Go.Proofs.YtopjhgpgompenaaGreatDoor
open Go.RowKit Sh Go.Maps Go.Extern.Stop Go.Stop Go.Extern

theorem bk140 : (bk1 140 100).pages = 38 := (fr (D := 140) (n := 100) (by omega) (by omega) (by omega) (by omega)).pages
def NumQ (n : Int) (w : World) (e : Ending) (w' : World) : Prop := e = .returned (.int .i64 n) ∧ Below w.heap.size w w'
theorem num7 (n : Int) (v : Value) (w : World) (hL : Laid w) (hE : ErrV w n v) : Calls Tryz.prog 24 #[v] w (NumQ n w) := num_any n v w hL hE
attribute [local irreducible] bk1 bk0
set_option maxRecDepth 100000 in
set_option maxHeartbeats 16000000 in
theorem dnone_ok (first n slot : Int) (hf : -9223372036854775808 ≤ first ∧ first ≤ 9223372036854775807) (hn : -9223372036854775808 ≤ n ∧ n ≤ 9223372036854775807) (h1 : 0 ≤ first) (h2 : 1 ≤ n) (h3 : n ≤ 64) (h4 : first ≤ 38 - 5 * n) (w : World) (hL : Laid w) :
    Calls Tryz.prog 3 #[.int .i64 first, .int .i64 n, .int .i64 slot] w (RetP (.bool true) w) := by
  have hpos := hL.pos
  obtain ⟨zv, Hz⟩ : ∃ zv : Array Value, Hid (zv = zeros64) := ⟨_, rfl⟩
  have hbz : Hid (Tryz.prog.built 28 [] = some zv) := by rw [Hz.out]; exact built64
  have hzV : pageV (List.replicate 64 0) = .agg zv := by rw [Hz.out, zerosV]; rfl
  have hal : ∀ w : World, (Instr.alloc 28 true (.tuple #[])).run Tryz.prog w = .ok (.pointer (some ⟨w.heap.size, 0, none⟩)) (w.alloc (.cells zv 28)) := by rw [Hz.out]; exact alloc64
  have hzi : Hid ((Tryz.prog.info? 28).map (·.size) = some zv.size) := by rw [Hz.out, zerosV]; exact pageInfo (by simp)
  have hz1 : Hid (zv.all (·.oneCell') = true) := by rw [Hz.out, zerosV]; exact bytes_one _
  have HPut := Lib.hid (fun W => (show Calls Tryz.prog 15 #[.pointer none, .agg zv] W (TQ2 (.int .i64 0) 1 (fun w' => Below W.heap.size W w')) by have := dPut_nil W (List.replicate 64 0) (by simp); rw [hzV] at this; exact this))
  have HGet := Lib.hid (fun W => (show Calls Tryz.prog 16 #[.pointer none, .int .i64 slot] W (TQ2 (.agg zv) 1 (fun w' => Below W.heap.size W w')) by have := dGet_nil W slot; unfold PageP at this; rw [hzV] at this; exact this))
  have HMov := Lib.hid (fun W => dMove_nil W slot)
  have HSlo := Lib.hid (fun W => dSlots_nil W slot)
  have HWor := Lib.hid (fun W => dWorst_nil W)
  have HCou := Lib.hid (fun W => dCount_nil W)
  have HDro := Lib.hid (fun W => dDrop_nil W slot)
  clear hzV
  go_enter Tryz.func3, Tryz.ntmps3
  go_wp2_with (first
    | (go_at_call 14; refine (stands7_any _).mono ?_))
  rintro e w1 ⟨rfl, hb01⟩
  go_wp2_with (first
    | (refine wpList_buildZ 28 rfl zv hbz.out (by rfl) ?_)
    | (go_at_call 15; refine (HPut.out _).mono ?_))
  rintro e w2 ⟨va, rfl, hEa, hb2⟩
  have hb02 := hb01.trans (hb2.mono hb01.size)
  clear HPut hb01 hb2 hbz
  go_wp2_with (first
    | (go_at_call 16; refine (HGet.out _).mono ?_))
  rintro e w3 ⟨vb, rfl, hEb, hb3⟩
  have hb03 := hb02.trans (hb3.mono hb02.size)
  have hEa := hEa.below hb3
  clear HGet hb02 hb3
  go_upto_region 6 with (first
    | (refine wpList_alloc_arr rfl 28 rfl _ hal ?_)
    | (refine wpList_store_new rfl 28 _ _ rfl w3.heap.size rfl zv rfl rfl 28 _ hzi.out rfl hz1.out ?_))
  have hb4 : Below w3.heap.size w3 (w3.alloc (.cells zv 28)) := (Below.refl _ _).alloc (Nat.le_refl _) _
  have hb04 := hb03.trans (hb4.mono hb03.size)
  have hEa := hEa.below hb4
  have hEb := hEb.below hb4
  generalize w3.alloc (.cells zv 28) = w4 at hb4 hb04 hEa hEb ⊢
  generalize w3.heap.size = k3 at hb4 ⊢
  clear hb4 hb03 hzi hz1 hal
  go_wp2_with (first
    | (go_at_call 17; refine (HMov.out _).mono ?_))
  rintro e w5 ⟨vc, rfl, hEc, hb5⟩
  have hb05 := hb04.trans (hb5.mono hb04.size)
  have hEa := hEa.below hb5
  have hEb := hEb.below hb5
  clear HMov hb04 hb5
  go_wp2_with (first
    | (go_at_call 18; refine (HSlo.out _).mono ?_))
  rintro e w6 ⟨vd, rfl, hEd, hb6⟩
  have hb06 := hb05.trans (hb6.mono hb05.size)
  have hEa := hEa.below hb6
  have hEb := hEb.below hb6
  have hEc := hEc.below hb6
  clear HSlo hb05 hb6
  go_wp2_with (first
    | (go_at_call 19; refine (HWor.out _).mono ?_))
  rintro e w7 ⟨ve, rfl, hEe, hb7⟩
  have hb07 := hb06.trans (hb7.mono hb06.size)
  have hEa := hEa.below hb7
  have hEb := hEb.below hb7
  have hEc := hEc.below hb7
  have hEd := hEd.below hb7
  clear HWor hb06 hb7
  go_wp2_with (first
    | (go_at_call 20; refine (HCou.out _).mono ?_))
  rintro e w8 ⟨vf, rfl, hEf, hb8⟩
  have hb08 := hb07.trans (hb8.mono hb07.size)
  have hEa := hEa.below hb8
  have hEb := hEb.below hb8
  have hEc := hEc.below hb8
  have hEd := hEd.below hb8
  have hEe := hEe.below hb8
  have Hnw := Lib.hid (own_new (B := w8.heap.size) (w0 := w8) (w := w8) 140 (by omega) (by omega) (Below.refl _ _) (Nat.le_refl _))
  clear HCou hb07 hb8
  go_wp2_with (first
    | (go_at_call 21; refine Hnw.out.mono ?_))
  rintro e w9 ⟨gd, rfl, hD4⟩
  have Hm := Lib.hid (hD4.mountNew (D := 140) (n := 100) (by omega) (by omega) (by omega) (by omega))
  clear hD4 Hnw
  go_wp2_with (first
    | (go_at_call 22; refine Hm.out.mono ?_))
  rintro e wa ⟨g, rfl, hB5⟩
  have hpg := hB5.pages
  rw [bk140] at hpg
  have hb8a := hB5.bel
  have hb0a := hb08.trans (hb8a.mono hb08.size)
  have hEa := hEa.below hb8a
  have hEb := hEb.below hb8a
  have hEc := hEc.below hb8a
  have hEd := hEd.below hb8a
  have hEe := hEe.below hb8a
  have hEf := hEf.below hb8a
  clear hb8a hb08 hB5 Hm
  obtain ⟨F, rfl⟩ : ∃ F : Nat, first = (F : Int) := ⟨first.toNat, by omega⟩
  obtain ⟨K, rfl⟩ : ∃ K : Nat, n = (K : Int) := ⟨n.toNat, by omega⟩
  have Hn := Lib.hid (depNew_ok hpg (by omega) F K (by omega) (by omega) (by omega))
  clear hpg
  go_wp2_with (first
    | (go_at_call 23; refine Hn.out.mono ?_))
  rintro e wb ⟨x, rfl, _, hbb, _⟩
  have hEg : ErrV wb 0 .nilIface := ErrV.nil
  have q1 : (0 : Int) ≤ (F : Int) := by omega
  have q2 : (1 : Int) ≤ (K : Int) := by omega
  have q3 : (K : Int) ≤ 64 := by omega
  have q4 : IntKind.i64.wrap (5 * (K : Int)) = 5 * (K : Int) := IntWalk.i64_in _ (by omega)
  have q6 : IntKind.i64.wrap (38 - 5 * (K : Int)) = 38 - 5 * (K : Int) := IntWalk.i64_in _ (by omega)
  have q5 : (F : Int) ≤ 38 - 5 * (K : Int) := by omega
  have hb0b := hb0a.trans (hbb.mono hb0a.size)
  have hEa := hEa.below hbb
  have hEb := hEb.below hbb
  have hEc := hEc.below hbb
  have hEd := hEd.below hbb
  have hEe := hEe.below hbb
  have hEf := hEf.below hbb
  have hLc := hL.below hpos hb0b
  clear Hn hb0a hbb
  go_wp2_with (first
    | (go_at_call 24; refine (num7 1 va _ hLc hEa).mono ?_))
  rintro e wc ⟨rfl, hbc⟩
  have hb0c := hb0b.trans (hbc.mono hb0b.size)
  have hEb := hEb.below hbc
  have hEc := hEc.below hbc
  have hEd := hEd.below hbc
  have hEe := hEe.below hbc
  have hEf := hEf.below hbc
  have hEg := hEg.below hbc
  have hLd := hLc.below hLc.pos hbc
  clear hLc hbc hb0b hEa
  rename Laid wc => hLc
  rename Below _ _ wc => hb0b
  go_wp2_with (first
    | (go_at_call 24; refine (num7 1 vb _ hLc hEb).mono ?_))
  rintro e wc ⟨rfl, hbc⟩
  have hb0c := hb0b.trans (hbc.mono hb0b.size)
  have hEc := hEc.below hbc
  have hEd := hEd.below hbc
  have hEe := hEe.below hbc
  have hEf := hEf.below hbc
  have hEg := hEg.below hbc
  have hLd := hLc.below hLc.pos hbc
  clear hLc hbc hb0b hEb
  rename Laid wc => hLc
  rename Below _ _ wc => hb0b
  go_wp2_with (first
    | (go_at_call 24; refine (num7 1 vc _ hLc hEc).mono ?_))
  rintro e wc ⟨rfl, hbc⟩
  have hb0c := hb0b.trans (hbc.mono hb0b.size)
  have hEd := hEd.below hbc
  have hEe := hEe.below hbc
  have hEf := hEf.below hbc
  have hEg := hEg.below hbc
  have hLd := hLc.below hLc.pos hbc
  clear hLc hbc hb0b hEc
  rename Laid wc => hLc
  rename Below _ _ wc => hb0b
  go_wp2_with (first
    | (go_at_call 24; refine (num7 1 vd _ hLc hEd).mono ?_))
  rintro e wc ⟨rfl, hbc⟩
  have hb0c := hb0b.trans (hbc.mono hb0b.size)
  have hEe := hEe.below hbc
  have hEf := hEf.below hbc
  have hEg := hEg.below hbc
  have hLd := hLc.below hLc.pos hbc
  clear hLc hbc hb0b hEd
  rename Laid wc => hLc
  rename Below _ _ wc => hb0b
  go_wp2_with (first
    | (go_at_call 24; refine (num7 1 ve _ hLc hEe).mono ?_))
  rintro e wc ⟨rfl, hbc⟩
  have hb0c := hb0b.trans (hbc.mono hb0b.size)
  have hEf := hEf.below hbc
  have hEg := hEg.below hbc
  have hLd := hLc.below hLc.pos hbc
  clear hLc hbc hb0b hEe
  rename Laid wc => hLc
  rename Below _ _ wc => hb0b
  go_wp2_with (first
    | (go_at_call 24; refine (num7 1 vf _ hLc hEf).mono ?_))
  rintro e wc ⟨rfl, hbc⟩
  have hb0c := hb0b.trans (hbc.mono hb0b.size)
  have hEg := hEg.below hbc
  have hLd := hLc.below hLc.pos hbc
  clear hLc hbc hb0b hEf
  rename Laid wc => hLc
  rename Below _ _ wc => hb0b
  go_wp2_with (first
    | (go_at_call 25; refine (HDro.out _).mono ?_))
  rintro e wd ⟨vs, rfl, hEs, hbd⟩
  have hb0d := hb0b.trans (hbd.mono hb0b.size)
  have hEg := hEg.below hbd
  have hLd := hLc.below hLc.pos hbd
  clear HDro hb0b hbd hLc
  go_wp2_with (first
    | (go_at_call 24; refine (num7 1 vs _ hLd hEs).mono ?_))
  rintro e we ⟨rfl, hbe⟩
  have hb0e := hb0d.trans (hbe.mono hb0d.size)
  have hEg := hEg.below hbe
  have hLe := hLd.below hLd.pos hbe
  clear hb0d hbe hLd hEs
  go_wp2_with (first
    | (go_at_call 24; refine (num_nil _).mono ?_))
  rintro e w' ⟨rfl, rfl⟩
  have Hfin := Lib.hid hb0e
  clear hb0e hLe hEg
  go_wp2
  go_ret
  exact ⟨rfl, Hfin.out⟩
set_option maxRecDepth 100000 in
set_option maxHeartbeats 16000000 in
theorem dnone_b1 (first n slot : Int) (hf : -9223372036854775808 ≤ first ∧ first ≤ 9223372036854775807) (hn : -9223372036854775808 ≤ n ∧ n ≤ 9223372036854775807) (h1 : first < 0) (w : World) (hL : Laid w) :
    Calls Tryz.prog 3 #[.int .i64 first, .int .i64 n, .int .i64 slot] w (RetP (.bool true) w) := by
  have hpos := hL.pos
  obtain ⟨zv, Hz⟩ : ∃ zv : Array Value, Hid (zv = zeros64) := ⟨_, rfl⟩
  have hbz : Hid (Tryz.prog.built 28 [] = some zv) := by rw [Hz.out]; exact built64
  have hzV : pageV (List.replicate 64 0) = .agg zv := by rw [Hz.out, zerosV]; rfl
  have hal : ∀ w : World, (Instr.alloc 28 true (.tuple #[])).run Tryz.prog w = .ok (.pointer (some ⟨w.heap.size, 0, none⟩)) (w.alloc (.cells zv 28)) := by rw [Hz.out]; exact alloc64
  have hzi : Hid ((Tryz.prog.info? 28).map (·.size) = some zv.size) := by rw [Hz.out, zerosV]; exact pageInfo (by simp)
  have hz1 : Hid (zv.all (·.oneCell') = true) := by rw [Hz.out, zerosV]; exact bytes_one _
  have HPut := Lib.hid (fun W => (show Calls Tryz.prog 15 #[.pointer none, .agg zv] W (TQ2 (.int .i64 0) 1 (fun w' => Below W.heap.size W w')) by have := dPut_nil W (List.replicate 64 0) (by simp); rw [hzV] at this; exact this))
  have HGet := Lib.hid (fun W => (show Calls Tryz.prog 16 #[.pointer none, .int .i64 slot] W (TQ2 (.agg zv) 1 (fun w' => Below W.heap.size W w')) by have := dGet_nil W slot; unfold PageP at this; rw [hzV] at this; exact this))
  have HMov := Lib.hid (fun W => dMove_nil W slot)
  have HSlo := Lib.hid (fun W => dSlots_nil W slot)
  have HWor := Lib.hid (fun W => dWorst_nil W)
  have HCou := Lib.hid (fun W => dCount_nil W)
  have HDro := Lib.hid (fun W => dDrop_nil W slot)
  clear hzV
  go_enter Tryz.func3, Tryz.ntmps3
  go_wp2_with (first
    | (go_at_call 14; refine (stands7_any _).mono ?_))
  rintro e w1 ⟨rfl, hb01⟩
  go_wp2_with (first
    | (refine wpList_buildZ 28 rfl zv hbz.out (by rfl) ?_)
    | (go_at_call 15; refine (HPut.out _).mono ?_))
  rintro e w2 ⟨va, rfl, hEa, hb2⟩
  have hb02 := hb01.trans (hb2.mono hb01.size)
  clear HPut hb01 hb2 hbz
  go_wp2_with (first
    | (go_at_call 16; refine (HGet.out _).mono ?_))
  rintro e w3 ⟨vb, rfl, hEb, hb3⟩
  have hb03 := hb02.trans (hb3.mono hb02.size)
  have hEa := hEa.below hb3
  clear HGet hb02 hb3
  go_upto_region 6 with (first
    | (refine wpList_alloc_arr rfl 28 rfl _ hal ?_)
    | (refine wpList_store_new rfl 28 _ _ rfl w3.heap.size rfl zv rfl rfl 28 _ hzi.out rfl hz1.out ?_))
  have hb4 : Below w3.heap.size w3 (w3.alloc (.cells zv 28)) := (Below.refl _ _).alloc (Nat.le_refl _) _
  have hb04 := hb03.trans (hb4.mono hb03.size)
  have hEa := hEa.below hb4
  have hEb := hEb.below hb4
  generalize w3.alloc (.cells zv 28) = w4 at hb4 hb04 hEa hEb ⊢
  generalize w3.heap.size = k3 at hb4 ⊢
  clear hb4 hb03 hzi hz1 hal
  go_wp2_with (first
    | (go_at_call 17; refine (HMov.out _).mono ?_))
  rintro e w5 ⟨vc, rfl, hEc, hb5⟩
  have hb05 := hb04.trans (hb5.mono hb04.size)
  have hEa := hEa.below hb5
  have hEb := hEb.below hb5
  clear HMov hb04 hb5
  go_wp2_with (first
    | (go_at_call 18; refine (HSlo.out _).mono ?_))
  rintro e w6 ⟨vd, rfl, hEd, hb6⟩
  have hb06 := hb05.trans (hb6.mono hb05.size)
  have hEa := hEa.below hb6
  have hEb := hEb.below hb6
  have hEc := hEc.below hb6
  clear HSlo hb05 hb6
  go_wp2_with (first
    | (go_at_call 19; refine (HWor.out _).mono ?_))
  rintro e w7 ⟨ve, rfl, hEe, hb7⟩
  have hb07 := hb06.trans (hb7.mono hb06.size)
  have hEa := hEa.below hb7
  have hEb := hEb.below hb7
  have hEc := hEc.below hb7
  have hEd := hEd.below hb7
  clear HWor hb06 hb7
  go_wp2_with (first
    | (go_at_call 20; refine (HCou.out _).mono ?_))
  rintro e w8 ⟨vf, rfl, hEf, hb8⟩
  have hb08 := hb07.trans (hb8.mono hb07.size)
  have hEa := hEa.below hb8
  have hEb := hEb.below hb8
  have hEc := hEc.below hb8
  have hEd := hEd.below hb8
  have hEe := hEe.below hb8
  have Hnw := Lib.hid (own_new (B := w8.heap.size) (w0 := w8) (w := w8) 140 (by omega) (by omega) (Below.refl _ _) (Nat.le_refl _))
  clear HCou hb07 hb8
  go_wp2_with (first
    | (go_at_call 21; refine Hnw.out.mono ?_))
  rintro e w9 ⟨gd, rfl, hD4⟩
  have Hm := Lib.hid (hD4.mountNew (D := 140) (n := 100) (by omega) (by omega) (by omega) (by omega))
  clear hD4 Hnw
  go_wp2_with (first
    | (go_at_call 22; refine Hm.out.mono ?_))
  rintro e wa ⟨g, rfl, hB5⟩
  have hpg := hB5.pages
  rw [bk140] at hpg
  have hb8a := hB5.bel
  have hb0a := hb08.trans (hb8a.mono hb08.size)
  have hEa := hEa.below hb8a
  have hEb := hEb.below hb8a
  have hEc := hEc.below hb8a
  have hEd := hEd.below hb8a
  have hEe := hEe.below hb8a
  have hEf := hEf.below hb8a
  clear hb8a hb08 hB5 Hm
  have Hn := Lib.hid (depNew_bad hpg (by omega) first n hf (by omega))
  clear hpg
  go_wp2_with (first
    | (go_at_call 23; refine Hn.out.mono ?_))
  rintro e wb ⟨v6, rfl, hEg, hbb⟩
  have q1 : ¬ (0 ≤ first) := by omega
  have hb0b := hb0a.trans (hbb.mono hb0a.size)
  have hEa := hEa.below hbb
  have hEb := hEb.below hbb
  have hEc := hEc.below hbb
  have hEd := hEd.below hbb
  have hEe := hEe.below hbb
  have hEf := hEf.below hbb
  have hLc := hL.below hpos hb0b
  clear Hn hb0a hbb
  go_wp2_with (first
    | (go_at_call 24; refine (num7 1 va _ hLc hEa).mono ?_))
  rintro e wc ⟨rfl, hbc⟩
  have hb0c := hb0b.trans (hbc.mono hb0b.size)
  have hEb := hEb.below hbc
  have hEc := hEc.below hbc
  have hEd := hEd.below hbc
  have hEe := hEe.below hbc
  have hEf := hEf.below hbc
  have hEg := hEg.below hbc
  have hLd := hLc.below hLc.pos hbc
  clear hLc hbc hb0b hEa
  rename Laid wc => hLc
  rename Below _ _ wc => hb0b
  go_wp2_with (first
    | (go_at_call 24; refine (num7 1 vb _ hLc hEb).mono ?_))
  rintro e wc ⟨rfl, hbc⟩
  have hb0c := hb0b.trans (hbc.mono hb0b.size)
  have hEc := hEc.below hbc
  have hEd := hEd.below hbc
  have hEe := hEe.below hbc
  have hEf := hEf.below hbc
  have hEg := hEg.below hbc
  have hLd := hLc.below hLc.pos hbc
  clear hLc hbc hb0b hEb
  rename Laid wc => hLc
  rename Below _ _ wc => hb0b
  go_wp2_with (first
    | (go_at_call 24; refine (num7 1 vc _ hLc hEc).mono ?_))
  rintro e wc ⟨rfl, hbc⟩
  have hb0c := hb0b.trans (hbc.mono hb0b.size)
  have hEd := hEd.below hbc
  have hEe := hEe.below hbc
  have hEf := hEf.below hbc
  have hEg := hEg.below hbc
  have hLd := hLc.below hLc.pos hbc
  clear hLc hbc hb0b hEc
  rename Laid wc => hLc
  rename Below _ _ wc => hb0b
  go_wp2_with (first
    | (go_at_call 24; refine (num7 1 vd _ hLc hEd).mono ?_))
  rintro e wc ⟨rfl, hbc⟩
  have hb0c := hb0b.trans (hbc.mono hb0b.size)
  have hEe := hEe.below hbc
  have hEf := hEf.below hbc
  have hEg := hEg.below hbc
  have hLd := hLc.below hLc.pos hbc
  clear hLc hbc hb0b hEd
  rename Laid wc => hLc
  rename Below _ _ wc => hb0b
  go_wp2_with (first
    | (go_at_call 24; refine (num7 1 ve _ hLc hEe).mono ?_))
  rintro e wc ⟨rfl, hbc⟩
  have hb0c := hb0b.trans (hbc.mono hb0b.size)
  have hEf := hEf.below hbc
  have hEg := hEg.below hbc
  have hLd := hLc.below hLc.pos hbc
  clear hLc hbc hb0b hEe
  rename Laid wc => hLc
  rename Below _ _ wc => hb0b
  go_wp2_with (first
    | (go_at_call 24; refine (num7 1 vf _ hLc hEf).mono ?_))
  rintro e wc ⟨rfl, hbc⟩
  have hb0c := hb0b.trans (hbc.mono hb0b.size)
  have hEg := hEg.below hbc
  have hLd := hLc.below hLc.pos hbc
  clear hLc hbc hb0b hEf
  rename Laid wc => hLc
  rename Below _ _ wc => hb0b
  go_wp2_with (first
    | (go_at_call 25; refine (HDro.out _).mono ?_))
  rintro e wd ⟨vs, rfl, hEs, hbd⟩
  have hb0d := hb0b.trans (hbd.mono hb0b.size)
  have hEg := hEg.below hbd
  have hLd := hLc.below hLc.pos hbd
  clear HDro hb0b hbd hLc
  go_wp2_with (first
    | (go_at_call 24; refine (num7 1 vs _ hLd hEs).mono ?_))
  rintro e we ⟨rfl, hbe⟩
  have hb0e := hb0d.trans (hbe.mono hb0d.size)
  have hEg := hEg.below hbe
  have hLe := hLd.below hLd.pos hbe
  clear hb0d hbe hLd hEs
  go_wp2_with (first
    | (go_at_call 24; refine (num7 1 v6 _ hLe hEg).mono ?_))
  rintro e wf ⟨rfl, hbf⟩
  have hb0f := hb0e.trans (hbf.mono hb0e.size)
  have hEg := hEg.below hbf
  have hLf := hLe.below hLe.pos hbf
  clear hbf hb0e hLe
  go_wp2_with (first
    | (go_at_call 24; refine (num7 1 v6 _ hLf hEg).mono ?_))
  rintro e wg ⟨rfl, hbg⟩
  have hb0g := hb0f.trans (hbg.mono hb0f.size)
  have Hfin := Lib.hid hb0g
  clear hb0g hb0f hbg hLf hEg
  go_wp2
  go_ret
  exact ⟨rfl, Hfin.out⟩
set_option maxRecDepth 100000 in
set_option maxHeartbeats 16000000 in
theorem dnone_b2 (first n slot : Int) (hf : -9223372036854775808 ≤ first ∧ first ≤ 9223372036854775807) (hn : -9223372036854775808 ≤ n ∧ n ≤ 9223372036854775807) (h1 : 0 ≤ first) (h2 : n < 1) (w : World) (hL : Laid w) :
    Calls Tryz.prog 3 #[.int .i64 first, .int .i64 n, .int .i64 slot] w (RetP (.bool true) w) := by
  have hpos := hL.pos
  obtain ⟨zv, Hz⟩ : ∃ zv : Array Value, Hid (zv = zeros64) := ⟨_, rfl⟩
  have hbz : Hid (Tryz.prog.built 28 [] = some zv) := by rw [Hz.out]; exact built64
  have hzV : pageV (List.replicate 64 0) = .agg zv := by rw [Hz.out, zerosV]; rfl
  have hal : ∀ w : World, (Instr.alloc 28 true (.tuple #[])).run Tryz.prog w = .ok (.pointer (some ⟨w.heap.size, 0, none⟩)) (w.alloc (.cells zv 28)) := by rw [Hz.out]; exact alloc64
  have hzi : Hid ((Tryz.prog.info? 28).map (·.size) = some zv.size) := by rw [Hz.out, zerosV]; exact pageInfo (by simp)
  have hz1 : Hid (zv.all (·.oneCell') = true) := by rw [Hz.out, zerosV]; exact bytes_one _
  have HPut := Lib.hid (fun W => (show Calls Tryz.prog 15 #[.pointer none, .agg zv] W (TQ2 (.int .i64 0) 1 (fun w' => Below W.heap.size W w')) by have := dPut_nil W (List.replicate 64 0) (by simp); rw [hzV] at this; exact this))
  have HGet := Lib.hid (fun W => (show Calls Tryz.prog 16 #[.pointer none, .int .i64 slot] W (TQ2 (.agg zv) 1 (fun w' => Below W.heap.size W w')) by have := dGet_nil W slot; unfold PageP at this; rw [hzV] at this; exact this))
  have HMov := Lib.hid (fun W => dMove_nil W slot)
  have HSlo := Lib.hid (fun W => dSlots_nil W slot)
  have HWor := Lib.hid (fun W => dWorst_nil W)
  have HCou := Lib.hid (fun W => dCount_nil W)
  have HDro := Lib.hid (fun W => dDrop_nil W slot)
  clear hzV
  go_enter Tryz.func3, Tryz.ntmps3
  go_wp2_with (first
    | (go_at_call 14; refine (stands7_any _).mono ?_))
  rintro e w1 ⟨rfl, hb01⟩
  go_wp2_with (first
    | (refine wpList_buildZ 28 rfl zv hbz.out (by rfl) ?_)
    | (go_at_call 15; refine (HPut.out _).mono ?_))
  rintro e w2 ⟨va, rfl, hEa, hb2⟩
  have hb02 := hb01.trans (hb2.mono hb01.size)
  clear HPut hb01 hb2 hbz
  go_wp2_with (first
    | (go_at_call 16; refine (HGet.out _).mono ?_))
  rintro e w3 ⟨vb, rfl, hEb, hb3⟩
  have hb03 := hb02.trans (hb3.mono hb02.size)
  have hEa := hEa.below hb3
  clear HGet hb02 hb3
  go_upto_region 6 with (first
    | (refine wpList_alloc_arr rfl 28 rfl _ hal ?_)
    | (refine wpList_store_new rfl 28 _ _ rfl w3.heap.size rfl zv rfl rfl 28 _ hzi.out rfl hz1.out ?_))
  have hb4 : Below w3.heap.size w3 (w3.alloc (.cells zv 28)) := (Below.refl _ _).alloc (Nat.le_refl _) _
  have hb04 := hb03.trans (hb4.mono hb03.size)
  have hEa := hEa.below hb4
  have hEb := hEb.below hb4
  generalize w3.alloc (.cells zv 28) = w4 at hb4 hb04 hEa hEb ⊢
  generalize w3.heap.size = k3 at hb4 ⊢
  clear hb4 hb03 hzi hz1 hal
  go_wp2_with (first
    | (go_at_call 17; refine (HMov.out _).mono ?_))
  rintro e w5 ⟨vc, rfl, hEc, hb5⟩
  have hb05 := hb04.trans (hb5.mono hb04.size)
  have hEa := hEa.below hb5
  have hEb := hEb.below hb5
  clear HMov hb04 hb5
  go_wp2_with (first
    | (go_at_call 18; refine (HSlo.out _).mono ?_))
  rintro e w6 ⟨vd, rfl, hEd, hb6⟩
  have hb06 := hb05.trans (hb6.mono hb05.size)
  have hEa := hEa.below hb6
  have hEb := hEb.below hb6
  have hEc := hEc.below hb6
  clear HSlo hb05 hb6
  go_wp2_with (first
    | (go_at_call 19; refine (HWor.out _).mono ?_))
  rintro e w7 ⟨ve, rfl, hEe, hb7⟩
  have hb07 := hb06.trans (hb7.mono hb06.size)
  have hEa := hEa.below hb7
  have hEb := hEb.below hb7
  have hEc := hEc.below hb7
  have hEd := hEd.below hb7
  clear HWor hb06 hb7
  go_wp2_with (first
    | (go_at_call 20; refine (HCou.out _).mono ?_))
  rintro e w8 ⟨vf, rfl, hEf, hb8⟩
  have hb08 := hb07.trans (hb8.mono hb07.size)
  have hEa := hEa.below hb8
  have hEb := hEb.below hb8
  have hEc := hEc.below hb8
  have hEd := hEd.below hb8
  have hEe := hEe.below hb8
  have Hnw := Lib.hid (own_new (B := w8.heap.size) (w0 := w8) (w := w8) 140 (by omega) (by omega) (Below.refl _ _) (Nat.le_refl _))
  clear HCou hb07 hb8
  go_wp2_with (first
    | (go_at_call 21; refine Hnw.out.mono ?_))
  rintro e w9 ⟨gd, rfl, hD4⟩
  have Hm := Lib.hid (hD4.mountNew (D := 140) (n := 100) (by omega) (by omega) (by omega) (by omega))
  clear hD4 Hnw
  go_wp2_with (first
    | (go_at_call 22; refine Hm.out.mono ?_))
  rintro e wa ⟨g, rfl, hB5⟩
  have hpg := hB5.pages
  rw [bk140] at hpg
  have hb8a := hB5.bel
  have hb0a := hb08.trans (hb8a.mono hb08.size)
  have hEa := hEa.below hb8a
  have hEb := hEb.below hb8a
  have hEc := hEc.below hb8a
  have hEd := hEd.below hb8a
  have hEe := hEe.below hb8a
  have hEf := hEf.below hb8a
  clear hb8a hb08 hB5 Hm
  have Hn := Lib.hid (depNew_bad hpg (by omega) first n hf (by omega))
  clear hpg
  go_wp2_with (first
    | (go_at_call 23; refine Hn.out.mono ?_))
  rintro e wb ⟨v6, rfl, hEg, hbb⟩
  have q1 : 0 ≤ first := by omega
  have q2 : ¬ (1 ≤ n) := by omega
  have hb0b := hb0a.trans (hbb.mono hb0a.size)
  have hEa := hEa.below hbb
  have hEb := hEb.below hbb
  have hEc := hEc.below hbb
  have hEd := hEd.below hbb
  have hEe := hEe.below hbb
  have hEf := hEf.below hbb
  have hLc := hL.below hpos hb0b
  clear Hn hb0a hbb
  go_wp2_with (first
    | (go_at_call 24; refine (num7 1 va _ hLc hEa).mono ?_))
  rintro e wc ⟨rfl, hbc⟩
  have hb0c := hb0b.trans (hbc.mono hb0b.size)
  have hEb := hEb.below hbc
  have hEc := hEc.below hbc
  have hEd := hEd.below hbc
  have hEe := hEe.below hbc
  have hEf := hEf.below hbc
  have hEg := hEg.below hbc
  have hLd := hLc.below hLc.pos hbc
  clear hLc hbc hb0b hEa
  rename Laid wc => hLc
  rename Below _ _ wc => hb0b
  go_wp2_with (first
    | (go_at_call 24; refine (num7 1 vb _ hLc hEb).mono ?_))
  rintro e wc ⟨rfl, hbc⟩
  have hb0c := hb0b.trans (hbc.mono hb0b.size)
  have hEc := hEc.below hbc
  have hEd := hEd.below hbc
  have hEe := hEe.below hbc
  have hEf := hEf.below hbc
  have hEg := hEg.below hbc
  have hLd := hLc.below hLc.pos hbc
  clear hLc hbc hb0b hEb
  rename Laid wc => hLc
  rename Below _ _ wc => hb0b
  go_wp2_with (first
    | (go_at_call 24; refine (num7 1 vc _ hLc hEc).mono ?_))
  rintro e wc ⟨rfl, hbc⟩
  have hb0c := hb0b.trans (hbc.mono hb0b.size)
  have hEd := hEd.below hbc
  have hEe := hEe.below hbc
  have hEf := hEf.below hbc
  have hEg := hEg.below hbc
  have hLd := hLc.below hLc.pos hbc
  clear hLc hbc hb0b hEc
  rename Laid wc => hLc
  rename Below _ _ wc => hb0b
  go_wp2_with (first
    | (go_at_call 24; refine (num7 1 vd _ hLc hEd).mono ?_))
  rintro e wc ⟨rfl, hbc⟩
  have hb0c := hb0b.trans (hbc.mono hb0b.size)
  have hEe := hEe.below hbc
  have hEf := hEf.below hbc
  have hEg := hEg.below hbc
  have hLd := hLc.below hLc.pos hbc
  clear hLc hbc hb0b hEd
  rename Laid wc => hLc
  rename Below _ _ wc => hb0b
  go_wp2_with (first
    | (go_at_call 24; refine (num7 1 ve _ hLc hEe).mono ?_))
  rintro e wc ⟨rfl, hbc⟩
  have hb0c := hb0b.trans (hbc.mono hb0b.size)
  have hEf := hEf.below hbc
  have hEg := hEg.below hbc
  have hLd := hLc.below hLc.pos hbc
  clear hLc hbc hb0b hEe
  rename Laid wc => hLc
  rename Below _ _ wc => hb0b
  go_wp2_with (first
    | (go_at_call 24; refine (num7 1 vf _ hLc hEf).mono ?_))
  rintro e wc ⟨rfl, hbc⟩
  have hb0c := hb0b.trans (hbc.mono hb0b.size)
  have hEg := hEg.below hbc
  have hLd := hLc.below hLc.pos hbc
  clear hLc hbc hb0b hEf
  rename Laid wc => hLc
  rename Below _ _ wc => hb0b
  go_wp2_with (first
    | (go_at_call 25; refine (HDro.out _).mono ?_))
  rintro e wd ⟨vs, rfl, hEs, hbd⟩
  have hb0d := hb0b.trans (hbd.mono hb0b.size)
  have hEg := hEg.below hbd
  have hLd := hLc.below hLc.pos hbd
  clear HDro hb0b hbd hLc
  go_wp2_with (first
    | (go_at_call 24; refine (num7 1 vs _ hLd hEs).mono ?_))
  rintro e we ⟨rfl, hbe⟩
  have hb0e := hb0d.trans (hbe.mono hb0d.size)
  have hEg := hEg.below hbe
  have hLe := hLd.below hLd.pos hbe
  clear hb0d hbe hLd hEs
  go_wp2_with (first
    | (go_at_call 24; refine (num7 1 v6 _ hLe hEg).mono ?_))
  rintro e wf ⟨rfl, hbf⟩
  have hb0f := hb0e.trans (hbf.mono hb0e.size)
  have hEg := hEg.below hbf
  have hLf := hLe.below hLe.pos hbf
  clear hbf hb0e hLe
  go_wp2_with (first
    | (go_at_call 24; refine (num7 1 v6 _ hLf hEg).mono ?_))
  rintro e wg ⟨rfl, hbg⟩
  have hb0g := hb0f.trans (hbg.mono hb0f.size)
  have Hfin := Lib.hid hb0g
  clear hb0g hb0f hbg hLf hEg
  go_wp2
  go_ret
  exact ⟨rfl, Hfin.out⟩
set_option maxRecDepth 100000 in
set_option maxHeartbeats 16000000 in
theorem dnone_b3 (first n slot : Int) (hf : -9223372036854775808 ≤ first ∧ first ≤ 9223372036854775807) (hn : -9223372036854775808 ≤ n ∧ n ≤ 9223372036854775807) (h1 : 0 ≤ first) (h2 : 64 < n) (w : World) (hL : Laid w) :
    Calls Tryz.prog 3 #[.int .i64 first, .int .i64 n, .int .i64 slot] w (RetP (.bool true) w) := by
  have hpos := hL.pos
  obtain ⟨zv, Hz⟩ : ∃ zv : Array Value, Hid (zv = zeros64) := ⟨_, rfl⟩
  have hbz : Hid (Tryz.prog.built 28 [] = some zv) := by rw [Hz.out]; exact built64
  have hzV : pageV (List.replicate 64 0) = .agg zv := by rw [Hz.out, zerosV]; rfl
  have hal : ∀ w : World, (Instr.alloc 28 true (.tuple #[])).run Tryz.prog w = .ok (.pointer (some ⟨w.heap.size, 0, none⟩)) (w.alloc (.cells zv 28)) := by rw [Hz.out]; exact alloc64
  have hzi : Hid ((Tryz.prog.info? 28).map (·.size) = some zv.size) := by rw [Hz.out, zerosV]; exact pageInfo (by simp)
  have hz1 : Hid (zv.all (·.oneCell') = true) := by rw [Hz.out, zerosV]; exact bytes_one _
  have HPut := Lib.hid (fun W => (show Calls Tryz.prog 15 #[.pointer none, .agg zv] W (TQ2 (.int .i64 0) 1 (fun w' => Below W.heap.size W w')) by have := dPut_nil W (List.replicate 64 0) (by simp); rw [hzV] at this; exact this))
  have HGet := Lib.hid (fun W => (show Calls Tryz.prog 16 #[.pointer none, .int .i64 slot] W (TQ2 (.agg zv) 1 (fun w' => Below W.heap.size W w')) by have := dGet_nil W slot; unfold PageP at this; rw [hzV] at this; exact this))
  have HMov := Lib.hid (fun W => dMove_nil W slot)
  have HSlo := Lib.hid (fun W => dSlots_nil W slot)
  have HWor := Lib.hid (fun W => dWorst_nil W)
  have HCou := Lib.hid (fun W => dCount_nil W)
  have HDro := Lib.hid (fun W => dDrop_nil W slot)
  clear hzV
  go_enter Tryz.func3, Tryz.ntmps3
  go_wp2_with (first
    | (go_at_call 14; refine (stands7_any _).mono ?_))
  rintro e w1 ⟨rfl, hb01⟩
  go_wp2_with (first
    | (refine wpList_buildZ 28 rfl zv hbz.out (by rfl) ?_)
    | (go_at_call 15; refine (HPut.out _).mono ?_))
  rintro e w2 ⟨va, rfl, hEa, hb2⟩
  have hb02 := hb01.trans (hb2.mono hb01.size)
  clear HPut hb01 hb2 hbz
  go_wp2_with (first
    | (go_at_call 16; refine (HGet.out _).mono ?_))
  rintro e w3 ⟨vb, rfl, hEb, hb3⟩
  have hb03 := hb02.trans (hb3.mono hb02.size)
  have hEa := hEa.below hb3
  clear HGet hb02 hb3
  go_upto_region 6 with (first
    | (refine wpList_alloc_arr rfl 28 rfl _ hal ?_)
    | (refine wpList_store_new rfl 28 _ _ rfl w3.heap.size rfl zv rfl rfl 28 _ hzi.out rfl hz1.out ?_))
  have hb4 : Below w3.heap.size w3 (w3.alloc (.cells zv 28)) := (Below.refl _ _).alloc (Nat.le_refl _) _
  have hb04 := hb03.trans (hb4.mono hb03.size)
  have hEa := hEa.below hb4
  have hEb := hEb.below hb4
  generalize w3.alloc (.cells zv 28) = w4 at hb4 hb04 hEa hEb ⊢
  generalize w3.heap.size = k3 at hb4 ⊢
  clear hb4 hb03 hzi hz1 hal
  go_wp2_with (first
    | (go_at_call 17; refine (HMov.out _).mono ?_))
  rintro e w5 ⟨vc, rfl, hEc, hb5⟩
  have hb05 := hb04.trans (hb5.mono hb04.size)
  have hEa := hEa.below hb5
  have hEb := hEb.below hb5
  clear HMov hb04 hb5
  go_wp2_with (first
    | (go_at_call 18; refine (HSlo.out _).mono ?_))
  rintro e w6 ⟨vd, rfl, hEd, hb6⟩
  have hb06 := hb05.trans (hb6.mono hb05.size)
  have hEa := hEa.below hb6
  have hEb := hEb.below hb6
  have hEc := hEc.below hb6
  clear HSlo hb05 hb6
  go_wp2_with (first
    | (go_at_call 19; refine (HWor.out _).mono ?_))
  rintro e w7 ⟨ve, rfl, hEe, hb7⟩
  have hb07 := hb06.trans (hb7.mono hb06.size)
  have hEa := hEa.below hb7
  have hEb := hEb.below hb7
  have hEc := hEc.below hb7
  have hEd := hEd.below hb7
  clear HWor hb06 hb7
  go_wp2_with (first
    | (go_at_call 20; refine (HCou.out _).mono ?_))
  rintro e w8 ⟨vf, rfl, hEf, hb8⟩
  have hb08 := hb07.trans (hb8.mono hb07.size)
  have hEa := hEa.below hb8
  have hEb := hEb.below hb8
  have hEc := hEc.below hb8
  have hEd := hEd.below hb8
  have hEe := hEe.below hb8
  have Hnw := Lib.hid (own_new (B := w8.heap.size) (w0 := w8) (w := w8) 140 (by omega) (by omega) (Below.refl _ _) (Nat.le_refl _))
  clear HCou hb07 hb8
  go_wp2_with (first
    | (go_at_call 21; refine Hnw.out.mono ?_))
  rintro e w9 ⟨gd, rfl, hD4⟩
  have Hm := Lib.hid (hD4.mountNew (D := 140) (n := 100) (by omega) (by omega) (by omega) (by omega))
  clear hD4 Hnw
  go_wp2_with (first
    | (go_at_call 22; refine Hm.out.mono ?_))
  rintro e wa ⟨g, rfl, hB5⟩
  have hpg := hB5.pages
  rw [bk140] at hpg
  have hb8a := hB5.bel
  have hb0a := hb08.trans (hb8a.mono hb08.size)
  have hEa := hEa.below hb8a
  have hEb := hEb.below hb8a
  have hEc := hEc.below hb8a
  have hEd := hEd.below hb8a
  have hEe := hEe.below hb8a
  have hEf := hEf.below hb8a
  clear hb8a hb08 hB5 Hm
  have Hn := Lib.hid (depNew_bad hpg (by omega) first n hf (by omega))
  clear hpg
  go_wp2_with (first
    | (go_at_call 23; refine Hn.out.mono ?_))
  rintro e wb ⟨v6, rfl, hEg, hbb⟩
  have q1 : 0 ≤ first := by omega
  have q2 : 1 ≤ n := by omega
  have q3 : ¬ (n ≤ 64) := by omega
  have hb0b := hb0a.trans (hbb.mono hb0a.size)
  have hEa := hEa.below hbb
  have hEb := hEb.below hbb
  have hEc := hEc.below hbb
  have hEd := hEd.below hbb
  have hEe := hEe.below hbb
  have hEf := hEf.below hbb
  have hLc := hL.below hpos hb0b
  clear Hn hb0a hbb
  go_wp2_with (first
    | (go_at_call 24; refine (num7 1 va _ hLc hEa).mono ?_))
  rintro e wc ⟨rfl, hbc⟩
  have hb0c := hb0b.trans (hbc.mono hb0b.size)
  have hEb := hEb.below hbc
  have hEc := hEc.below hbc
  have hEd := hEd.below hbc
  have hEe := hEe.below hbc
  have hEf := hEf.below hbc
  have hEg := hEg.below hbc
  have hLd := hLc.below hLc.pos hbc
  clear hLc hbc hb0b hEa
  rename Laid wc => hLc
  rename Below _ _ wc => hb0b
  go_wp2_with (first
    | (go_at_call 24; refine (num7 1 vb _ hLc hEb).mono ?_))
  rintro e wc ⟨rfl, hbc⟩
  have hb0c := hb0b.trans (hbc.mono hb0b.size)
  have hEc := hEc.below hbc
  have hEd := hEd.below hbc
  have hEe := hEe.below hbc
  have hEf := hEf.below hbc
  have hEg := hEg.below hbc
  have hLd := hLc.below hLc.pos hbc
  clear hLc hbc hb0b hEb
  rename Laid wc => hLc
  rename Below _ _ wc => hb0b
  go_wp2_with (first
    | (go_at_call 24; refine (num7 1 vc _ hLc hEc).mono ?_))
  rintro e wc ⟨rfl, hbc⟩
  have hb0c := hb0b.trans (hbc.mono hb0b.size)
  have hEd := hEd.below hbc
  have hEe := hEe.below hbc
  have hEf := hEf.below hbc
  have hEg := hEg.below hbc
  have hLd := hLc.below hLc.pos hbc
  clear hLc hbc hb0b hEc
  rename Laid wc => hLc
  rename Below _ _ wc => hb0b
  go_wp2_with (first
    | (go_at_call 24; refine (num7 1 vd _ hLc hEd).mono ?_))
  rintro e wc ⟨rfl, hbc⟩
  have hb0c := hb0b.trans (hbc.mono hb0b.size)
  have hEe := hEe.below hbc
  have hEf := hEf.below hbc
  have hEg := hEg.below hbc
  have hLd := hLc.below hLc.pos hbc
  clear hLc hbc hb0b hEd
  rename Laid wc => hLc
  rename Below _ _ wc => hb0b
  go_wp2_with (first
    | (go_at_call 24; refine (num7 1 ve _ hLc hEe).mono ?_))
  rintro e wc ⟨rfl, hbc⟩
  have hb0c := hb0b.trans (hbc.mono hb0b.size)
  have hEf := hEf.below hbc
  have hEg := hEg.below hbc
  have hLd := hLc.below hLc.pos hbc
  clear hLc hbc hb0b hEe
  rename Laid wc => hLc
  rename Below _ _ wc => hb0b
  go_wp2_with (first
    | (go_at_call 24; refine (num7 1 vf _ hLc hEf).mono ?_))
  rintro e wc ⟨rfl, hbc⟩
  have hb0c := hb0b.trans (hbc.mono hb0b.size)
  have hEg := hEg.below hbc
  have hLd := hLc.below hLc.pos hbc
  clear hLc hbc hb0b hEf
  rename Laid wc => hLc
  rename Below _ _ wc => hb0b
  go_wp2_with (first
    | (go_at_call 25; refine (HDro.out _).mono ?_))
  rintro e wd ⟨vs, rfl, hEs, hbd⟩
  have hb0d := hb0b.trans (hbd.mono hb0b.size)
  have hEg := hEg.below hbd
  have hLd := hLc.below hLc.pos hbd
  clear HDro hb0b hbd hLc
  go_wp2_with (first
    | (go_at_call 24; refine (num7 1 vs _ hLd hEs).mono ?_))
  rintro e we ⟨rfl, hbe⟩
  have hb0e := hb0d.trans (hbe.mono hb0d.size)
  have hEg := hEg.below hbe
  have hLe := hLd.below hLd.pos hbe
  clear hb0d hbe hLd hEs
  go_wp2_with (first
    | (go_at_call 24; refine (num7 1 v6 _ hLe hEg).mono ?_))
  rintro e wf ⟨rfl, hbf⟩
  have hb0f := hb0e.trans (hbf.mono hb0e.size)
  have hEg := hEg.below hbf
  have hLf := hLe.below hLe.pos hbf
  clear hbf hb0e hLe
  go_wp2_with (first
    | (go_at_call 24; refine (num7 1 v6 _ hLf hEg).mono ?_))
  rintro e wg ⟨rfl, hbg⟩
  have hb0g := hb0f.trans (hbg.mono hb0f.size)
  have Hfin := Lib.hid hb0g
  clear hb0g hb0f hbg hLf hEg
  go_wp2
  go_ret
  exact ⟨rfl, Hfin.out⟩
set_option maxRecDepth 100000 in
set_option maxHeartbeats 16000000 in
theorem dnone_b4 (first n slot : Int) (hf : -9223372036854775808 ≤ first ∧ first ≤ 9223372036854775807) (hn : -9223372036854775808 ≤ n ∧ n ≤ 9223372036854775807) (h1 : 0 ≤ first) (h2 : 1 ≤ n) (h3 : n ≤ 64) (h4 : 38 - 5 * n < first) (w : World) (hL : Laid w) :
    Calls Tryz.prog 3 #[.int .i64 first, .int .i64 n, .int .i64 slot] w (RetP (.bool true) w) := by
  have hpos := hL.pos
  obtain ⟨zv, Hz⟩ : ∃ zv : Array Value, Hid (zv = zeros64) := ⟨_, rfl⟩
  have hbz : Hid (Tryz.prog.built 28 [] = some zv) := by rw [Hz.out]; exact built64
  have hzV : pageV (List.replicate 64 0) = .agg zv := by rw [Hz.out, zerosV]; rfl
  have hal : ∀ w : World, (Instr.alloc 28 true (.tuple #[])).run Tryz.prog w = .ok (.pointer (some ⟨w.heap.size, 0, none⟩)) (w.alloc (.cells zv 28)) := by rw [Hz.out]; exact alloc64
  have hzi : Hid ((Tryz.prog.info? 28).map (·.size) = some zv.size) := by rw [Hz.out, zerosV]; exact pageInfo (by simp)
  have hz1 : Hid (zv.all (·.oneCell') = true) := by rw [Hz.out, zerosV]; exact bytes_one _
  have HPut := Lib.hid (fun W => (show Calls Tryz.prog 15 #[.pointer none, .agg zv] W (TQ2 (.int .i64 0) 1 (fun w' => Below W.heap.size W w')) by have := dPut_nil W (List.replicate 64 0) (by simp); rw [hzV] at this; exact this))
  have HGet := Lib.hid (fun W => (show Calls Tryz.prog 16 #[.pointer none, .int .i64 slot] W (TQ2 (.agg zv) 1 (fun w' => Below W.heap.size W w')) by have := dGet_nil W slot; unfold PageP at this; rw [hzV] at this; exact this))
  have HMov := Lib.hid (fun W => dMove_nil W slot)
  have HSlo := Lib.hid (fun W => dSlots_nil W slot)
  have HWor := Lib.hid (fun W => dWorst_nil W)
  have HCou := Lib.hid (fun W => dCount_nil W)
  have HDro := Lib.hid (fun W => dDrop_nil W slot)
  clear hzV
  go_enter Tryz.func3, Tryz.ntmps3
  go_wp2_with (first
    | (go_at_call 14; refine (stands7_any _).mono ?_))
  rintro e w1 ⟨rfl, hb01⟩
  go_wp2_with (first
    | (refine wpList_buildZ 28 rfl zv hbz.out (by rfl) ?_)
    | (go_at_call 15; refine (HPut.out _).mono ?_))
  rintro e w2 ⟨va, rfl, hEa, hb2⟩
  have hb02 := hb01.trans (hb2.mono hb01.size)
  clear HPut hb01 hb2 hbz
  go_wp2_with (first
    | (go_at_call 16; refine (HGet.out _).mono ?_))
  rintro e w3 ⟨vb, rfl, hEb, hb3⟩
  have hb03 := hb02.trans (hb3.mono hb02.size)
  have hEa := hEa.below hb3
  clear HGet hb02 hb3
  go_upto_region 6 with (first
    | (refine wpList_alloc_arr rfl 28 rfl _ hal ?_)
    | (refine wpList_store_new rfl 28 _ _ rfl w3.heap.size rfl zv rfl rfl 28 _ hzi.out rfl hz1.out ?_))
  have hb4 : Below w3.heap.size w3 (w3.alloc (.cells zv 28)) := (Below.refl _ _).alloc (Nat.le_refl _) _
  have hb04 := hb03.trans (hb4.mono hb03.size)
  have hEa := hEa.below hb4
  have hEb := hEb.below hb4
  generalize w3.alloc (.cells zv 28) = w4 at hb4 hb04 hEa hEb ⊢
  generalize w3.heap.size = k3 at hb4 ⊢
  clear hb4 hb03 hzi hz1 hal
  go_wp2_with (first
    | (go_at_call 17; refine (HMov.out _).mono ?_))
  rintro e w5 ⟨vc, rfl, hEc, hb5⟩
  have hb05 := hb04.trans (hb5.mono hb04.size)
  have hEa := hEa.below hb5
  have hEb := hEb.below hb5
  clear HMov hb04 hb5
  go_wp2_with (first
    | (go_at_call 18; refine (HSlo.out _).mono ?_))
  rintro e w6 ⟨vd, rfl, hEd, hb6⟩
  have hb06 := hb05.trans (hb6.mono hb05.size)
  have hEa := hEa.below hb6
  have hEb := hEb.below hb6
  have hEc := hEc.below hb6
  clear HSlo hb05 hb6
  go_wp2_with (first
    | (go_at_call 19; refine (HWor.out _).mono ?_))
  rintro e w7 ⟨ve, rfl, hEe, hb7⟩
  have hb07 := hb06.trans (hb7.mono hb06.size)
  have hEa := hEa.below hb7
  have hEb := hEb.below hb7
  have hEc := hEc.below hb7
  have hEd := hEd.below hb7
  clear HWor hb06 hb7
  go_wp2_with (first
    | (go_at_call 20; refine (HCou.out _).mono ?_))
  rintro e w8 ⟨vf, rfl, hEf, hb8⟩
  have hb08 := hb07.trans (hb8.mono hb07.size)
  have hEa := hEa.below hb8
  have hEb := hEb.below hb8
  have hEc := hEc.below hb8
  have hEd := hEd.below hb8
  have hEe := hEe.below hb8
  have Hnw := Lib.hid (own_new (B := w8.heap.size) (w0 := w8) (w := w8) 140 (by omega) (by omega) (Below.refl _ _) (Nat.le_refl _))
  clear HCou hb07 hb8
  go_wp2_with (first
    | (go_at_call 21; refine Hnw.out.mono ?_))
  rintro e w9 ⟨gd, rfl, hD4⟩
  have Hm := Lib.hid (hD4.mountNew (D := 140) (n := 100) (by omega) (by omega) (by omega) (by omega))
  clear hD4 Hnw
  go_wp2_with (first
    | (go_at_call 22; refine Hm.out.mono ?_))
  rintro e wa ⟨g, rfl, hB5⟩
  have hpg := hB5.pages
  rw [bk140] at hpg
  have hb8a := hB5.bel
  have hb0a := hb08.trans (hb8a.mono hb08.size)
  have hEa := hEa.below hb8a
  have hEb := hEb.below hb8a
  have hEc := hEc.below hb8a
  have hEd := hEd.below hb8a
  have hEe := hEe.below hb8a
  have hEf := hEf.below hb8a
  clear hb8a hb08 hB5 Hm
  have Hn := Lib.hid (depNew_bad hpg (by omega) first n hf (by omega))
  clear hpg
  go_wp2_with (first
    | (go_at_call 23; refine Hn.out.mono ?_))
  rintro e wb ⟨v6, rfl, hEg, hbb⟩
  have q1 : 0 ≤ first := by omega
  have q2 : 1 ≤ n := by omega
  have q3 : n ≤ 64 := by omega
  have q4 : IntKind.i64.wrap (5 * n) = 5 * n := IntWalk.i64_in _ (by omega)
  have q6 : IntKind.i64.wrap (38 - 5 * n) = 38 - 5 * n := IntWalk.i64_in _ (by omega)
  have q5 : decide (first ≤ 38 - 5 * n) = false := decide_eq_false (by omega)
  have hb0b := hb0a.trans (hbb.mono hb0a.size)
  have hEa := hEa.below hbb
  have hEb := hEb.below hbb
  have hEc := hEc.below hbb
  have hEd := hEd.below hbb
  have hEe := hEe.below hbb
  have hEf := hEf.below hbb
  have hLc := hL.below hpos hb0b
  clear Hn hb0a hbb
  go_wp2_with (first
    | (go_at_call 24; refine (num7 1 va _ hLc hEa).mono ?_))
  rintro e wc ⟨rfl, hbc⟩
  have hb0c := hb0b.trans (hbc.mono hb0b.size)
  have hEb := hEb.below hbc
  have hEc := hEc.below hbc
  have hEd := hEd.below hbc
  have hEe := hEe.below hbc
  have hEf := hEf.below hbc
  have hEg := hEg.below hbc
  have hLd := hLc.below hLc.pos hbc
  clear hLc hbc hb0b hEa
  rename Laid wc => hLc
  rename Below _ _ wc => hb0b
  go_wp2_with (first
    | (go_at_call 24; refine (num7 1 vb _ hLc hEb).mono ?_))
  rintro e wc ⟨rfl, hbc⟩
  have hb0c := hb0b.trans (hbc.mono hb0b.size)
  have hEc := hEc.below hbc
  have hEd := hEd.below hbc
  have hEe := hEe.below hbc
  have hEf := hEf.below hbc
  have hEg := hEg.below hbc
  have hLd := hLc.below hLc.pos hbc
  clear hLc hbc hb0b hEb
  rename Laid wc => hLc
  rename Below _ _ wc => hb0b
  go_wp2_with (first
    | (go_at_call 24; refine (num7 1 vc _ hLc hEc).mono ?_))
  rintro e wc ⟨rfl, hbc⟩
  have hb0c := hb0b.trans (hbc.mono hb0b.size)
  have hEd := hEd.below hbc
  have hEe := hEe.below hbc
  have hEf := hEf.below hbc
  have hEg := hEg.below hbc
  have hLd := hLc.below hLc.pos hbc
  clear hLc hbc hb0b hEc
  rename Laid wc => hLc
  rename Below _ _ wc => hb0b
  go_wp2_with (first
    | (go_at_call 24; refine (num7 1 vd _ hLc hEd).mono ?_))
  rintro e wc ⟨rfl, hbc⟩
  have hb0c := hb0b.trans (hbc.mono hb0b.size)
  have hEe := hEe.below hbc
  have hEf := hEf.below hbc
  have hEg := hEg.below hbc
  have hLd := hLc.below hLc.pos hbc
  clear hLc hbc hb0b hEd
  rename Laid wc => hLc
  rename Below _ _ wc => hb0b
  go_wp2_with (first
    | (go_at_call 24; refine (num7 1 ve _ hLc hEe).mono ?_))
  rintro e wc ⟨rfl, hbc⟩
  have hb0c := hb0b.trans (hbc.mono hb0b.size)
  have hEf := hEf.below hbc
  have hEg := hEg.below hbc
  have hLd := hLc.below hLc.pos hbc
  clear hLc hbc hb0b hEe
  rename Laid wc => hLc
  rename Below _ _ wc => hb0b
  go_wp2_with (first
    | (go_at_call 24; refine (num7 1 vf _ hLc hEf).mono ?_))
  rintro e wc ⟨rfl, hbc⟩
  have hb0c := hb0b.trans (hbc.mono hb0b.size)
  have hEg := hEg.below hbc
  have hLd := hLc.below hLc.pos hbc
  clear hLc hbc hb0b hEf
  rename Laid wc => hLc
  rename Below _ _ wc => hb0b
  go_wp2_with (first
    | (go_at_call 25; refine (HDro.out _).mono ?_))
  rintro e wd ⟨vs, rfl, hEs, hbd⟩
  have hb0d := hb0b.trans (hbd.mono hb0b.size)
  have hEg := hEg.below hbd
  have hLd := hLc.below hLc.pos hbd
  clear HDro hb0b hbd hLc
  go_wp2_with (first
    | (go_at_call 24; refine (num7 1 vs _ hLd hEs).mono ?_))
  rintro e we ⟨rfl, hbe⟩
  have hb0e := hb0d.trans (hbe.mono hb0d.size)
  have hEg := hEg.below hbe
  have hLe := hLd.below hLd.pos hbe
  clear hb0d hbe hLd hEs
  go_wp2_with (first
    | (go_at_call 24; refine (num7 1 v6 _ hLe hEg).mono ?_))
  rintro e wf ⟨rfl, hbf⟩
  have hb0f := hb0e.trans (hbf.mono hb0e.size)
  have hEg := hEg.below hbf
  have hLf := hLe.below hLe.pos hbf
  clear hbf hb0e hLe
  go_wp2_with (first
    | (go_at_call 24; refine (num7 1 v6 _ hLf hEg).mono ?_))
  rintro e wg ⟨rfl, hbg⟩
  have hb0g := hb0f.trans (hbg.mono hb0f.size)
  have Hfin := Lib.hid hb0g
  clear hb0g hb0f hbg hLf hEg
  go_wp2
  go_ret
  exact ⟨rfl, Hfin.out⟩
theorem depotNone_any (first n slot : Int) (hf : -9223372036854775808 ≤ first ∧ first ≤ 9223372036854775807) (hn : -9223372036854775808 ≤ n ∧ n ≤ 9223372036854775807) (w : World) (hL : Laid w) :
    Calls Tryz.prog 3 #[.int .i64 first, .int .i64 n, .int .i64 slot] w (RetP (.bool true) w) := by
  by_cases h1 : first < 0
  · exact dnone_b1 first n slot hf hn h1 w hL
  by_cases h2 : n < 1
  · exact dnone_b2 first n slot hf hn (by omega) h2 w hL
  by_cases h3 : 64 < n
  · exact dnone_b3 first n slot hf hn (by omega) h3 w hL
  by_cases h4 : 38 - 5 * n < first
  · exact dnone_b4 first n slot hf hn (by omega) (by omega) (by omega) h4 w hL
  exact dnone_ok first n slot hf hn (by omega) (by omega) (by omega) (by omega) w hL
end Go.Proofs.YtopjhgpgompenaaGreatDoor
