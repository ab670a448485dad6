/-
  Law 07's fresh, stands.
-/
import Derived.Test.YtjkkbceddbkejaaGreatDoorJDpd
import Derived.Test.YtjkkbceddbkejaaGreatDoorJDisk
set_option linter.unusedSimpArgs false
set_option linter.unusedVariables false
namespace Go.Proofs.YtjkkbceddbkejaaGreatDoor
open Go.RowKit Sh Go.Maps Go.Extern.Stop Go.Stop Go.Extern

def DFreshP (n : Nat) (w0 : World) (e : Ending) (w' : World) : Prop := ∃ gd g x, e = .returned (.tuple #[.pointer (some ⟨g, 0, none⟩), .pointer (some ⟨x, 0, none⟩)]) ∧ OwnX (bk1 600 100) gd g [(x, depO g 3 n)] w0 w'
theorem bk600 : (bk1 600 100).pages = 498 := (fr (D := 600) (n := 100) (by omega) (by omega) (by omega) (by omega)).pages
theorem de600 (n : Nat) (h : n ≤ 64) : De (bk1 600 100) 3 n (List.replicate n z4) (fun _ => List.replicate 64 0) ∧ Co (bk1 600 100) 600 0 ∧ (bk1 600 100).txn = [] := de_new (by omega) (by omega) (by omega)
attribute [local irreducible] bk1 bk0
set_option maxRecDepth 100000 in
set_option maxHeartbeats 4000000 in
theorem fresh7_any (n : Nat) (h1 : 1 ≤ n) (h2 : n ≤ 64) (w0 w : World) (hb : Below w0.heap.size w0 w) : Calls Tryz.prog 9 #[.int .i64 n] w (DFreshP n w0) := by
  have Hnw := Lib.hid (own_new (B := w0.heap.size) (w0 := w0) (w := w) 600 (by omega) (by omega) hb (Nat.le_refl _))
  clear hb
  go_enter Tryz.func9, Tryz.ntmps9
  go_wp2_with (first
    | (go_at_call 16; refine Hnw.out.mono ?_))
  rintro e w2 ⟨gd, rfl, hD⟩
  have Hm := Lib.hid (hD.mountNew (D := 600) (n := 100) (by omega) (by omega) (by omega) (by omega))
  clear hD Hnw
  go_wp2_with (first
    | (go_at_call 17; refine Hm.out.mono ?_))
  rintro e w3 ⟨g, rfl, hB⟩
  have hX := OwnX.start hB rfl
  have hpg := hX.pages
  rw [bk600] at hpg
  have Hn := Lib.hid (depNew_ok hpg (by omega) 3 n h1 h2 (by omega))
  have HX := Lib.hid hX
  clear hpg hB Hm hX
  go_wp2_with (first
    | (go_at_call 27; refine Hn.out.mono ?_))
  rintro e w4 ⟨x, rfl, hx, hb4, hxl⟩
  have Hfin := Lib.hid (show DFreshP n w0 (.returned (.tuple #[.pointer (some ⟨g, 0, none⟩), .pointer (some ⟨x, 0, none⟩)])) w4 from ⟨gd, g, x, rfl, HX.out.holds hb4 hxl hx⟩)
  clear Hn HX hx hb4 hxl
  go_wp2
  refine bodyPost_ret (v := .tuple #[.pointer (some ⟨g, 0, none⟩), .pointer (some ⟨x, 0, none⟩)]) (by simp [results, Tryz.results9, go_sem]) rfl Hfin.out
/-! Two blocks, one of them dropped. -/
def hA0 : List (List UInt8) := List.replicate 2 z4
def hA1 : List (List UInt8) := markL hA0 0 1
def hA2 : List (List UInt8) := markL hA1 1 1
def hA3 : List (List UInt8) := markL hA2 0 2
theorem rA0 : roomL (-1) hA0 = some 0 := by decide +kernel
theorem rA1 : roomL (-1) hA1 = some 1 := by decide +kernel
theorem lA2 : stS hA2 0 = 1 := by decide +kernel
theorem lA3 : stS hA3 1 = 1 := by decide +kernel
theorem cA3 : cntA 1 hA3 = 1 ∧ cntA 2 hA3 = 1 ∧ cntA 0 hA3 = 6 := by decide +kernel
def pg1 (a : UInt8) : List UInt8 := a :: List.replicate 63 0
theorem pg1_len (a : UInt8) : (pg1 a).length = 64 := rfl
theorem pg1_v (a : UInt8) : pageV (pg1 a) = .agg (page1 a).toArray := rfl
set_option maxRecDepth 100000 in
set_option maxHeartbeats 16000000 in
theorem stands7_any (w : World) : Calls Tryz.prog 8 #[] w (RetP (.bool true) w) := by
  obtain ⟨hD0, _, ht0⟩ := de600 2 (by omega)
  have hfr := fresh7_any 2 (by omega) (by omega) w w (Below.refl _ _)
  have Hfr : Hid (Calls Tryz.prog 9 #[.int .i64 2] w (DFreshP 2 w)) := hfr
  have HD0 : Hid (De (bk1 600 100) 3 2 hA0 (fun _ => List.replicate 64 0)) := hD0
  have Ht0 := Lib.hid ht0
  obtain ⟨p1, hp1⟩ : ∃ p1, page1 1 = p1 := ⟨_, rfl⟩
  obtain ⟨p2, hp2⟩ : ∃ p2, page1 2 = p2 := ⟨_, rfl⟩
  have hV1 : pageV (pg1 1) = .agg p1.toArray := by rw [pg1_v, hp1]
  have hV2 : pageV (pg1 2) = .agg p2.toArray := by rw [pg1_v, hp2]
  have hbt1 : Tryz.prog.built 33 [(0, .int .u8 1)] = some p1.toArray := by rw [← hp1]; exact built_one 1
  have hbt2 : Tryz.prog.built 33 [(0, .int .u8 2)] = some p2.toArray := by rw [← hp2]; exact built_one 2
  have b2 : BP p2 := by rw [← hp2]; exact page1_bytes 2
  have HB1 := Lib.hid hbt1; have HB2 := Lib.hid hbt2; have HB3 := Lib.hid hbt2
  have HEq := Lib.hid (fun W => b2.eql W)
  have HV1 := Lib.hid hV1; have HV2 := Lib.hid hV2
  clear hfr hD0 ht0 hbt1 hbt2 hp1 hp2 hV1 hV2
  go_enter Tryz.func8, Tryz.ntmps8
  go_wp2_with (first
    | (go_at_call 9; refine Hfr.out.mono ?_))
  rintro e w1 ⟨gd, g, x, rfl, hX1⟩
  have hT : (x, depO g 3 2) ∈ [(x, depO g 3 2)] := by simp
  obtain ⟨t1, hP1, hc1⟩ := hX1.dPut hT HD0.out (by omega) (by omega) (pg1_len 1) rA0 (by rw [Ht0.out]; simp)
  rw [HV1.out] at hc1
  have Hc1 := Lib.hid hc1
  have l1 := hP1.tx.len
  rw [Ht0.out] at l1
  have l1' : t1.length ≤ 2 := by simpa using l1
  have HP1 := Lib.hid hP1
  clear Hfr hX1 hc1 hP1 l1
  go_wp2_with (first
    | (refine wpList_build1 (.const (.int .u8 1)) rfl _ rfl _ HB1.out (by rfl) ?_)
    | (go_at_call 10; refine Hc1.out.mono ?_))
  rintro e w2 ⟨v2, rfl, hE2, hX2⟩
  obtain rfl := ErrV.zero hE2
  obtain ⟨t2, hP2, hc2⟩ := hX2.dPut hT HP1.out.de (by omega) (by omega) (pg1_len 2) rA1 (by show t1.length ≤ 58; omega)
  rw [HV2.out] at hc2
  have Hc2 := Lib.hid hc2
  have l2 := hP2.tx.len
  have l2' : t2.length ≤ 4 := by have : t2.length ≤ t1.length + 2 := l2; omega
  have HP2 := Lib.hid hP2
  clear hX2 hc2 hP2 l2 hE2 Hc1 HB1
  go_wp2_with (first
    | (refine wpList_build1 (.const (.int .u8 2)) rfl _ rfl _ HB2.out (by rfl) ?_)
    | (go_at_call 10; refine Hc2.out.mono ?_))
  rintro e w3 ⟨v3, rfl, hE3, hX3⟩
  obtain rfl := ErrV.zero hE3
  obtain ⟨t3, hP3, hc3⟩ := hX3.dDrop hT HP2.out.de (by omega) (by omega) (s := 0) (by omega) lA2 (by show t2.length < 60; omega)
  have Hc3 : Hid (Calls Tryz.prog 30 #[.pointer (some ⟨x, 0, none⟩), .int .i64 0] w3 (TQ 0 (fun w' => OwnX { bk1 600 100 with txn := t3 } gd g [(x, depO g 3 2)] w w'))) := hc3
  have HD3 : Hid (De { bk1 600 100 with txn := t3 } 3 2 hA3 (updP (updP (fun _ => List.replicate 64 0) 0 (pg1 1)) 1 (pg1 2))) := hP3.de
  clear hX3 hc3 hP3 hE3 Hc2 HB2
  go_wp2_with (first
    | (go_at_call 30; refine Hc3.out.mono ?_))
  rintro e w4 ⟨v4, rfl, hE4, hX4⟩
  obtain rfl := ErrV.zero hE4
  have hg4 := hX4.dGet hT HD3.out (by omega) (by omega) (1 : Nat)
  rw [getOf_live (by omega) lA3] at hg4
  have hg4' : Calls Tryz.prog 13 #[.pointer (some ⟨x, 0, none⟩), .int .i64 1] w4 (fun e w' => ∃ v, e = .returned (.tuple #[.agg p2.toArray, v]) ∧ ErrV w' 0 v ∧ Below w4.heap.size w4 w') := hg4.mono fun e w' ⟨v, h1, h2, h3⟩ => ⟨v, by rw [h1, ← HV2.out]; rfl, h2, h3⟩
  have Hg4 := Lib.hid hg4'
  have HX4 := Lib.hid hX4
  have hz1 : Hid ((Tryz.prog.info? 33).map (·.size) = some p2.toArray.size) := page_size b2.page
  have hz2 : Hid (p2.toArray.all (·.oneCell') = true) := page_all b2.page
  have hz3 : Hid (zeros64.size = p2.toArray.size) := by
    have : p2.toArray.size = 64 := by rw [List.size_toArray]; exact b2.page.1
    rw [this]; exact (rfl : zeros64.size = 64)
  clear hX4 hg4 hg4' hE4 Hc3
  go_wp2_with (first
    | (go_at_call 13; refine Hg4.out.mono ?_))
  rintro e w5 ⟨v5, rfl, hE5, hb5⟩
  obtain rfl := ErrV.zero hE5
  have hX5 := HX4.out.below hb5
  clear hE5 Hg4 hb5 HX4
  go_upto_region 6 with (first
    | (refine wpList_alloc_arr rfl 33 rfl _ alloc64 ?_)
    | (refine wpList_store_new rfl 33 _ _ rfl w5.heap.size rfl p2.toArray rfl rfl 33 _ hz1.out hz3.out hz2.out ?_))
  have hba : Below w5.heap.size w5 (w5.alloc (.cells p2.toArray 33)) := (Below.refl _ _).alloc (Nat.le_refl _) _
  have hx1 : (w5.alloc (.cells p2.toArray 33)).heap[w5.heap.size]? = some (.cells p2.toArray 33 (0, 0)) := heap_alloc_new w5 _
  have hX6 := hX5.below hba
  generalize w5.alloc (.cells p2.toArray 33) = w6 at hba hx1 hX6 ⊢
  obtain ⟨k1, hk1⟩ : ∃ k1, w5.heap.size = k1 := ⟨_, rfl⟩
  rw [hk1] at hx1 ⊢
  have hct := hX6.dCount hT HD3.out (by omega) (by omega)
  rw [cA3.1, cA3.2.1, cA3.2.2] at hct
  have Hct := Lib.hid hct
  have HX6 := Lib.hid hX6
  clear hk1 hba hX5 hX6 hct
  go_wp2_with (first
    | (go_at_call 14; refine Hct.out.mono ?_))
  rintro e w7 ⟨rfl, hb7⟩
  have hx7 := (hb7.block k1 (Array.getElem?_eq_some_iff.1 hx1).1).trans hx1
  have hl1 := Lib.hid (run_loadAt_mid (P := Tryz.prog) w7 k1 0 33 p2 _ (fun j v hj => by rw [Nat.zero_add, cell_of_row w7 k1 j _ _ _ hx7]; simpa using hj) Tryz.underlying33 rfl (by rw [b2.page.1]; exact info64))
  have Hbel := Lib.hid ((HX6.out.below hb7).bel)
  have Hdp := Lib.hid (depPages_any (w := w7) 2 (by omega))
  have heq := HEq.out
  clear hx1 hx7 hb7 Hct HX6 HD3 HP2 HP1 HD0 b2 HV1 HV2 HEq
  go_wp2_with (first
    | (go_at_call 12; refine (num_nil _).mono ?_))
  iterate 4
    rintro e w' ⟨rfl, rfl⟩
    go_wp2_with (go_at_call 12; refine (num_nil _).mono ?_)
  rintro e w' ⟨rfl, rfl⟩
  go_wp2_with (first
    | (go_at_call 33; refine Hdp.out.mono ?_; rintro e w' ⟨rfl, rfl⟩)
    | (have _t := hl1; refine wpList_load_page _ rfl k1 0 rfl _ hl1.out (by rfl) ?_; clear hl1)
    | (have _t := HB3; refine wpList_build1 (.const (.int .u8 2)) rfl _ rfl _ HB3.out (by rfl) ?_; clear HB3))
  go_ret
  exact ⟨rfl, Hbel.out⟩
end Go.Proofs.YtjkkbceddbkejaaGreatDoor
