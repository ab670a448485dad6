/-
  Package prints: told.
-/
import Derived.Test.YtopjhgpgompenaaGreatDoorPnMath
set_option linter.unusedSimpArgs false
set_option linter.unusedVariables false
namespace Go.Proofs.YtopjhgpgompenaaGreatDoor
open Go.RowKit Sh Go.Maps Go.Extern.Stop Go.Stop Go.Extern

set_option maxRecDepth 100000 in
set_option maxHeartbeats 8000000 in
theorem ptold_any (p : List UInt8) (hp : p.length = 64) (w : World) : Calls Tryz.prog 133 #[pageV p] w (RetP (entV (toldE p)) w) := by
  obtain ⟨pv, Hpv⟩ : ∃ pv : List Value, Hid (pv = p.map cu8) := ⟨_, rfl⟩
  have hpg : pageV p = .agg pv.toArray := by rw [Hpv.out]; rfl
  rw [hpg]
  have hok := toldE_ok hp
  obtain ⟨zm, Hzm⟩ : ∃ zm : Array Value, Hid (zm = (entC noE).toArray) := ⟨_, rfl⟩
  have halm : ∀ w : World, (Instr.alloc 73 true (.tuple #[])).run Tryz.prog w = .ok (.pointer (some ⟨w.heap.size, 0, none⟩)) (w.alloc (.cells zm 73)) := by rw [Hzm.out]; exact allocEnt
  have hb2 : Below w.heap.size w ((w.alloc (.cells pv.toArray 28)).alloc (.cells zm 73)) := ((Below.refl _ _).alloc (Nat.le_refl _) _).alloc (by simp) _
  have hx2 : ((w.alloc (.cells pv.toArray 28)).alloc (.cells zm 73)).heap[w.heap.size]? = some (.cells pv.toArray 28 (0, 0)) := by
    rw [Below.heap_alloc _ _ _ (by simp)]; exact heap_alloc_new _ _
  have hr2 : ((w.alloc (.cells pv.toArray 28)).alloc (.cells zm 73)).heap[w.heap.size + 1]? = some (.cells zm 73 (0, 0)) := by
    have := heap_alloc_new (w.alloc (.cells pv.toArray 28)) (.cells zm 73)
    simpa using this
  obtain ⟨E, hE⟩ : ∃ E, toldE p = E := ⟨_, rfl⟩
  rw [hE]
  go_enter Tryz.func133, Tryz.ntmps133
  go_upto_region 1 with (first
    | (refine wpList_alloc_arr rfl 73 rfl _ halm ?_))
  try simp only [World.size_alloc]
  clear halm
  generalize (w.alloc (.cells pv.toArray 28)).alloc (.cells zm 73) = wa at hb2 hx2 hr2 ⊢
  obtain ⟨r, hr⟩ : ∃ r, w.heap.size + 1 = r := ⟨_, rfl⟩
  obtain ⟨x, hx⟩ : ∃ x, w.heap.size = x := ⟨_, rfl⟩
  rw [hr] at hr2 ⊢
  rw [hx] at hx2 hb2 ⊢
  have hxr : x < r := by omega
  have Hx := Lib.hid hx
  clear hr hx
  have hb3 : Below wa.heap.size wa { wa with drawn := wa.drawn + 1 } := ⟨rfl, rfl, rfl, Nat.le_refl _, fun _ _ => rfl⟩
  obtain ⟨wd, hdr⟩ : ∃ wd : World, ({ wa with drawn := wa.drawn + 1 } : World) = wd := ⟨_, rfl⟩
  refine wp_region_up 11 (fun v => v = wd) (by kernel_rfl) ?_
  rw [hdr] at hb3 ⊢
  have hxl : x < wa.heap.size := (Array.getElem?_eq_some_iff.1 hx2).1
  have hrl : r < wa.heap.size := (Array.getElem?_eq_some_iff.1 hr2).1
  have hx3 := (hb3.block x hxl).trans hx2
  have hr3 := (hb3.block r hrl).trans hr2
  have hb03 : Below x w wd := hb2.trans (hb3.mono (by omega))
  clear hdr hb3 hb2 hx2 hr2 hxl hrl
  have hx4 := hx3
  rw [Hpv.out] at hx4
  obtain ⟨S, hS2⟩ : ∃ S : Nat, (at8 p 32).toNat = S := ⟨_, rfl⟩
  obtain ⟨C, hC2⟩ : ∃ C : Nat, (at8 p 33).toNat = C := ⟨_, rfl⟩
  have k32 : wd.cell? ⟨x, 32, none⟩ = some (.int .u8 (S : Int)) := by
    rw [cell_of_row wd x 32 _ _ _ hx4, List.getElem?_toArray, List.getElem?_map, List.getElem?_eq_getElem (by omega), ← hS2, ← cu8P]
    unfold at8; rw [List.getD_eq_getElem?_getD, List.getElem?_eq_getElem (by omega)]; rfl
  have k33 : wd.cell? ⟨x, 33, none⟩ = some (.int .u8 (C : Int)) := by
    rw [cell_of_row wd x 33 _ _ _ hx4, List.getElem?_toArray, List.getElem?_map, List.getElem?_eq_getElem (by omega), ← hC2, ← cu8P]
    unfold at8; rw [List.getD_eq_getElem?_getD, List.getElem?_eq_getElem (by omega)]; rfl
  have hS256 : S < 256 := by rw [← hS2]; exact UInt8.toNat_lt _
  have hC256 : C < 256 := by rw [← hC2]; exact UInt8.toNat_lt _
  have wS : IntKind.i64.wrap (S : Int) = (S : Int) := IntWalk.i64_in _ (by omega)
  have wC : IntKind.i64.wrap (C : Int) = (C : Int) := IntWalk.i64_in _ (by omega)
  obtain ⟨lv, Hlv⟩ : ∃ lv : List Value, Hid (lv = (p.take 32).map cu8) := ⟨_, rfl⟩
  have hlvl : lv.length = 32 := by rw [Hlv.out]; simp [hp]
  have hlr : wd.rangeAt x 0 lv := fun j v hj => by
    rw [Hlv.out] at hj
    have hj32 : j < 32 := by
      rcases Nat.lt_or_ge j 32 with h7 | h7
      · exact h7
      · rw [List.getElem?_eq_none (by simp [hp]; omega)] at hj; simp at hj
    rw [Nat.zero_add, cell_of_row wd x j _ _ _ hx4, List.getElem?_toArray, ← hj, List.getElem?_map, List.getElem?_map, List.getElem?_take_of_lt hj32]
  have hi32 : Hid ((Tryz.prog.info? 71).map (·.size) = some lv.length) := by rw [hlvl]; exact info32
  have HLd := Lib.hid (run_loadAt_mid (P := Tryz.prog) wd x 0 71 lv _ hlr Tryz.underlying71 rfl hi32.out)
  have s3 : ∀ w : World, (Instr.arrayAt 71 (.slice (some ⟨x, 0, none⟩) 32 64)).run Tryz.prog w = .ok (.pointer (some ⟨x, 0, none⟩)) w := fun w => by kernel_rfl
  obtain ⟨M, hM⟩ : ∃ M : Nat, min C 15 = M := ⟨_, rfl⟩
  have hMI : min (C : Int) 15 = (M : Int) := by omega
  have HB0 := built_ent lv hlvl S M
  obtain ⟨mv, Hmv⟩ : ∃ mv : List Value, Hid (mv = entC E) := ⟨_, rfl⟩
  have hEC : entC E = lv ++ [Value.int .i64 (S : Nat), Value.int .i64 (M : Nat)] := by
    rw [← hE, Hlv.out]
    unfold toldE entC
    simp only
    rw [hS2, hC2, hM]
  rw [← hEC, ← Hmv.out] at HB0
  have HB := Lib.hid HB0
  have hmvl : mv.length = 34 := by rw [Hmv.out, hEC]; simp [hlvl]
  have hmi : Hid ((Tryz.prog.info? 73).map (·.size) = some mv.toArray.size) := by rw [List.size_toArray, hmvl]; exact infoEnt
  have hmz : Hid (zm.size = mv.toArray.size) := by
    have e : mv.toArray.size = 34 := by rw [List.size_toArray, hmvl]
    rw [e, Hzm.out]; exact (rfl : (entC noE).toArray.size = 34)
  have hm1 : Hid (mv.toArray.all (·.oneCell') = true) := by rw [Hmv.out]; exact all_oneCell_toArray (entC_one E)
  have hS : wd = wd := rfl
  clear hlr hx4 hpg HB0 hEC hM hS2 hC2 hok
  refine up_take (i := 0) (v := .slice (some ⟨x, 0, none⟩) 32 64) rfl (by kernel_rfl) (by kernel_rfl) (fun _ _ _ h => h) (Or.inl ⟨by rfl, ?_⟩) hS ?_
  · intro w' _; go_simp
  try simp only [List.getElem_toArray, List.getElem_cons_succ, List.getElem_cons_zero, Act.put, List.setIfInBounds_toArray, List.set]
  refine up_take (i := 1) (v := .pointer (some ⟨x, 0, none⟩)) rfl (by kernel_rfl) (by kernel_rfl) (fun _ _ _ h => h) (Or.inl ⟨by rfl, ?_⟩) hS ?_
  · intro w' _; go_simp
  try simp only [List.getElem_toArray, List.getElem_cons_succ, List.getElem_cons_zero, Act.put, List.setIfInBounds_toArray, List.set]
  refine up_take (i := 2) (v := .agg lv.toArray) rfl (by kernel_rfl) (by kernel_rfl) (fun _ _ _ h => h) (Or.inl ⟨by rfl, ?_⟩) hS ?_
  · intro w' hS'; subst hS'; exact exec_load _ _ 71 _ rfl x 0 rfl _ HLd.out
  try simp only [List.getElem_toArray, List.getElem_cons_succ, List.getElem_cons_zero, Act.put, List.setIfInBounds_toArray, List.set]
  refine up_take (i := 3) (v := .pointer (some ⟨x, 32, none⟩)) rfl (by kernel_rfl) (by kernel_rfl) (fun _ _ _ h => h) (Or.inl ⟨by rfl, ?_⟩) hS ?_
  · intro w' _; go_simp
  try simp only [List.getElem_toArray, List.getElem_cons_succ, List.getElem_cons_zero, Act.put, List.setIfInBounds_toArray, List.set]
  refine up_take (i := 4) (v := .int .u8 (S : Nat)) rfl (by kernel_rfl) (by kernel_rfl) (fun _ _ _ h => h) (Or.inl ⟨by rfl, ?_⟩) hS ?_
  · intro w' hS'
    subst hS'
    go_simp
  try simp only [List.getElem_toArray, List.getElem_cons_succ, List.getElem_cons_zero, Act.put, List.setIfInBounds_toArray, List.set]
  refine up_take (i := 5) (v := .int .i64 (S : Nat)) rfl (by kernel_rfl) (by kernel_rfl) (fun _ _ _ h => h) (Or.inl ⟨by rfl, ?_⟩) hS ?_
  · intro w' _; go_simp
  try simp only [List.getElem_toArray, List.getElem_cons_succ, List.getElem_cons_zero, Act.put, List.setIfInBounds_toArray, List.set]
  refine up_take (i := 6) (v := .pointer (some ⟨x, 33, none⟩)) rfl (by kernel_rfl) (by kernel_rfl) (fun _ _ _ h => h) (Or.inl ⟨by rfl, ?_⟩) hS ?_
  · intro w' _; go_simp
  try simp only [List.getElem_toArray, List.getElem_cons_succ, List.getElem_cons_zero, Act.put, List.setIfInBounds_toArray, List.set]
  refine up_take (i := 7) (v := .int .u8 (C : Nat)) rfl (by kernel_rfl) (by kernel_rfl) (fun _ _ _ h => h) (Or.inl ⟨by rfl, ?_⟩) hS ?_
  · intro w' hS'
    subst hS'
    go_simp
  try simp only [List.getElem_toArray, List.getElem_cons_succ, List.getElem_cons_zero, Act.put, List.setIfInBounds_toArray, List.set]
  refine up_take (i := 8) (v := .int .i64 (C : Nat)) rfl (by kernel_rfl) (by kernel_rfl) (fun _ _ _ h => h) (Or.inl ⟨by rfl, ?_⟩) hS ?_
  · intro w' _; go_simp
  try simp only [List.getElem_toArray, List.getElem_cons_succ, List.getElem_cons_zero, Act.put, List.setIfInBounds_toArray, List.set]
  refine up_take (i := 9) (v := .int .i64 (M : Nat)) rfl (by kernel_rfl) (by kernel_rfl) (fun _ _ _ h => h) (Or.inl ⟨by rfl, ?_⟩) hS ?_
  · intro w' _; go_simp
  try simp only [List.getElem_toArray, List.getElem_cons_succ, List.getElem_cons_zero, Act.put, List.setIfInBounds_toArray, List.set]
  refine up_take (i := 10) (v := .agg mv.toArray) rfl (by kernel_rfl) (by kernel_rfl) (fun _ _ _ h => h) (Or.inl ⟨by rfl, ?_⟩) hS ?_
  · intro w' _; exact exec_build w' rfl (Eq.trans (congrArg (Program.built _ _) (by simp [Act.eval, Act.put])) HB.out)
  try simp only [List.getElem_toArray, List.getElem_cons_succ, List.getElem_cons_zero, Act.put, List.setIfInBounds_toArray, List.set]
  refine up_tail ?_
  refine up_last 11 _ rfl (by kernel_rfl) (by decide) (by rfl) (fun K hK => ?_)
  refine wp_store_whole 73 _ _ rfl r mv.toArray rfl rfl zm 73 hr3 hmi.out hmz.out hm1.out ?_
  intro w5 Hs5 Hg5
  refine hK _ _ ?_
  clear hK K
  try simp only [List.getElem_toArray, List.getElem_cons_succ, List.getElem_cons_zero, Act.put, List.setIfInBounds_toArray, List.set]
  refine up_done (by kernel_rfl) ?_ _
  have hr5 : w5.heap[r]? = some (.cells mv.toArray 73 (0, 0)) := Hs5.out
  have hb5 : Below x w w5 := below_of_grown hb03 Hg5.out (by have := (Array.getElem?_eq_some_iff.1 hr3).1; omega) (by omega)
  clear Hs5 Hg5 HLd s3 hr3 hx3 k32 k33
  go_wp2
  refine bodyPost_ret (v := .agg mv.toArray) ?_ rfl ⟨by rw [Hmv.out]; rfl, by rw [Hx.out]; exact hb5⟩
  exact results_cell_row (ty := 73) rfl _ _ r 73 _ (0, 0) _ rfl hr5 Tryz.underlying73 rfl hmi.out
end Go.Proofs.YtopjhgpgompenaaGreatDoor
