/-
  Package prints: page; home, right, has.
-/
import Derived.Test.YtopjhgpgompenaaGreatDoorPnTold
set_option linter.unusedSimpArgs false
set_option linter.unusedVariables false
namespace Go.Proofs.YtopjhgpgompenaaGreatDoor
open Go.RowKit Sh Go.Maps Go.Extern.Stop Go.Stop Go.Extern

theorem i64_orP (a b : Nat) (ha : a < 9223372036854775808) (hb : b < 9223372036854775808) : bits .or .i64 (a : Int) (b : Int) = ((a ||| b : Nat) : Int) := by
  have e1 : (BitVec.ofInt 64 (a : Int)).toNat = a := by rw [BitVec.toNat_ofInt]; omega
  have e2 : (BitVec.ofInt 64 (b : Int)).toNat = b := by rw [BitVec.toNat_ofInt]; omega
  have key : (BitVec.ofInt 64 (a : Int) ||| BitVec.ofInt 64 (b : Int)).toNat = a ||| b := by rw [BitVec.toNat_or, e1, e2]
  have hlt : a ||| b < 2 ^ 63 := Nat.or_lt_two_pow (by omega) (by omega)
  show IntKind.i64.wrap ((BitVec.ofInt 64 (a : Int) ||| BitVec.ofInt 64 (b : Int)).toNat : Nat) = _
  rw [key, IntWalk.i64_in _ (by omega)]
def lowN (p : List UInt8) (o : Nat) : Nat → Nat
  | 0 => 0
  | k + 1 => lowN p o k + (at8 p (o + k)).toNat * 2 ^ (8 * k)
section
variable {w : World}
set_option maxRecDepth 100000 in
set_option maxHeartbeats 16000000 in
theorem ppage_any (e : Ent) (h : EntOk e) (w : World) : Calls Tryz.prog 106 #[entV e] w (RetP (pageV (pgE e)) w) := by
  have hl := h.dg; have hs := h.slot; have hr15 := h.refs
  obtain ⟨ev, Hev⟩ : ∃ ev : List Value, Hid (ev = entC e) := ⟨_, rfl⟩
  have hV : entV e = .agg ev.toArray := by rw [Hev.out]; rfl
  rw [hV]
  have hb3 : Below w.heap.size w (((w.alloc (.cells ev.toArray 73)).alloc (.cells zeros64 28)).alloc (.cells zeros64 28)) := (((Below.refl _ _).alloc (Nat.le_refl _) _).alloc (by simp) _).alloc (by simp; omega) _
  have hx3 : (((w.alloc (.cells ev.toArray 73)).alloc (.cells zeros64 28)).alloc (.cells zeros64 28)).heap[w.heap.size]? = some (.cells ev.toArray 73 (0, 0)) := by
    rw [Below.heap_alloc _ _ _ (by simp; omega), Below.heap_alloc _ _ _ (by simp)]; exact heap_alloc_new _ _
  have hr3 : (((w.alloc (.cells ev.toArray 73)).alloc (.cells zeros64 28)).alloc (.cells zeros64 28)).heap[w.heap.size + 1]? = some (.cells zeros64 28 (0, 0)) := by
    rw [Below.heap_alloc _ _ _ (by simp)]
    have := heap_alloc_new (w.alloc (.cells ev.toArray 73)) (.cells zeros64 28)
    simpa using this
  have hq3 : (((w.alloc (.cells ev.toArray 73)).alloc (.cells zeros64 28)).alloc (.cells zeros64 28)).heap[w.heap.size + 2]? = some (.cells zeros64 28 (0, 0)) := by
    have := heap_alloc_new ((w.alloc (.cells ev.toArray 73)).alloc (.cells zeros64 28)) (.cells zeros64 28)
    simpa using this
  obtain ⟨P, HP⟩ : ∃ P, Hid (pgE e = P) := ⟨_, rfl⟩
  rw [HP.out]
  obtain ⟨zv, Hz⟩ : ∃ zv : Array Value, Hid (zv = zeros64) := ⟨_, rfl⟩
  have hal : ∀ w : World, (Instr.alloc 28 true (.tuple #[])).run Tryz.prog w = .ok (.pointer (some ⟨w.heap.size, 0, none⟩)) (w.alloc (.cells zv 28)) := by rw [Hz.out]; exact alloc64
  rw [← Hz.out] at hb3 hx3 hr3 hq3
  have hzi : Hid ((Tryz.prog.info? 28).map (·.size) = some zv.size) := by rw [Hz.out, zerosV]; exact pageInfo (by simp)
  have hz1 : Hid (zv.all (·.oneCell') = true) := by rw [Hz.out, zerosV]; exact bytes_one _
  go_enter Tryz.func106, Tryz.ntmps106
  go_upto_region 2 with (first
    | (refine wpList_alloc_arr rfl 28 rfl _ hal ?_))
  try simp only [World.size_alloc]
  generalize ((w.alloc (.cells ev.toArray 73)).alloc (.cells zv 28)).alloc (.cells zv 28) = wa at hb3 hx3 hr3 hq3 ⊢
  have nrm : w.heap.size + 1 + 1 = w.heap.size + 2 := rfl
  try rw [nrm]
  obtain ⟨q, hq⟩ : ∃ q, w.heap.size + 2 = q := ⟨_, rfl⟩
  obtain ⟨r, hr⟩ : ∃ r, w.heap.size + 1 = r := ⟨_, rfl⟩
  obtain ⟨x, hx⟩ : ∃ x, w.heap.size = x := ⟨_, rfl⟩
  rw [hq] at hq3 ⊢
  rw [hr] at hr3 ⊢
  rw [hx] at hx3 hb3 ⊢
  have hxq : x < r ∧ r < q := by omega
  have Hx := Lib.hid hx
  clear hq hr hx nrm hal
  rw [Hev.out] at hx3
  obtain ⟨c32, c33⟩ := ent_box hx3 hl
  by_cases h0 : e.refs = 0
  · rw [h0] at c33
    have hP := HP.out
    unfold pgE at hP
    rw [if_pos h0] at hP
    clear c32
    go_wp2_with (first
      | (refine wpList_load_row rfl 28 _ rfl q rfl 28 zv (0, 0) _ hq3 Tryz.underlying28 rfl hzi.out ?_)
      | (refine wpList_store_row rfl 28 _ _ rfl r zv rfl rfl 28 zv hr3 hzi.out rfl hz1.out ?_))
    have hb4 := below_setRow (g := r) hb3 (by omega) zv
    refine bodyPost_ret (v := .agg zv) ?_ rfl ⟨by rw [← hP, Hz.out, zerosV]; rfl, by rw [Hx.out]; exact hb4⟩
    exact results_cell_row (ty := 28) rfl _ _ r 28 _ (0, 0) _ rfl (setRow_heap _ _ _ _ _ _ hr3) Tryz.underlying28 rfl hzi.out
  have h0' : ¬ ((e.refs : Int) = 0) := by omega
  have h0b : ((e.refs : Int) == 0) = false := by simpa using h0
  obtain ⟨S, hSe⟩ : ∃ S, e.slot = S := ⟨_, rfl⟩
  obtain ⟨C, hCe⟩ : ∃ C, e.refs = C := ⟨_, rfl⟩
  rw [hSe] at c32 hs; rw [hCe] at c33 hr15 h0' h0b
  obtain ⟨dv, Hdv⟩ : ∃ dv : List Value, Hid (dv = e.dg.map cu8) := ⟨_, rfl⟩
  have hdl : dv.length = 32 := by rw [Hdv.out]; simp [hl]
  have hP : e.dg ++ (UInt8.ofNat S :: UInt8.ofNat C :: List.replicate 30 0) = P := by
    have := HP.out
    unfold pgE at this
    rw [if_neg h0, hSe, hCe] at this; exact this
  have HP2 := Lib.hid hP
  clear hP h0
  go_upto_region 4 with (fail)
  have hb4 : Below wa.heap.size wa { wa with drawn := wa.drawn + 1 } := ⟨rfl, rfl, rfl, Nat.le_refl _, fun _ _ => rfl⟩
  obtain ⟨wd, hdr⟩ : ∃ wd : World, ({ wa with drawn := wa.drawn + 1 } : World) = wd := ⟨_, rfl⟩
  refine wp_region_up 3 (fun v => v = wd) (by kernel_rfl) ?_
  rw [hdr] at hb4 ⊢
  have hx4 := (hb4.block x (Array.getElem?_eq_some_iff.1 hx3).1).trans hx3
  have hr4 := (hb4.block r (Array.getElem?_eq_some_iff.1 hr3).1).trans hr3
  have hq4 := (hb4.block q (Array.getElem?_eq_some_iff.1 hq3).1).trans hq3
  have hbd : Below x w wd := hb3.trans (hb4.mono (by have := (Array.getElem?_eq_some_iff.1 hx3).1; omega))
  have hsrc : ∀ j v, dv[j]? = some v → wd.cell? ((⟨x, 0, none⟩ : Addr).add j) = some v := fun j v hj => by
    rw [show (⟨x, 0, none⟩ : Addr).add j = ⟨x, 0 + j, none⟩ by unfold Addr.add; split <;> simp_all]
    exact ent_digest hx4 j v (by rw [← Hdv.out]; exact hj)
  have hS : wd = wd := rfl
  rw [Hz.out] at hq4
  have hq4' : wd.heap[q]? = some (.cells ((List.replicate 64 (0 : UInt8)).map cu8).toArray 28 (0, 0)) := by rw [hq4, zerosV]
  clear hdr hb4 hx3 hr3 hq3 hb3 hq4 c32 c33
  refine up_take (i := 0) (v := .slice (some ⟨q, 0, none⟩) 32 64) rfl (by kernel_rfl) (by kernel_rfl) (fun _ _ _ h => h) (Or.inl ⟨by rfl, ?_⟩) hS ?_
  · intro w' _; go_simp
  try simp only [List.getElem_toArray, List.getElem_cons_succ, List.getElem_cons_zero, Act.put, List.setIfInBounds_toArray, List.set]
  refine up_take (i := 1) (v := .pointer (some ⟨x, 0, none⟩)) rfl (by kernel_rfl) (by kernel_rfl) (fun _ _ _ h => h) (Or.inl ⟨by rfl, ?_⟩) hS ?_
  · intro w' _; go_simp
  try simp only [List.getElem_toArray, List.getElem_cons_succ, List.getElem_cons_zero, Act.put, List.setIfInBounds_toArray, List.set]
  refine up_take (i := 2) (v := .slice (some ⟨x, 0, none⟩) 32 32) rfl (by kernel_rfl) (by kernel_rfl) (fun _ _ _ h => h) (Or.inl ⟨by rfl, ?_⟩) hS ?_
  · intro w' _; go_simp
  try simp only [List.getElem_toArray, List.getElem_cons_succ, List.getElem_cons_zero, Act.put, List.setIfInBounds_toArray, List.set]
  refine up_tail ?_
  refine up_last 3 _ rfl (by kernel_rfl) (by decide) (by rfl) (fun K hK => ?_)
  refine wp_copy_into rfl _ _ 175 175 rfl 5 Tryz.underlying175 (by kernel_rfl) q 0 32 64 ⟨x, 0, none⟩ 32 32 rfl rfl _ 28 hq4' dv (by rw [hdl]; rfl) hsrc (by simp [hdl]) (fun v hv => by rw [Hdv.out] at hv; obtain ⟨z, _, rfl⟩ := List.mem_map.1 hv; rfl) ?_
  intro w5 Hs5 Hg5
  refine hK _ _ ?_
  clear hK K
  try simp only [List.getElem_toArray, List.getElem_cons_succ, List.getElem_cons_zero, Act.put, List.setIfInBounds_toArray, List.set]
  refine up_done (by kernel_rfl) ?_ _
  have e4 := splice_mapB (List.replicate 64 0) 0 e.dg
  rw [← Hdv.out] at e4
  have hq5 : w5.heap[q]? = some (.cells ((e.dg ++ List.replicate 32 0).map cu8).toArray 28 (0, 0)) := by
    rw [Hs5.out, e4]
    unfold spliceB
    congr 3
    rw [List.take_zero, List.nil_append, Nat.zero_add, List.drop_replicate, hl]
  have hx5 := (Hg5.out.block x (by have := (Array.getElem?_eq_some_iff.1 hx4).1; exact this) (by simp; omega)).trans hx4
  have hr5 := (Hg5.out.block r (by have := (Array.getElem?_eq_some_iff.1 hr4).1; exact this) (by simp; omega)).trans hr4
  have hb5 : Below x w w5 := below_of_grown hbd Hg5.out (by have := (Array.getElem?_eq_some_iff.1 hx4).1; omega) (by omega)
  clear Hs5 Hg5 e4 hsrc hx4 hr4 hq4' hbd hS
  obtain ⟨c32, _⟩ := ent_box hx5 hl
  rw [hSe] at c32
  have wS : IntKind.u8.wrap (S : Int) = (S : Int) := by rw [IntKind.wrap_u8]; omega
  have wC : IntKind.u8.wrap (C : Int) = (C : Int) := by rw [IntKind.wrap_u8]; omega
  have k32 : w5.cell? ⟨q, 32, none⟩ = some (.int .u8 0) := by
    rw [cell_of_row w5 q 32 _ _ _ hq5, List.getElem?_toArray, List.getElem?_map, List.getElem?_append_right (by omega), hl]; rfl
  have f32 := thawed_row hq5 32
  have s5 := setCell_row hq5 32 (.int .u8 (S : Int))
  have g5 := grown_setCell w5 ⟨q, 32, none⟩ (.int .u8 (S : Int))
  go_upto_region 6 with (fail)
  generalize w5.setCell ⟨q, 32, none⟩ (.int .u8 (S : Int)) = w6 at s5 g5 ⊢
  have hx6 := (g5.block x (Array.getElem?_eq_some_iff.1 hx5).1 (by simp; omega)).trans hx5
  have hr6 := (g5.block r (Array.getElem?_eq_some_iff.1 hr5).1 (by simp; omega)).trans hr5
  have hb6 : Below x w w6 := below_of_grown hb5 g5 (by have := hb5.size; have := Hx.out; omega) (by show x ≤ q; omega)
  have e5 : ((e.dg ++ List.replicate 32 0).map cu8).set 32 (.int .u8 (S : Int)) = (e.dg ++ (UInt8.ofNat S :: List.replicate 31 0)).map cu8 := by
    have hu : Value.int .u8 (S : Int) = cu8 (UInt8.ofNat S) := by rw [cu8P, UInt8.toNat_ofNat']; congr 1; omega
    rw [hu, ← List.map_set, List.set_append_right _ _ (by omega), hl]; rfl
  rw [e5] at s5
  clear g5 e5 c32 k32 f32 hq5 hx5 hr5 hb5 wS
  obtain ⟨_, c33⟩ := ent_box hx6 hl
  rw [hCe] at c33
  have k33 : w6.cell? ⟨q, 33, none⟩ = some (.int .u8 0) := by
    rw [cell_of_row w6 q 33 _ _ _ s5, List.getElem?_toArray, List.getElem?_map, List.getElem?_append_right (by omega), hl]; rfl
  have f33 := thawed_row s5 33
  have s6 := setCell_row s5 33 (.int .u8 (C : Int))
  have g6 := grown_setCell w6 ⟨q, 33, none⟩ (.int .u8 (C : Int))
  go_upto_region 7 with (fail)
  generalize w6.setCell ⟨q, 33, none⟩ (.int .u8 (C : Int)) = w7 at s6 g6 ⊢
  have hr7 := (g6.block r (Array.getElem?_eq_some_iff.1 hr6).1 (by simp; omega)).trans hr6
  have hb7 : Below x w w7 := below_of_grown hb6 g6 (by have := hb6.size; have := Hx.out; omega) (by show x ≤ q; omega)
  have e6 : ((e.dg ++ (UInt8.ofNat S :: List.replicate 31 0)).map cu8).set 33 (.int .u8 (C : Int)) = P.map cu8 := by
    have hu : Value.int .u8 (C : Int) = cu8 (UInt8.ofNat C) := by rw [cu8P, UInt8.toNat_ofNat']; congr 1; omega
    rw [hu, ← List.map_set, List.set_append_right _ _ (by omega), hl, ← HP2.out]; rfl
  rw [e6] at s6
  have hPl : P.length = 64 := by rw [← HP2.out]; simp [hl]
  obtain ⟨pv, Hpv⟩ : ∃ pv : List Value, Hid (pv = P.map cu8) := ⟨_, rfl⟩
  rw [← Hpv.out] at s6
  have hpi : Hid ((Tryz.prog.info? 28).map (·.size) = some pv.toArray.size) := by rw [Hpv.out]; exact pageInfo hPl
  have hpz : Hid (zv.size = pv.toArray.size) := by rw [Hpv.out, Hz.out]; exact pageZ hPl
  have hp1 : Hid (pv.toArray.all (·.oneCell') = true) := by rw [Hpv.out]; exact bytes_one _
  clear g6 e6 c33 k33 f33 s5 hx6 hr6 hb6 wC
  go_wp2_with (first
    | (refine wpList_load_row rfl 28 _ rfl q rfl 28 pv.toArray (0, 0) _ s6 Tryz.underlying28 rfl hpi.out ?_)
    | (refine wpList_store_row rfl 28 _ _ rfl r pv.toArray rfl rfl 28 zv hr7 hpi.out hpz.out hp1.out ?_))
  have hb8 := below_setRow (g := r) hb7 (by omega) pv.toArray
  refine bodyPost_ret (v := .agg pv.toArray) ?_ rfl ⟨by rw [Hpv.out]; rfl, by rw [Hx.out]; exact hb8⟩
  exact results_cell_row (ty := 28) rfl _ _ r 28 _ (0, 0) _ rfl (setRow_heap _ _ _ _ _ _ hr7) Tryz.underlying28 rfl hpi.out
set_option maxRecDepth 100000 in
theorem home_any (d : List UInt8) (hd : d.length = 32) (w : World) : Calls Tryz.prog 78 #[digV d] w (RetP (.int .i64 (homeD d : Nat)) w) := by
  obtain ⟨dv, Hdv⟩ : ∃ dv : List Value, Hid (dv = d.map cu8) := ⟨_, rfl⟩
  have hV : digV d = .agg dv.toArray := by rw [Hdv.out]; rfl
  rw [hV]
  have hb : Below w.heap.size w (w.alloc (.cells dv.toArray 71)) := (Below.refl _ _).alloc (Nat.le_refl _) _
  have hx : (w.alloc (.cells dv.toArray 71)).heap[w.heap.size]? = some (.cells dv.toArray 71 (0, 0)) := heap_alloc_new w _
  obtain ⟨a, ha⟩ : ∃ a : Nat, (at8 d 0).toNat = a := ⟨_, rfl⟩
  obtain ⟨b, hb'⟩ : ∃ b : Nat, (at8 d 1).toNat = b := ⟨_, rfl⟩
  have ha256 : a < 256 := by rw [← ha]; exact UInt8.toNat_lt _
  have hb256 : b < 256 := by rw [← hb']; exact UInt8.toNat_lt _
  have k0 : (w.alloc (.cells dv.toArray 71)).cell? ⟨w.heap.size, 0, none⟩ = some (.int .u8 (a : Int)) := by
    rw [cell_of_row _ _ 0 _ _ _ hx, Hdv.out, List.getElem?_toArray, List.getElem?_map, List.getElem?_eq_getElem (by omega), ← ha, ← cu8P]
    unfold at8; rw [List.getD_eq_getElem?_getD, List.getElem?_eq_getElem (by omega)]; rfl
  have k1 : (w.alloc (.cells dv.toArray 71)).cell? ⟨w.heap.size, 1, none⟩ = some (.int .u8 (b : Int)) := by
    rw [cell_of_row _ _ 1 _ _ _ hx, Hdv.out, List.getElem?_toArray, List.getElem?_map, List.getElem?_eq_getElem (by omega), ← hb', ← cu8P]
    unfold at8; rw [List.getD_eq_getElem?_getD, List.getElem?_eq_getElem (by omega)]; rfl
  have wa : IntKind.i64.wrap (a : Int) = (a : Int) := IntWalk.i64_in _ (by omega)
  have wb : IntKind.i64.wrap (b : Int) = (b : Int) := IntWalk.i64_in _ (by omega)
  have hor : bits .or .i64 (a : Int) ((b : Int) * 256) = ((a + 256 * b : Nat) : Int) := by
    have := i64_orP a (b * 256) (by omega) (by omega)
    rw [or_bytes a b ha256 hb256] at this
    rw [← this]; congr 1
  have hH : homeD d = a + 256 * b := by unfold homeD; rw [ha, hb']
  rw [hH]
  have Hfin := Lib.hid hb
  clear hx hb hH hV ha hb'
  go_enter Tryz.func78, Tryz.ntmps78
  go_wp2
  go_ret
  exact ⟨rfl, Hfin.out⟩
end
end Go.Proofs.YtopjhgpgompenaaGreatDoor
