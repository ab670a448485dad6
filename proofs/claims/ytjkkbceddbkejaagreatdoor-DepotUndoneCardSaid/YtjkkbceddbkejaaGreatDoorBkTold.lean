/-
  Package pages: told.
-/
import Derived.Test.YtjkkbceddbkejaaGreatDoorBkState
import Derived.Test.YtjkkbceddbkejaaGreatDoorBkBytes
import Derived.Test.YtjkkbceddbkejaaGreatDoorBkMap
set_option linter.unusedSimpArgs false
set_option linter.unusedVariables false
namespace Go.Proofs.YtjkkbceddbkejaaGreatDoor
open Go.RowKit Sh

theorem results_tmp_cell_row {P : Program} {fn : Func} {p u : Tmp} {ty : TypeId} (h : fn.results = #[.tmp u, .cell p ty]) (tmps : Array Value) (w : World) (g : Nat) (t : TypeId) (cs : Array Value) (fr : Nat × Nat) (d : TypeDesc)
    (hp : tmps.getD p undef = .pointer (some ⟨g, 0, none⟩)) (hg : w.heap[g]? = some (.cells cs t fr))
    (hu : P.underlying ty = some d) (hd : (match d with | .struct _ | .array _ _ => true | _ => false) = true) (hi : (P.info? ty).map (·.size) = some cs.size) (x : Value) (hx : tmps.getD u undef = x) :
    (results fn tmps).run P w = .ok (.tuple #[x, .agg cs]) w := by
  have hp' : tmps[p]?.getD undef = .pointer (some ⟨g, 0, none⟩) := by simpa using hp
  have hx' : tmps[u]?.getD undef = x := by simpa using hx
  simp [results, h, hp', hx', asAddr, run_loadVar_row w g t ty cs fr d hg hu hd hi]
theorem results_tmp_cell_tmp {P : Program} {fn : Func} {p u v : Tmp} {ty : TypeId} (h : fn.results = #[.tmp u, .cell p ty, .tmp v]) (tmps : Array Value) (w : World) (g : Nat) (t : TypeId) (cs : Array Value) (fr : Nat × Nat) (d : TypeDesc)
    (hp : tmps.getD p undef = .pointer (some ⟨g, 0, none⟩)) (hg : w.heap[g]? = some (.cells cs t fr))
    (hu : P.underlying ty = some d) (hd : (match d with | .struct _ | .array _ _ => true | _ => false) = true) (hi : (P.info? ty).map (·.size) = some cs.size) (x z : Value) (hx : tmps.getD u undef = x) (hz : tmps.getD v undef = z) :
    (results fn tmps).run P w = .ok (.tuple #[x, .agg cs, z]) w := by
  have hp' : tmps[p]?.getD undef = .pointer (some ⟨g, 0, none⟩) := by simpa using hp
  have hx' : tmps[u]?.getD undef = x := by simpa using hx
  have hz' : tmps[v]?.getD undef = z := by simpa using hz
  simp [results, h, hp', hx', hz', asAddr, run_loadVar_row w g t ty cs fr d hg hu hd hi]
/-- A whole value stored over another one. -/
theorem wp_store_whole {P : Program} {o : Oper} {a : Act} {w : World} {K : Act → World → Prop} {Q : Exit → Act → World → Prop} (ty : TypeId) (x y : Operand)
    (ho : o.op = .store ty x y) (g : Nat) (cells : Array Value) (hx : a.eval x = .pointer (some ⟨g, 0, none⟩)) (hy : a.eval y = .agg cells) (cur : Array Value) (t : TypeId) (hg : w.heap[g]? = some (.cells cur t (0, 0)))
    (hi : (P.info? ty).map (·.size) = some cells.size) (hz : cur.size = cells.size) (h1 : cells.all (·.oneCell') = true)
    (h : ∀ w', Hid (w'.heap[g]? = some (.cells cells t (0, 0))) → Hid (w.grownBy w' (some g)) → K (a.put o.dst undef) w') : o.wp P a w K Q := by
  refine wp_store_into ty x y ho g 0 cells hx hy cur.toList t (by simpa using hg) hi (by rw [Nat.zero_add, Array.length_toList]; omega) (fun v hv => by
    rw [Array.all_eq_true'] at h1; exact h1 v (by simpa using hv)) (fun w' e1 e2 => h w' (Lib.hid ?_) (Lib.hid e2))
  rw [splice_whole _ _ (by simp; omega)] at e1
  simpa using e1
/-- Bytes of a page that lies in a box. -/
theorem box_bytes {w : World} {x : Nat} {t : TypeId} {p : List UInt8} (h : w.heap[x]? = some (.cells (p.map cu8).toArray t (0, 0))) (hp : p.length = 64) (o n : Nat) (hn : o + n ≤ 64) : ∀ j, j < n → w.cell? ⟨x, o + j, none⟩ = some (.int .u8 (bz (at8 ((p.drop o).take n) j))) := fun j hj => by
  rw [cell_of_row w x _ _ _ _ h, List.getElem?_toArray, List.getElem?_map, List.getElem?_eq_getElem (by omega)]
  simp [at8, cu8, hj, List.getElem?_take_of_lt hj, List.getElem?_drop, List.getElem?_eq_getElem (show o + j < p.length by omega)]
def ToldP (p : List UInt8) (w : World) (e : Ending) (w' : World) : Prop := e = .returned (.tuple #[.int .u64 ((toldB p).1 : Nat), .agg (markCells (toldB p).2).toArray]) ∧ Below w.heap.size w w'
set_option maxRecDepth 100000 in
set_option maxHeartbeats 4000000 in
/-- told. -/
theorem told_any (p : List UInt8) (hp : p.length = 64) (w : World) : Calls Tryz.prog 112 #[pageV p] w (ToldP p w) := by
  obtain ⟨pv, Hpv⟩ : ∃ pv : List Value, Hid (pv = p.map cu8) := ⟨_, rfl⟩
  have hpg : pageV p = .agg pv.toArray := by rw [Hpv.out]; rfl
  rw [hpg]
  obtain ⟨t1, t2, t3, t4⟩ := told_ok hp
  obtain ⟨zm, Hzm⟩ : ∃ zm : Array Value, Hid (zm = zMark.toArray) := ⟨_, rfl⟩
  have halm : ∀ w : World, (Instr.alloc 156 true (.tuple #[])).run Tryz.prog w = .ok (.pointer (some ⟨w.heap.size, 0, none⟩)) (w.alloc (.cells zm 156)) := by rw [Hzm.out]; exact allocMark
  have hb2 : Below w.heap.size w ((w.alloc (.cells pv.toArray 33)).alloc (.cells zm 156)) := ((Below.refl _ _).alloc (Nat.le_refl _) _).alloc (by simp) _
  have hx2 : ((w.alloc (.cells pv.toArray 33)).alloc (.cells zm 156)).heap[w.heap.size]? = some (.cells pv.toArray 33 (0, 0)) := by
    rw [Below.heap_alloc _ _ _ (by simp)]; exact heap_alloc_new _ _
  have hr2 : ((w.alloc (.cells pv.toArray 33)).alloc (.cells zm 156)).heap[w.heap.size + 1]? = some (.cells zm 156 (0, 0)) := by
    have := heap_alloc_new (w.alloc (.cells pv.toArray 33)) (.cells zm 156)
    simpa using this
  go_enter Tryz.func112, Tryz.ntmps112
  go_upto_region 1 with (first
    | (refine wpList_alloc_arr rfl 156 rfl _ halm ?_))
  try simp only [World.size_alloc]
  clear halm
  generalize (w.alloc (.cells pv.toArray 33)).alloc (.cells zm 156) = wa at hb2 hx2 hr2 ⊢
  obtain ⟨r, hr⟩ : ∃ r, w.heap.size + 1 = r := ⟨_, rfl⟩
  obtain ⟨x, hx⟩ : ∃ x, w.heap.size = x := ⟨_, rfl⟩
  rw [hr] at hr2 ⊢
  rw [hx] at hx2 hb2 ⊢
  have hxr : x < r := by omega
  have Hx := Lib.hid hx
  clear hr hx
  have hb3 : Below wa.heap.size wa { wa with drawn := wa.drawn + 1 } := ⟨rfl, rfl, rfl, Nat.le_refl _, fun _ _ => rfl⟩
  obtain ⟨wd, hdr⟩ : ∃ wd : World, ({ wa with drawn := wa.drawn + 1 } : World) = wd := ⟨_, rfl⟩
  refine wp_region_up 12 (fun v => v = wd) (by kernel_rfl) ?_
  rw [hdr] at hb3 ⊢
  have hxl : x < wa.heap.size := (Array.getElem?_eq_some_iff.1 hx2).1
  have hrl : r < wa.heap.size := (Array.getElem?_eq_some_iff.1 hr2).1
  have hx3 := (hb3.block x hxl).trans hx2
  have hr3 := (hb3.block r hrl).trans hr2
  have hb03 : Below x w wd := hb2.trans (hb3.mono (by omega))
  clear hdr hb3 hb2 hx2 hr2 hxl hrl
  have hx4 := hx3
  rw [Hpv.out] at hx4
  have g1 := bget_any (w := wd) (bs := (p.drop 1).take 8) (n := 8) (g := x) (o := 1) (cap := 63) (by simp [hp]) (by omega) (box_bytes hx4 hp 1 8 (by omega))
  have g2 := bget_any (w := wd) (bs := (p.drop 17).take 2) (n := 2) (g := x) (o := 17) (cap := 47) (by simp [hp]) (by omega) (box_bytes hx4 hp 17 2 (by omega))
  have g3 := bget_any (w := wd) (bs := (p.drop 9).take 8) (n := 8) (g := x) (o := 9) (cap := 55) (by simp [hp]) (by omega) (box_bytes hx4 hp 9 8 (by omega))
  unfold ToldP
  obtain ⟨G, hG⟩ : ∃ G, (toldB p).1 = G := ⟨_, rfl⟩
  obtain ⟨Pl, hPl⟩ : ∃ Pl, (toldB p).2.place = Pl := ⟨_, rfl⟩
  obtain ⟨Nu, hNu⟩ : ∃ Nu, (toldB p).2.num = Nu := ⟨_, rfl⟩
  rw [show numFrom ((p.drop 1).take 8) 0 = G from hG] at g1
  rw [show numFrom ((p.drop 17).take 2) 0 = Pl from hPl] at g2
  rw [show numFrom ((p.drop 9).take 8) 0 = Nu from hNu] at g3
  rw [hPl] at t3
  have wP : IntKind.i64.wrap (Pl : Int) = (Pl : Int) := IntWalk.i64_in _ (by omega)
  obtain ⟨lv, Hlv⟩ : ∃ lv : List Value, Hid (lv = ((p.drop 19).take 32).map cu8) := ⟨_, rfl⟩
  have hlvl : lv.length = 32 := by rw [Hlv.out]; simp [hp]
  have hlr : wd.rangeAt x 19 lv := fun j v hj => by
    rw [Hlv.out] at hj
    have hj32 : j < 32 := by
      rcases Nat.lt_or_ge j 32 with h7 | h7
      · exact h7
      · rw [List.getElem?_eq_none (by simp [hp]; omega)] at hj; simp at hj
    rw [box_bytes hx4 hp 19 32 (by omega) j hj32, ← hj, List.getElem?_map, List.getElem?_eq_getElem (by simp [hp]; omega)]
    simp [at8, cu8, hj32, List.getElem?_take_of_lt hj32, List.getElem?_drop, List.getElem?_eq_getElem (show 19 + j < p.length by omega)]
  have hi32 : Hid ((Tryz.prog.info? 56).map (·.size) = some lv.length) := by rw [hlvl]; exact (by kernel_rfl : (Tryz.prog.info? 56).map (·.size) = some 32)
  have HLd := Lib.hid (run_loadAt_mid (P := Tryz.prog) wd x 19 56 lv _ hlr Tryz.underlying56 rfl hi32.out)
  have s3 : ∀ w : World, (Instr.arrayAt 56 (.slice (some ⟨x, 19, none⟩) 32 45)).run Tryz.prog w = .ok (.pointer (some ⟨x, 19, none⟩)) w := fun w => by kernel_rfl
  have HB := built_pmark (toldB p).2 t4
  obtain ⟨mv, Hmv⟩ : ∃ mv : List Value, Hid (mv = markCells (toldB p).2) := ⟨_, rfl⟩
  rw [hPl, hNu, show (toldB p).2.last.map cu8 = lv from Hlv.out.symm, ← Hmv.out] at HB
  have HB := Lib.hid HB
  have hmvl : mv.length = 34 := by rw [Hmv.out]; simp [markCells, t4]
  have hmi : Hid ((Tryz.prog.info? 156).map (·.size) = some mv.toArray.size) := by rw [List.size_toArray, hmvl]; exact infoPMark
  have hmz : Hid (zm.size = mv.toArray.size) := by
    have e : mv.toArray.size = 34 := by rw [List.size_toArray, hmvl]
    rw [e, Hzm.out]; exact (rfl : zMark.toArray.size = 34)
  have hm1 : Hid (mv.toArray.all (·.oneCell') = true) := by rw [Hmv.out]; exact all_oneCell_toArray (mark_one (toldB p).2)
  have HG := Lib.hid hG
  have hS : wd = wd := rfl
  clear t1 t2 t3 hG hPl hNu hlr hx4 hpg
  refine up_take (i := 0) (v := .slice (some ⟨x, 1, none⟩) 8 63) rfl (by kernel_rfl) (by kernel_rfl) (fun _ _ _ h => h) (Or.inl ⟨by rfl, ?_⟩) hS ?_
  · intro w' _; go_simp
  try simp only [List.getElem_toArray, List.getElem_cons_succ, List.getElem_cons_zero, Act.put, List.setIfInBounds_toArray, List.set]
  refine up_take (i := 2) (v := .slice (some ⟨x, 17, none⟩) 2 47) rfl (by kernel_rfl) (by kernel_rfl) (fun _ _ _ h => h) (Or.inl ⟨by rfl, ?_⟩) hS ?_
  · intro w' _; go_simp
  try simp only [List.getElem_toArray, List.getElem_cons_succ, List.getElem_cons_zero, Act.put, List.setIfInBounds_toArray, List.set]
  refine up_take (i := 5) (v := .slice (some ⟨x, 9, none⟩) 8 55) rfl (by kernel_rfl) (by kernel_rfl) (fun _ _ _ h => h) (Or.inl ⟨by rfl, ?_⟩) hS ?_
  · intro w' _; go_simp
  try simp only [List.getElem_toArray, List.getElem_cons_succ, List.getElem_cons_zero, Act.put, List.setIfInBounds_toArray, List.set]
  refine up_take (i := 7) (v := .slice (some ⟨x, 19, none⟩) 32 45) rfl (by kernel_rfl) (by kernel_rfl) (fun _ _ _ h => h) (Or.inl ⟨by rfl, ?_⟩) hS ?_
  · intro w' _; go_simp
  try simp only [List.getElem_toArray, List.getElem_cons_succ, List.getElem_cons_zero, Act.put, List.setIfInBounds_toArray, List.set]
  refine up_take (i := 8) (v := .pointer (some ⟨x, 19, none⟩)) rfl (by kernel_rfl) (by kernel_rfl) (fun _ _ _ h => h) (Or.inl ⟨by rfl, ?_⟩) hS ?_
  · intro w' _; go_simp
  try simp only [List.getElem_toArray, List.getElem_cons_succ, List.getElem_cons_zero, Act.put, List.setIfInBounds_toArray, List.set]
  refine up_take (i := 9) (v := .agg lv.toArray) rfl (by kernel_rfl) (by kernel_rfl) (fun _ _ _ h => h) (Or.inl ⟨by rfl, ?_⟩) hS ?_
  · intro w' hS'; subst hS'; exact exec_load _ _ 56 _ rfl x 19 rfl _ HLd.out
  try simp only [List.getElem_toArray, List.getElem_cons_succ, List.getElem_cons_zero, Act.put, List.setIfInBounds_toArray, List.set]
  refine up_one 1 _ rfl (by kernel_rfl) (by decide) (by rfl) (fun K hK => ?_)
  go_simp
  refine g1.mono ?_
  rintro e w' ⟨rfl, rfl⟩
  refine hK _ _ hS ?_
  clear hK K
  try simp only [List.getElem_toArray, List.getElem_cons_succ, List.getElem_cons_zero, Act.put, List.setIfInBounds_toArray, List.set]
  refine up_one 3 _ rfl (by kernel_rfl) (by decide) (by rfl) (fun K hK => ?_)
  go_simp
  refine g2.mono ?_
  rintro e w' ⟨rfl, rfl⟩
  refine hK _ _ hS ?_
  clear hK K
  try simp only [List.getElem_toArray, List.getElem_cons_succ, List.getElem_cons_zero, Act.put, List.setIfInBounds_toArray, List.set]
  refine up_take (i := 4) (v := (.int .i64 (Pl : Nat))) rfl (by kernel_rfl) (by kernel_rfl) (fun _ _ _ h => h) (Or.inl ⟨by rfl, ?_⟩) hS ?_
  · intro w' _; go_simp
  try simp only [List.getElem_toArray, List.getElem_cons_succ, List.getElem_cons_zero, Act.put, List.setIfInBounds_toArray, List.set]
  refine up_one 6 _ rfl (by kernel_rfl) (by decide) (by rfl) (fun K hK => ?_)
  go_simp
  refine g3.mono ?_
  rintro e w' ⟨rfl, rfl⟩
  refine hK _ _ hS ?_
  clear hK K
  try simp only [List.getElem_toArray, List.getElem_cons_succ, List.getElem_cons_zero, Act.put, List.setIfInBounds_toArray, List.set]
  refine up_take (i := 10) (v := (.agg mv.toArray)) rfl (by kernel_rfl) (by kernel_rfl) (fun _ _ _ h => h) (Or.inl ⟨by rfl, ?_⟩) hS ?_
  · intro w' _; exact exec_build w' rfl (Eq.trans (congrArg (Program.built _ _) (by simp [Act.eval, Act.put])) HB.out)
  try simp only [List.getElem_toArray, List.getElem_cons_succ, List.getElem_cons_zero, Act.put, List.setIfInBounds_toArray, List.set]
  refine up_take (i := 11) (v := .int .u64 (G : Nat)) rfl (by kernel_rfl) (by kernel_rfl) (fun _ _ _ h => h) (Or.inl ⟨by rfl, ?_⟩) hS ?_
  · intro w' _; go_simp
  try simp only [List.getElem_toArray, List.getElem_cons_succ, List.getElem_cons_zero, Act.put, List.setIfInBounds_toArray, List.set]
  refine up_tail ?_
  refine up_last 12 _ rfl (by kernel_rfl) (by decide) (by rfl) (fun K hK => ?_)
  refine wp_store_whole 156 _ _ rfl r mv.toArray rfl rfl zm 156 hr3 hmi.out hmz.out hm1.out ?_
  intro w5 Hs5 Hg5
  refine hK _ _ ?_
  clear hK K
  try simp only [List.getElem_toArray, List.getElem_cons_succ, List.getElem_cons_zero, Act.put, List.setIfInBounds_toArray, List.set]
  refine up_done (by kernel_rfl) ?_ _
  have hr5 : w5.heap[r]? = some (.cells mv.toArray 156 (0, 0)) := Hs5.out
  have hb5 : Below x w w5 := below_of_grown hb03 Hg5.out (by have := (Array.getElem?_eq_some_iff.1 hr3).1; omega) (by omega)
  clear Hs5 Hg5 HLd s3 hr3 hx3
  go_wp2
  refine bodyPost_ret (v := .tuple #[.int .u64 (G : Nat), .agg mv.toArray]) ?_ rfl ⟨by rw [HG.out, Hmv.out], by rw [Hx.out]; exact hb5⟩
  exact results_tmp_cell_row (ty := 156) rfl _ _ r 156 _ (0, 0) _ rfl hr5 Tryz.underlying156 rfl hmi.out _ rfl
end Go.Proofs.YtjkkbceddbkejaaGreatDoor
