/-
  A book that is none; what Mount refuses; Mount.
-/
import Derived.Test.YtjkkbceddbkejaaGreatDoorBkWrite
import Derived.Test.YtjkkbceddbkejaaGreatDoorBkMount
set_option linter.unusedSimpArgs false
set_option linter.unusedVariables false
namespace Go.Proofs.YtjkkbceddbkejaaGreatDoor
open Go.RowKit Sh Go.Maps Go.Extern.Stop Go.Stop Go.Extern

theorem page_box0 (w : World) : Below w.heap.size w (w.alloc (.cells zeros64 33)) ∧ (w.alloc (.cells zeros64 33)).heap[w.heap.size]? = some (.cells zeros64 33 (0, 0)) :=
  ⟨(Below.refl w.heap.size w).alloc (Nat.le_refl _) (.cells zeros64 33), heap_alloc_new _ _⟩
section
variable {w wr w' : World}
set_option maxRecDepth 100000 in
set_option maxHeartbeats 4000000 in
theorem page_nil (w : World) (i : Int) : Calls Tryz.prog 109 #[.pointer none, .int .i64 i] w (PageP (List.replicate 64 0) 10 w) := by
  obtain ⟨hb1, hr1⟩ := page_box0 w
  have hq : ∀ W : World, (binOp .neq 30 (.iface 84 (.int .i64 10)) .nilIface).run Tryz.prog W = .ok (.bool true) W := fun W => run_neq_held_nil W 30 _ _ Tryz.methodsError
  obtain ⟨zv, Hz⟩ : ∃ zv : Array Value, Hid (zv = zeros64) := ⟨_, rfl⟩
  have hbz : Hid (Tryz.prog.built 33 [] = some zv) := by rw [Hz.out]; exact built64
  have hal : ∀ w : World, (Instr.alloc 33 true (.tuple #[])).run Tryz.prog w = .ok (.pointer (some ⟨w.heap.size, 0, none⟩)) (w.alloc (.cells zv 33)) := by rw [Hz.out]; exact alloc64
  rw [← Hz.out] at hb1 hr1
  have hzi : Hid ((Tryz.prog.info? 33).map (·.size) = some zv.size) := by rw [Hz.out, zerosV]; exact pageInfo (by simp)
  have hz1 : Hid (zv.all (·.oneCell') = true) := by rw [Hz.out, zerosV]; exact bytes_one _
  have Hr1 := Lib.hid hr1
  clear hr1
  go_enter Tryz.func109, Tryz.ntmps109
  go_wp2_with (first
    | (refine wpList_alloc_arr rfl 33 rfl _ hal ?_)
    | (go_at_call 49; refine (sound_nil _).mono ?_; rintro e w' ⟨rfl, rfl⟩)
    | (refine wpList_buildZ 33 rfl zv hbz.out (by rfl) ?_)
    | (refine wpList_store_row rfl 33 _ _ rfl w.heap.size zv rfl rfl 33 zv Hr1.out hzi.out rfl hz1.out ?_))
  have hb2 := below_setRow (g := w.heap.size) hb1 (Nat.le_refl _) zv
  refine bodyPost_ret (v := .tuple #[.agg zv, .iface 84 (.int .i64 10)]) ?_ rfl ⟨_, by rw [Hz.out, zerosV]; rfl, .inr ⟨by decide, [], rfl⟩, hb2⟩
  exact results_cell_row_tmp (ty := 33) rfl _ _ w.heap.size 33 _ (0, 0) _ rfl (setRow_heap _ _ _ _ _ _ Hr1.out) Tryz.underlying33 rfl hzi.out _ rfl
set_option maxRecDepth 100000 in
set_option maxHeartbeats 8000000 in
/-- Read, where page answers. -/
theorem read_of {bp : Value} {i n : Int} {q : List UInt8} (hql : q.length = 64) (hpg : Calls Tryz.prog 109 #[bp, .int .i64 i] (w.alloc (.cells zeros64 33)) (PageP q n (w.alloc (.cells zeros64 33)))) :
    Calls Tryz.prog 78 #[bp, .int .i64 i] w (PageP q n w) := by
  obtain ⟨hb1, hr1⟩ := page_box0 w
  obtain ⟨zv, Hz⟩ : ∃ zv : Array Value, Hid (zv = zeros64) := ⟨_, rfl⟩
  have hal : ∀ w : World, (Instr.alloc 33 true (.tuple #[])).run Tryz.prog w = .ok (.pointer (some ⟨w.heap.size, 0, none⟩)) (w.alloc (.cells zv 33)) := by rw [Hz.out]; exact alloc64
  rw [← Hz.out] at hb1 hr1 hpg
  have Hpg := Lib.hid hpg
  obtain ⟨qv, Hqv⟩ : ∃ qv : List Value, Hid (qv = q.map cu8) := ⟨_, rfl⟩
  have hqV : pageV q = .agg qv.toArray := by rw [Hqv.out]; rfl
  have hqi : Hid ((Tryz.prog.info? 33).map (·.size) = some qv.toArray.size) := by rw [Hqv.out]; exact pageInfo hql
  have hqz : Hid (zv.size = qv.toArray.size) := by rw [Hqv.out, Hz.out]; exact pageZ hql
  have hq1 : Hid (qv.toArray.all (·.oneCell') = true) := by rw [Hqv.out]; exact bytes_one _
  clear hpg
  go_enter Tryz.func78, Tryz.ntmps78
  go_wp2_with (first
    | (refine wpList_alloc_arr rfl 33 rfl _ hal ?_)
    | (go_at_call 109; refine Hpg.out.mono ?_))
  generalize w.alloc (.cells zv 33) = w1 at hb1 hr1 Hpg ⊢
  obtain ⟨r, hr⟩ : ∃ r, w.heap.size = r := ⟨_, rfl⟩
  rw [hr] at hr1 hb1 ⊢
  have Hr := Lib.hid hr
  rintro e w2 ⟨v2, rfl, hE2, hb2⟩
  rw [hqV]
  have hrl1 : r < w1.heap.size := (Array.getElem?_eq_some_iff.1 hr1).1
  have hr2 := (hb2.block r hrl1).trans hr1
  have hbel2 := hb1.trans (hb2.mono (by omega))
  clear hr Hpg hr1 hb1
  go_upto_region 2 with (first
    | (refine wpList_alloc_arr rfl 33 rfl _ hal ?_)
    | (refine wpList_store_new rfl 33 _ _ rfl w2.heap.size rfl qv.toArray rfl rfl 33 _ hqi.out hqz.out hq1.out ?_))
  have hrl2 : r < w2.heap.size := (Array.getElem?_eq_some_iff.1 hr2).1
  have hb3 : Below w2.heap.size w2 (w2.alloc (.cells qv.toArray 33)) := (Below.refl _ _).alloc (Nat.le_refl _) _
  have hy3 : (w2.alloc (.cells qv.toArray 33)).heap[w2.heap.size]? = some (.cells qv.toArray 33 (0, 0)) := heap_alloc_new w2 _
  have hr3 := (hb3.block r hrl2).trans hr2
  have hE3 := hE2.below hb3
  have hbel3 := hbel2.trans (hb3.mono (by omega))
  generalize w2.alloc (.cells qv.toArray 33) = w3 at hb3 hy3 hr3 hE3 hbel3 ⊢
  obtain ⟨y, hy⟩ : ∃ y, w2.heap.size = y := ⟨_, rfl⟩
  rw [hy] at hy3 ⊢
  clear hy hb3 hr2 hE2 hb2 hbel2 hrl2 hrl1
  have hyl : y < w3.heap.size := (Array.getElem?_eq_some_iff.1 hy3).1
  have hrl3 : r < w3.heap.size := (Array.getElem?_eq_some_iff.1 hr3).1
  have hqi2 : Hid ((Tryz.prog.info? 33).map (·.size) = some qv.length) := by have := hqi.out; rwa [List.size_toArray] at this
  have HL := Lib.hid (fun W (hW : Below w3.heap.size w3 W) => run_loadAt_mid (P := Tryz.prog) W y 0 33 qv _ (fun j v hj => by rw [Nat.zero_add, cell_of_row W y j _ _ _ ((hW.block y hyl).trans hy3)]; simpa using hj) Tryz.underlying33 rfl hqi2.out)
  have Hin := Lib.hid (fun W (hW : Below w3.heap.size w3 W) => in_err ⟨#[112, 97, 103, 101, 115, 46, 82, 101, 97, 100]⟩ n v2 W (hE3.below hW))
  refine wp_region_up 3 (fun w' => Below w3.heap.size w3 w') (by kernel_rfl) ?_
  have hb4 : Below w3.heap.size w3 { w3 with drawn := w3.drawn + 1 } := ⟨rfl, rfl, rfl, Nat.le_refl _, fun _ _ => rfl⟩
  obtain ⟨wd, hdr⟩ : ∃ wd : World, ({ w3 with drawn := w3.drawn + 1 } : World) = wd := ⟨_, rfl⟩
  rw [hdr] at hb4 ⊢
  clear hdr
  refine up_take (i := 0) (v := .agg qv.toArray) rfl (by kernel_rfl) (by kernel_rfl) (fun _ _ _ h => h) (Or.inl ⟨by rfl, ?_⟩) hb4 ?_
  · intro w' hS'; exact exec_load _ _ 33 _ rfl y 0 rfl _ (HL.out w' hS')
  try simp only [List.getElem_toArray, List.getElem_cons_succ, List.getElem_cons_zero, Act.put, List.setIfInBounds_toArray, List.set]
  refine up_take (i := 1) (v := v2) rfl (by kernel_rfl) (by kernel_rfl) (fun _ _ _ h => h) (Or.inl ⟨by rfl, ?_⟩) hb4 ?_
  · intro w' _; go_simp
  try simp only [List.getElem_toArray, List.getElem_cons_succ, List.getElem_cons_zero, Act.put, List.setIfInBounds_toArray, List.set]
  refine up_one 2 _ rfl (by kernel_rfl) (by decide) (by rfl) (fun K hK => ?_)
  go_simp
  refine (Hin.out _ hb4).mono ?_
  rintro e w5 ⟨v5, rfl, hE5, hq⟩
  have hb5 := hb4.trans (hq.mono hb4.size)
  refine hK _ _ hb5 ?_
  clear hK K
  try simp only [List.getElem_toArray, List.getElem_cons_succ, List.getElem_cons_zero, Act.put, List.setIfInBounds_toArray, List.set]
  clear hq
  refine up_tail ?_
  refine up_last 3 _ rfl (by kernel_rfl) (by decide) (by rfl) (fun K hK => ?_)
  refine wp_store_whole 33 _ _ rfl r qv.toArray rfl rfl zv 33 ((hb5.block r hrl3).trans hr3) hqi.out hqz.out hq1.out ?_
  intro w6 Hs6 Hg6
  refine hK _ _ ?_
  clear hK K
  try simp only [List.getElem_toArray, List.getElem_cons_succ, List.getElem_cons_zero, Act.put, List.setIfInBounds_toArray, List.set]
  refine up_last 4 _ rfl (by kernel_rfl) (by decide) (by rfl) (fun K hK => ?_)
  go_simp
  refine hK _ _ ?_
  clear hK K
  try simp only [List.getElem_toArray, List.getElem_cons_succ, List.getElem_cons_zero, Act.put, List.setIfInBounds_toArray, List.set]
  refine up_done (by kernel_rfl) ?_ _
  have hr6 := Hs6.out
  have hbel6 : Below r w w6 := below_of_grown (hbel3.trans (hb5.mono (by omega))) Hg6.out (by have := hb5.size; have := hbel3.size; have := Hr.out; omega) (Nat.le_refl _)
  have hE6 : ErrV w6 n v5 := hE5.other (r := r) (fun s => by
    rw [cell_of_row w5 r 0 _ _ _ ((hb5.block r hrl3).trans hr3), Hz.out, zerosV]
    simp [cu8]) Hg6.out
  clear Hs6 Hg6 hE5 hb5 hb4 hbel3 hr3
  go_wp2
  refine bodyPost_ret (v := .tuple #[.agg qv.toArray, v5]) ?_ rfl ⟨v5, by rw [hqV], hE6, by rw [Hr.out]; exact hbel6⟩
  exact results_cell_row_tmp (ty := 33) rfl _ _ r 33 _ (0, 0) _ rfl hr6 Tryz.underlying33 rfl hqi.out _ rfl
theorem Read_nil (w : World) (i : Int) : Calls Tryz.prog 78 #[.pointer none, .int .i64 i] w (PageP (List.replicate 64 0) 10 w) := read_of (by simp) (page_nil _ i)
def InQ (n : Int) (w : World) (e : Ending) (w' : World) : Prop := ∃ v, e = .returned v ∧ ErrV w' n v ∧ Below w.heap.size w w'
set_option maxRecDepth 100000 in
set_option maxHeartbeats 4000000 in
theorem bkwrite_nil (w : World) (i : Int) (p : List UInt8) (hp : p.length = 64) : Calls Tryz.prog 102 #[.pointer none, .int .i64 i, pageV p] w (InQ 10 w) := by
  obtain ⟨pv, Hpv⟩ : ∃ pv : List Value, Hid (pv = p.map cu8) := ⟨_, rfl⟩
  have hpV : pageV p = .agg pv.toArray := by rw [Hpv.out]; rfl
  rw [hpV]
  have hb1 : Below w.heap.size w (w.alloc (.cells pv.toArray 33)) := (Below.refl _ _).alloc (Nat.le_refl _) _
  have Hpg := Lib.hid (page_nil (w.alloc (.cells pv.toArray 33)) i)
  obtain ⟨q, hq⟩ : ∃ q : List UInt8, List.replicate 64 0 = q := ⟨_, rfl⟩
  have hql : q.length = 64 := by rw [← hq]; simp
  rw [hq] at Hpg
  clear hq hpV
  go_enter Tryz.func102, Tryz.ntmps102
  go_wp2_with (first | (go_at_call 109; refine Hpg.out.mono ?_))
  rintro e w2 ⟨v2, rfl, hE2, hb2⟩
  have hbel2 := hb1.trans (hb2.mono hb1.size)
  obtain ⟨qv, Hqv⟩ : ∃ qv : List Value, Hid (qv = q.map cu8) := ⟨_, rfl⟩
  have hqV : pageV q = .agg qv.toArray := by rw [Hqv.out]; rfl
  rw [hqV]
  have hqi : Hid ((Tryz.prog.info? 33).map (·.size) = some qv.toArray.size) := by rw [Hqv.out]; exact pageInfo hql
  have hqz : Hid (zeros64.size = qv.toArray.size) := by rw [Hqv.out]; exact pageZ hql
  have hq1 : Hid (qv.toArray.all (·.oneCell') = true) := by rw [Hqv.out]; exact bytes_one _
  clear Hpg hqV
  go_upto_region 2 with (first
    | (refine wpList_alloc_arr rfl 33 rfl _ alloc64 ?_)
    | (refine wpList_store_new rfl 33 _ _ rfl w2.heap.size rfl qv.toArray rfl rfl 33 _ hqi.out hqz.out hq1.out ?_))
  have hb3 : Below w2.heap.size w2 (w2.alloc (.cells qv.toArray 33)) := (Below.refl _ _).alloc (Nat.le_refl _) _
  have hE3 := hE2.below hb3
  have hbel3 := hbel2.trans (hb3.mono (by have := hbel2.size; omega))
  generalize w2.alloc (.cells qv.toArray 33) = w3 at hb3 hE3 hbel3 ⊢
  obtain ⟨t, z, rfl⟩ := hE3.held (by decide)
  have hq := neq_held t z
  have Hfin := Lib.hid (show InQ 10 w (.returned (.iface t z)) w3 from ⟨_, rfl, hE3, hbel3⟩)
  clear hE3 hbel3 hb3 hE2 hb2 hbel2 hb1
  go_wp2
  go_ret
  exact Hfin.out
set_option maxRecDepth 100000 in
set_option maxHeartbeats 4000000 in
theorem Write_nil (w : World) (i : Int) (p : List UInt8) (hp : p.length = 64) : Calls Tryz.prog 70 #[.pointer none, .int .i64 i, pageV p] w (InQ 10 w) := by
  obtain ⟨pv, Hpv⟩ : ∃ pv : List Value, Hid (pv = p.map cu8) := ⟨_, rfl⟩
  have hpV : pageV p = .agg pv.toArray := by rw [Hpv.out]; rfl
  have hpi : Hid ((Tryz.prog.info? 33).map (·.size) = some pv.toArray.size) := by rw [Hpv.out]; exact pageInfo hp
  have hb1 : Below w.heap.size w (w.alloc (.cells pv.toArray 33)) := (Below.refl _ _).alloc (Nat.le_refl _) _
  have hx1 : (w.alloc (.cells pv.toArray 33)).heap[w.heap.size]? = some (.cells pv.toArray 33 (0, 0)) := heap_alloc_new w _
  have Hw := Lib.hid (bkwrite_nil (w.alloc (.cells pv.toArray 33)) i p hp)
  rw [hpV] at Hw ⊢
  clear hpV
  go_enter Tryz.func70, Tryz.ntmps70
  go_wp2_with (first
    | (refine wpList_load_row rfl 33 _ rfl w.heap.size rfl 33 pv.toArray (0, 0) _ hx1 Tryz.underlying33 rfl hpi.out ?_)
    | (go_at_call 102; refine Hw.out.mono ?_))
  rintro e w1 ⟨v, rfl, hE, hb2⟩
  have hbel := hb1.trans (hb2.mono hb1.size)
  have Hi := Lib.hid (in_err ⟨#[112, 97, 103, 101, 115, 46, 87, 114, 105, 116, 101]⟩ _ v w1 hE)
  clear hE Hw hx1 hb1 hb2
  go_wp2_with (first | (go_at_call 35; refine Hi.out.mono ?_))
  rintro e w2 ⟨v2, rfl, hE2, hb2⟩
  have Hfin := Lib.hid (show InQ 10 w (.returned v2) w2 from ⟨v2, rfl, hE2, hbel.trans (hb2.mono hbel.size)⟩)
  clear hE2 hb2 hbel Hi
  go_wp2
  go_ret
  exact Hfin.out
theorem commit_nil (w : World) : Calls Tryz.prog 48 #[.pointer none] w fun e w' => e = .returned (.iface 84 (.int .i64 10)) ∧ w = w' := by
  have hq := neq_held 84 (.int .i64 10)
  go_enter Tryz.func48, Tryz.ntmps48
  go_wp2_with (first | (go_at_call 49; refine (sound_nil _).mono ?_; rintro e w' ⟨rfl, rfl⟩))
  go_ret
  exact ⟨rfl, rfl⟩
theorem Commit_nil (w : World) : Calls Tryz.prog 20 #[.pointer none] w (InQ 10 w) := by
  have Hi := Lib.hid (in_err ⟨#[112, 97, 103, 101, 115, 46, 67, 111, 109, 109, 105, 116]⟩ 10 (.iface 84 (.int .i64 10)) w (.inr ⟨by decide, [], rfl⟩))
  go_enter Tryz.func20, Tryz.ntmps20
  go_wp2_with (first
    | (go_at_call 48; refine (commit_nil _).mono ?_; rintro e w' ⟨rfl, rfl⟩)
    | (go_at_call 35; refine Hi.out.mono ?_))
  rintro e w2 ⟨v2, rfl, hE2, hb2⟩
  have Hfin := Lib.hid (show InQ 10 w (.returned v2) w2 from ⟨v2, rfl, hE2, hb2⟩)
  clear hE2 hb2 Hi
  go_wp2
  go_ret
  exact Hfin.out
theorem Sync_nil (w : World) : Calls Tryz.prog 21 #[.pointer none] w (InQ 10 w) := by
  have hq := neq_held 84 (.int .i64 10)
  have Hi := Lib.hid (in_err ⟨#[112, 97, 103, 101, 115, 46, 83, 121, 110, 99]⟩ 10 (.iface 84 (.int .i64 10)) w (.inr ⟨by decide, [], rfl⟩))
  go_enter Tryz.func21, Tryz.ntmps21
  go_wp2_with (first
    | (go_at_call 49; refine (sound_nil _).mono ?_; rintro e w' ⟨rfl, rfl⟩)
    | (go_at_call 35; refine Hi.out.mono ?_))
  rintro e w2 ⟨v2, rfl, hE2, hb2⟩
  have Hfin := Lib.hid (show InQ 10 w (.returned v2) w2 from ⟨v2, rfl, hE2, hb2⟩)
  clear hE2 hb2 Hi
  go_wp2
  go_ret
  exact Hfin.out
set_option maxRecDepth 100000 in
/-- mount: what is refused. -/
theorem mount_bad (p : Value) (D : Nat) (hD : D ≤ 4096) (hs : Calls Tryz.prog 84 #[p] w fun e w' => e = .returned (.int .i64 D) ∧ w = w') (n : Int) (hbad : n < 96 ∨ 4096 < n ∨ (D : Int) < 3 + n) :
    Calls Tryz.prog 46 #[p, .int .i64 n] w fun e w' => e = .returned (.tuple #[.pointer none, .iface 84 (.int .i64 1)]) ∧ w = w' := by
  by_cases h1 : n < 96
  · clear hbad
    go_enter Tryz.func46, Tryz.ntmps46
    go_wp2
    refine bodyPost_ret (v := .tuple #[.pointer none, .iface 84 (.int .i64 1)]) (by simp [results, Tryz.results46, go_sem]) rfl ⟨rfl, rfl⟩
  by_cases h2 : 4096 < n
  · clear hbad
    go_enter Tryz.func46, Tryz.ntmps46
    go_wp2
    refine bodyPost_ret (v := .tuple #[.pointer none, .iface 84 (.int .i64 1)]) (by simp [results, Tryz.results46, go_sem]) rfl ⟨rfl, rfl⟩
  have h3 : (D : Int) < 2 + n + 1 := by omega
  clear hbad
  go_enter Tryz.func46, Tryz.ntmps46
  go_wp2_with (first | (go_at_call 84; refine hs.mono ?_; rintro e w' ⟨rfl, rfl⟩))
  refine bodyPost_ret (v := .tuple #[.pointer none, .iface 84 (.int .i64 1)]) (by simp [results, Tryz.results46, go_sem]) rfl ⟨rfl, rfl⟩
def NoBook (n : Int) (w : World) (e : Ending) (w' : World) : Prop := ∃ v, e = .returned (.tuple #[.pointer none, v]) ∧ ErrV w' n v ∧ Below w.heap.size w w'
theorem Mount_bad (p : Value) (D : Nat) (hD : D ≤ 4096) (hs : Calls Tryz.prog 84 #[p] w fun e w' => e = .returned (.int .i64 D) ∧ w = w') (n : Int) (hbad : n < 96 ∨ 4096 < n ∨ (D : Int) < 3 + n) :
    Calls Tryz.prog 17 #[p, .int .i64 n] w (NoBook 1 w) := by
  have Hm := Lib.hid (mount_bad p D hD hs n hbad)
  have hq := neq_held 84 (.int .i64 1)
  have Hi := Lib.hid (in_err ⟨#[112, 97, 103, 101, 115, 46, 77, 111, 117, 110, 116]⟩ 1 (.iface 84 (.int .i64 1)) w (.inr ⟨by decide, [], rfl⟩))
  clear hs hbad
  go_enter Tryz.func17, Tryz.ntmps17
  go_wp2_with (first
    | (go_at_call 46; refine Hm.out.mono ?_; rintro e w' ⟨rfl, rfl⟩)
    | (go_at_call 35; refine Hi.out.mono ?_))
  rintro e w2 ⟨v2, rfl, hE2, hb2⟩
  have Hfin := Lib.hid (show NoBook 1 w (.returned (.tuple #[.pointer none, v2])) w2 from ⟨v2, rfl, hE2, hb2⟩)
  clear hE2 hb2 Hi Hm
  go_wp2
  refine bodyPost_ret (v := .tuple #[.pointer none, v2]) (by simp [results, Tryz.results17, go_sem]) rfl ?_
  exact Hfin.out
/-- Mount, where all went well. -/
def MntP (b : Bk) (gd : Nat) (F : Nat → Prop) (w : World) (e : Ending) (w' : World) : Prop :=
  ∃ g Fd' gr bn bt, e = .returned (.tuple #[.pointer (some ⟨g, 0, none⟩), .nilIface]) ∧ BkIn b Fd' gd gr bn bt g w' ∧ Only F w w' ∧ (∀ k, BFoot Fd' gr bn bt g k → F k ∨ w.heap.size ≤ k)
theorem Mount_of {gd : Nat} {n : Int} {b0 : Bk} {F : Nat → Prop} (hm : Calls Tryz.prog 46 #[.pointer (some ⟨gd, 0, none⟩), .int .i64 n] w (MountP b0 gd F w)) (h0 : (bringOf b0).2 = 0) :
    Calls Tryz.prog 17 #[.pointer (some ⟨gd, 0, none⟩), .int .i64 n] w (MntP (bringOf b0).1 gd F w) := by
  have Hm := Lib.hid hm; have H0 := Lib.hid h0
  clear hm h0
  go_enter Tryz.func17, Tryz.ntmps17
  go_wp2_with (first
    | (go_at_call 46; refine Hm.out.mono ?_))
  rintro e w1 ⟨v, g, Fd', gr, bn, bt, rfl, hE, hB, ho, hf⟩
  rw [H0.out] at hE
  obtain rfl := ErrV.zero hE
  have Hfin := Lib.hid (show MntP (bringOf b0).1 gd F w (.returned (.tuple #[.pointer (some ⟨g, 0, none⟩), .nilIface])) w1 from ⟨g, Fd', gr, bn, bt, rfl, hB, ho, hf⟩)
  clear hE hB ho hf Hm
  go_wp2
  refine bodyPost_ret (v := .tuple #[.pointer (some ⟨g, 0, none⟩), .nilIface]) (by simp [results, Tryz.results17, go_sem]) rfl ?_
  exact Hfin.out
end
end Go.Proofs.YtjkkbceddbkejaaGreatDoor
