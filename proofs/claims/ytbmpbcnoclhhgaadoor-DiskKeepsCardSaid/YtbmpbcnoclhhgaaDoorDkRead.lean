/-
  The program's disk: Read.
-/
import Derived.Test.YtbmpbcnoclhhgaaDoorDkNew
namespace Go.Proofs.YtbmpbcnoclhhgaaDoor
open Go.RowKit Sh Go.Extern.Stop Go.Stop Go.Extern

theorem splice_whole (cur p : List Value) (h : p.length = cur.length) : splice cur 0 p = p := by
  simp [splice, h]

/-- What the program's Read answers. -/
def readN (newest : List (List Value)) (off : Bool) (i : Int) : List Value × Int :=
  if reachN newest.length off i = 0 then (newest.getD i.toNat zeroPage, 0) else (zeroPage, reachN newest.length off i)
def PReadPost (p : List Value) (n : Int) (w : World) (e : Ending) (w' : World) : Prop := ∃ v, e = .returned (.tuple #[.agg p.toArray, v]) ∧ ErrV w' n v ∧ Below w.heap.size w w'

section
variable {g : Nat} {vf vn vp : Value} {firm newest what : List (List Value)} {ats : List Int} {fuel : Int} {off : Bool} {w : World}

set_option maxRecDepth 100000 in
set_option maxHeartbeats 4000000 in
theorem pread_any (h : DiskAt g vf vn vp firm newest ats what fuel off w) (hnl : newest.length = firm.length) (i : Int) :
    Calls Tryd.prog 17 #[.pointer (some ⟨g, 0, none⟩), .int .i64 i] w (PReadPost (readN newest off i).1 (readN newest off i).2 w) := by
  have hb1 := (Below.refl w.heap.size w).alloc (Nat.le_refl _) (.cells zeros64 42)
  have h1 := h.below hb1
  have hreach := reach_any h1 i
  rw [← hnl] at hreach
  by_cases h0 : reachN newest.length off i = 0
  · have hrs : readN newest off i = (newest.getD i.toNat zeroPage, 0) := by simp [readN, h0]
    obtain ⟨hi0, hi1⟩ : 0 ≤ i ∧ i < (newest.length : Int) := by
      unfold reachN at h0
      split at h0
      · simp at h0
      · split at h0
        · simp at h0
        · omega
    rw [h0, errVal_nil] at hreach
    obtain ⟨j, rfl⟩ : ∃ j : Nat, i = (j : Int) := ⟨i.toNat, by omega⟩
    have hjl : j < newest.length := by omega
    have hpg := List.getElem?_eq_getElem hjl
    obtain ⟨gn, cn, rfl, _, _⟩ := h1.rowN.form (by omega)
    have c1 : (w.alloc (.cells zeros64 42)).cell? ⟨g, 1, none⟩ = some (.slice (some ⟨gn, 0, none⟩) newest.length cn) := h1.cell 1
    have hrange := own_page h1.rowN h1.newOk j newest[j] hpg rfl
    have hPg := h1.newOk newest[j] (List.getElem_mem hjl)
    rw [Int.toNat_natCast, List.getD_eq_getElem?_getD, hpg, Option.getD_some] at hrs
    obtain ⟨F, hF⟩ : ∃ F, newest.length = F := ⟨_, rfl⟩
    rw [hF] at c1
    have hjF : (j : Int) < (F : Int) := by omega
    obtain ⟨pg, hpp⟩ : ∃ pg, newest[j] = pg := ⟨_, rfl⟩
    rw [hpp] at hrange hPg hrs
    have HR := Lib.hid hrs
    have hz1 := page_size hPg
    have hz2 := page_all hPg
    have hz3 : Hid (zeros64.size = pg.toArray.size) := by
      have : pg.toArray.size = 64 := by rw [List.size_toArray]; exact hPg.1
      rw [this]; exact (rfl : zeros64.size = 64)
    have hi64 : Hid ((Tryd.prog.info? 42).map (·.size) = some pg.length) := by rw [hPg.1]; exact info64
    have HRg := Lib.hid hrange
    clear hrs hpg h0 hpp hrange hi0 hi1
    go_enter Tryd.func17, Tryd.ntmps17
    go_wp2_with (first
      | (refine wpList_alloc_arr rfl 42 rfl _ alloc64 ?_)
      | (go_at_call 29; refine hreach.mono ?_; rintro e w' ⟨rfl, rfl⟩)
      | (refine wpList_load_mid rfl 42 _ rfl gn (j * 64) rfl pg _ HRg.out Tryd.underlying42 rfl hi64.out ?_)
      | (refine wpList_store_new rfl 42 _ _ rfl w.heap.size rfl pg.toArray rfl rfl 42 _ hz1.out hz3.out hz2.out ?_))
    refine bodyPost_ret (v := .tuple #[.agg pg.toArray, .nilIface]) ?_ rfl ⟨_, by rw [HR.out], by rw [HR.out]; exact ErrV.nil, (Below.refl _ _).alloc (Nat.le_refl _) _⟩
    exact results_cell_row_tmp (ty := 42) rfl _ _ w.heap.size 42 _ (0, 0) _ rfl (heap_alloc_new _ _) Tryd.underlying42 rfl hz1.out _ rfl
  · have hrs : readN newest off i = (zeroPage, reachN newest.length off i) := by simp [readN, h0]
    have HR := Lib.hid hrs
    generalize reachN newest.length off i = n at h0 hreach HR
    rw [errVal_held h0] at hreach
    have hq : ∀ W : World, (binOp .neq 26 (.iface 61 (.int .i64 n)) .nilIface).run Tryd.prog W = .ok (.bool true) W := fun W => run_neq_held_nil W 26 _ _ Tryd.methodsError
    obtain ⟨zv, Hz⟩ : ∃ zv : Array Value, Hid (zv = zeros64) := ⟨_, rfl⟩
    have hz1 : Hid ((Tryd.prog.info? 42).map (·.size) = some zv.size) := by rw [Hz.out]; exact page_size zeroPage_ok
    have hfit : Hid (0 + zv.size ≤ zeroPage.length) := by rw [Hz.out]; exact (Nat.le_of_eq (by unfold zeros64; simp) : 0 + zeros64.size ≤ zeroPage.length)
    have hall : Hid (∀ v ∈ zv.toList, v.oneCell' = true) := by rw [Hz.out]; exact zeroPage_ok.2
    have hcur : Hid (((w.alloc (.cells zeros64 42)).alloc (.cells #[.string ⟨#[100, 105, 115, 107, 46, 82, 101, 97, 100]⟩, .iface 61 (.int .i64 n)] 79)).heap[w.heap.size]? = some (.cells zeroPage.toArray 42 (0, 0))) :=
      (Below.heap_alloc _ _ _ (by simp)).trans (heap_alloc_new w _)
    go_enter Tryd.func17, Tryd.ntmps17
    go_wp2_with (first
      | (refine wpList_alloc_arr rfl 42 rfl _ alloc64 ?_)
      | (go_at_call 29; refine hreach.mono ?_; rintro e w' ⟨rfl, rfl⟩)
      | (refine wpList_build_to rfl 42 _ rfl zv (by rw [Hz.out]; kernel_rfl) ?_)
      | (go_at_call 23; refine (in_held _ _ _ _).mono ?_; rintro e w' ⟨rfl, rfl⟩)
      | (refine wpList_store_into rfl 42 _ _ rfl w.heap.size 0 zv rfl rfl zeroPage 42 hcur.out hz1.out hfit.out hall.out ?_; intro w5 Hs5 Hg5))
    have hs5 : w5.heap[w.heap.size]? = some (.cells zv 42 (0, 0)) := by
      have := Hs5.out
      rw [splice_whole _ _ (by rw [Hz.out]; unfold zeros64; simp)] at this
      simpa using this
    have hbk : w5.heap[w.heap.size + 1]? = some (.cells #[.string ⟨#[100, 105, 115, 107, 46, 82, 101, 97, 100]⟩, .iface 61 (.int .i64 n)] 79 (0, 0)) := by
      refine (Hg5.out.block (w.heap.size + 1) (by simp) (by simp)).trans ?_
      have := heap_alloc_new (w.alloc (.cells zeros64 42)) (.cells #[.string ⟨#[100, 105, 115, 107, 46, 82, 101, 97, 100]⟩, .iface 61 (.int .i64 n)] 79)
      simpa using this
    have hb5 : Below w.heap.size w w5 := ⟨Hg5.out.os, Hg5.out.tape, Hg5.out.output, Nat.le_trans (by simp; omega) Hg5.out.size, fun k hk => (Hg5.out.block k (by simp; omega) (by simp; omega)).trans ((Below.heap_alloc _ _ _ (by simp; omega)).trans (hb1.block k hk))⟩
    have hsz := Hg5.out.size
    simp only [World.size_alloc] at hsz
    refine bodyPost_ret (v := .tuple #[.agg zv, .iface 77 (.pointer (some ⟨w.heap.size + 1, 0, none⟩))]) ?_ rfl ⟨_, by rw [HR.out, Hz.out]; rfl, ?_, hb5⟩
    · exact results_cell_row_tmp (ty := 42) rfl _ _ w.heap.size 42 _ (0, 0) _ rfl hs5 Tryd.underlying42 rfl hz1.out _ rfl
    · rw [HR.out]
      refine .inr ⟨h0, [⟨#[100, 105, 115, 107, 46, 82, 101, 97, 100]⟩], w.heap.size + 1, _, rfl, by omega, ?_, ?_, rfl⟩
      · rw [cell_of_row w5 _ 0 _ _ _ hbk]; rfl
      · rw [cell_of_row w5 _ 1 _ _ _ hbk]; rfl

/-- Read of none. -/
theorem pread_nil (i : Int) (w : World) : Calls Tryd.prog 17 #[.pointer none, .int .i64 i] w (PReadPost zeroPage 10 w) := by
  have hoff := fun w => off_nil w
  have hreach : ∀ w, Calls Tryd.prog 29 #[.pointer none, .int .i64 i] w fun e w' => e = .returned (.iface 61 (.int .i64 10)) ∧ w' = w := fun w => by
    go_enter Tryd.func29, Tryd.ntmps29
    go_wp2_with (go_at_call 14; refine (hoff w).mono ?_; rintro e w' ⟨rfl, rfl⟩)
    go_ret
    exact ⟨rfl, rfl⟩
  have hb1 := (Below.refl w.heap.size w).alloc (Nat.le_refl _) (.cells zeros64 42)
  have hq : ∀ W : World, (binOp .neq 26 (.iface 61 (.int .i64 10)) .nilIface).run Tryd.prog W = .ok (.bool true) W := fun W => run_neq_held_nil W 26 _ _ Tryd.methodsError
  obtain ⟨zv, Hz⟩ : ∃ zv : Array Value, Hid (zv = zeros64) := ⟨_, rfl⟩
  have hz1 : Hid ((Tryd.prog.info? 42).map (·.size) = some zv.size) := by rw [Hz.out]; exact page_size zeroPage_ok
  have hfit : Hid (0 + zv.size ≤ zeroPage.length) := by rw [Hz.out]; exact (Nat.le_of_eq (by unfold zeros64; simp) : 0 + zeros64.size ≤ zeroPage.length)
  have hall : Hid (∀ v ∈ zv.toList, v.oneCell' = true) := by rw [Hz.out]; exact zeroPage_ok.2
  have hcur : Hid (((w.alloc (.cells zeros64 42)).alloc (.cells #[.string ⟨#[100, 105, 115, 107, 46, 82, 101, 97, 100]⟩, .iface 61 (.int .i64 10)] 79)).heap[w.heap.size]? = some (.cells zeroPage.toArray 42 (0, 0))) :=
    (Below.heap_alloc _ _ _ (by simp)).trans (heap_alloc_new w _)
  go_enter Tryd.func17, Tryd.ntmps17
  go_wp2_with (first
    | (refine wpList_alloc_arr rfl 42 rfl _ alloc64 ?_)
    | (go_at_call 29; refine (hreach _).mono ?_; rintro e w' ⟨rfl, rfl⟩)
    | (refine wpList_build_to rfl 42 _ rfl zv (by rw [Hz.out]; kernel_rfl) ?_)
    | (go_at_call 23; refine (in_held _ _ _ _).mono ?_; rintro e w' ⟨rfl, rfl⟩)
    | (refine wpList_store_into rfl 42 _ _ rfl w.heap.size 0 zv rfl rfl zeroPage 42 hcur.out hz1.out hfit.out hall.out ?_; intro w5 Hs5 Hg5))
  have hs5 : w5.heap[w.heap.size]? = some (.cells zv 42 (0, 0)) := by
    have := Hs5.out
    rw [splice_whole _ _ (by rw [Hz.out]; unfold zeros64; simp)] at this
    simpa using this
  have hbk : w5.heap[w.heap.size + 1]? = some (.cells #[.string ⟨#[100, 105, 115, 107, 46, 82, 101, 97, 100]⟩, .iface 61 (.int .i64 10)] 79 (0, 0)) := by
    refine (Hg5.out.block (w.heap.size + 1) (by simp) (by simp)).trans ?_
    have := heap_alloc_new (w.alloc (.cells zeros64 42)) (.cells #[.string ⟨#[100, 105, 115, 107, 46, 82, 101, 97, 100]⟩, .iface 61 (.int .i64 10)] 79)
    simpa using this
  have hb5 : Below w.heap.size w w5 := ⟨Hg5.out.os, Hg5.out.tape, Hg5.out.output, Nat.le_trans (by simp; omega) Hg5.out.size, fun k hk => (Hg5.out.block k (by simp; omega) (by simp; omega)).trans ((Below.heap_alloc _ _ _ (by simp; omega)).trans (hb1.block k hk))⟩
  have hsz := Hg5.out.size
  simp only [World.size_alloc] at hsz
  refine bodyPost_ret (v := .tuple #[.agg zv, .iface 77 (.pointer (some ⟨w.heap.size + 1, 0, none⟩))]) ?_ rfl ⟨_, by rw [Hz.out]; rfl, ?_, hb5⟩
  · exact results_cell_row_tmp (ty := 42) rfl _ _ w.heap.size 42 _ (0, 0) _ rfl hs5 Tryd.underlying42 rfl hz1.out _ rfl
  · refine .inr ⟨by decide, [⟨#[100, 105, 115, 107, 46, 82, 101, 97, 100]⟩], w.heap.size + 1, _, rfl, by omega, ?_, ?_, rfl⟩
    · rw [cell_of_row w5 _ 0 _ _ _ hbk]; rfl
    · rw [cell_of_row w5 _ 1 _ _ _ hbk]; rfl
end
end Go.Proofs.YtbmpbcnoclhhgaaDoor
