/-
  'DiskNone': its walk.
-/
import Derived.Test.YtbmpbcnoclhhgaaDoorDkStands
namespace Go.Proofs.YtbmpbcnoclhhgaaDoor
open Go.RowKit Sh Go.Extern.Stop Go.Stop Go.Extern

theorem wpList_build0 {ops : Array Oper} {Q : Exit → Act → World → Prop} {a : Act} {w : World} {o : Oper} {rest : List Oper} (ho : o.op = .build 42 #[]) (p : Array Value)
    (hb : Tryd.prog.built 42 [] = some p) (hw : Region.wanted o (yielded ops a.tmps) = true) (h : wpList Tryd.prog ops Q rest (a.put o.dst (.agg p)) w) : wpList Tryd.prog ops Q (o :: rest) a w := by
  refine wpList_val hw (exec_build w ho ?_) h
  have e : ((#[] : Array (Nat × Operand)).map fun (i, x) => (i, a.eval x)).toList = [] := by simp
  rw [e]; exact hb

set_option maxRecDepth 100000 in
set_option maxHeartbeats 4000000 in
theorem diskNone_any (i : Int) (v : Value) (w : World) (hL : Laid w) : Calls Tryd.prog 7 #[.int .i64 i, v] w fun e w' => e = .returned (.bool true) ∧ Below w.heap.size w w' := by
  have hpos := hL.pos
  obtain ⟨zv, Hz⟩ : ∃ zv : Array Value, Hid (zv = zeroPage.toArray) := ⟨_, rfl⟩
  have hz1 : Hid ((Tryd.prog.info? 42).map (·.size) = some zv.size) := by rw [Hz.out]; exact page_size zeroPage_ok
  have hz2 : Hid (zv.all (·.oneCell') = true) := by rw [Hz.out]; exact page_all zeroPage_ok
  have hz3 : Hid (zeros64.size = zv.size) := by rw [Hz.out]; exact (rfl : zeros64.size = zeros64.size)
  have hb0 : Hid (Tryd.prog.built 42 [] = some zv) := by rw [Hz.out]; exact built64
  have hrd : ∀ w, Calls Tryd.prog 17 #[.pointer none, .int .i64 i] w fun e w' => ∃ v, e = .returned (.tuple #[.agg zv, v]) ∧ ErrV w' 10 v ∧ Below w.heap.size w w' := fun w => by rw [Hz.out]; exact pread_nil i w
  have hwr : ∀ w, Calls Tryd.prog 19 #[.pointer none, .int .i64 i, .agg zv] w fun e w' => ∃ v, e = .returned v ∧ ErrV w' 10 v ∧ Below w.heap.size w w' := fun w => by rw [Hz.out]; exact pwrite_nil i zeroPage w
  go_enter Tryd.func7, Tryd.ntmps7
  go_wp2_with (first
    | (go_at_call 9; refine (stands_any _).mono ?_; rintro e w1 ⟨rfl, hb1⟩)
    | (go_at_call 22; refine (fuel_nil _ _).mono ?_; rintro e w' ⟨rfl, rfl⟩)
    | (go_at_call 17; refine (hrd _).mono ?_))
  rintro e w2 ⟨v2, rfl, hE2, hb2⟩
  have hb02 := hb1.trans (hb2.mono hb1.size)
  have h3 := hb02.alloc hb02.size (.cells zv 42)
  have hE3 := hE2.below (w' := w2.alloc (.cells zv 42)) ((Below.refl _ _).alloc (Nat.le_refl _) _)
  go_wp2_with (first
    | (refine wpList_alloc_arr rfl 42 rfl _ alloc64 ?_)
    | (refine wpList_store_new rfl 42 _ _ rfl w2.heap.size rfl zv rfl rfl 42 _ hz1.out hz3.out hz2.out ?_)
    | (go_at_call 14; refine (off_nil _).mono ?_; rintro e w' ⟨rfl, rfl⟩)
    | (go_at_call 16; refine (size_nil _).mono ?_; rintro e w' ⟨rfl, rfl⟩)
    | (go_at_call 15; refine (pending_nil _).mono ?_; rintro e w' ⟨rfl, rfl⟩)
    | (go_at_call 12; refine (num_any 10 v2 _ (hL.below hpos h3) hE3).mono ?_))
  rintro e w4 ⟨rfl, hb4⟩
  have h4 := h3.trans (hb4.mono h3.size)
  clear h3 hE3 hE2 hrd hb02 hb1 hb2 hb4
  go_wp2_with (first
    | (refine wpList_build0 rfl _ hb0.out (by rfl) ?_)
    | (go_at_call 19; refine (hwr _).mono ?_))
  rintro e w5 ⟨v5, rfl, hE5, hb5⟩
  have h5 := h4.trans (hb5.mono h4.size)
  clear h4 hb5 hwr
  go_wp2_with (first
    | (go_at_call 12; refine (num_any 10 v5 _ (hL.below hpos h5) hE5).mono ?_))
  rintro e w6 ⟨rfl, hb6⟩
  have h6 := h5.trans (hb6.mono h5.size)
  clear h5 hb6 hE5
  go_wp2_with (first
    | (go_at_call 20; refine (pflush_nil _).mono ?_))
  rintro e w7 ⟨v7, rfl, hE7, hb7⟩
  have h7 := h6.trans (hb7.mono h6.size)
  clear h6 hb7
  go_wp2_with (first
    | (go_at_call 12; refine (num_any 10 v7 _ (hL.below hpos h7) hE7).mono ?_))
  rintro e w8 ⟨rfl, hb8⟩
  have h8 := h7.trans (hb8.mono h7.size)
  clear h7 hb8 hE7
  have h9 := h8.alloc h8.size (.cells #[.int .i64 i] 3)
  go_wp2_with (first
    | (go_at_call 21; refine (pcrash_nil _ _).mono ?_; rintro e w' ⟨rfl, rfl⟩))
  go_ret
  exact ⟨rfl, h9⟩
end Go.Proofs.YtbmpbcnoclhhgaaDoor
