/-
  The digest of all that was written: the walks of the two functions 'Sum', and of a nil hash.
-/
import Derived.Test.YtcnjffckjcoafaaShaWrite
namespace Go.Proofs.Ytcnjffckjcoafaa
open Go.RowKit Sh

theorem grownBy_of_below {a b : World} {r : Option Nat} (h : Below a.heap.size a b) : a.grownBy b r := ⟨h.os, h.tape, h.output, h.size, fun j hj _ => h.block j hj⟩
theorem HashAt.of_block {w w' : World} {g g' : Nat} {m : List UInt8} (h : HashAt w g m) (e : w'.heap[g']? = w.heap[g]?) : HashAt w' g' m := by
  obtain ⟨wt, h1, h2, h3⟩ := h
  exact ⟨wt, h1, h2, e.trans h3⟩

/-- Below B, but for writes to one block from B on. -/
theorem below_of_grown {B g : Nat} {w a b : World} (h : Below B w a) (hg : a.grownBy b (some g)) (hB : B ≤ a.heap.size) (hBg : B ≤ g) : Below B w b :=
  h.trans ⟨hg.os, hg.tape, hg.output, hg.size, fun k hk => hg.block k (by omega) (by simp; omega)⟩

theorem pad_full (n : Nat) : (n + (pad0 n + 9)) % 64 = 0 := by unfold pad0; omega

set_option maxRecDepth 100000 in
set_option maxHeartbeats 400000 in
theorem write_nil (bp : Option Addr) (len cap : Nat) (w : World) :
    Calls Try.prog 12 #[.pointer none, .slice bp len cap] w fun e w' => e = .returned (.tuple #[]) ∧ w = w' := by
  go_enter Try.func12, Try.ntmps12
  go_wp2
  first | go_end0 | refine bodyPost_ret (results_none rfl _ _ _) rfl ?_
  exact ⟨rfl, rfl⟩

set_option maxRecDepth 100000 in
set_option maxHeartbeats 400000 in
theorem sum_nil (w : World) :
    Calls Try.prog 13 #[.pointer none] w (AggPost (fun r => r = ((List.replicate 32 (0 : UInt8)).map cu8).toArray) w) := by
  obtain ⟨zv, Hz⟩ : ∃ zv : Array Value, Hid (zv = ((List.replicate 32 (0 : UInt8)).map cu8).toArray) := ⟨_, rfl⟩
  go_enter Try.func13, Try.ntmps13
  go_wp2_with (first | (refine wpList_build_to rfl 24 _ rfl zv (by rw [Hz.out]; kernel_rfl) ?_) | (refine wpList_store_new rfl 24 _ _ rfl w.heap.size rfl zv rfl rfl 24 _ (by rw [Hz.out]; kernel_rfl) (by rw [Hz.out]; kernel_rfl) (by rw [Hz.out]; kernel_rfl) ?_))
  refine bodyPost_ret (v := .agg zv) ?_ rfl ⟨zv, Hz.out, rfl, (Below.refl _ _).alloc (Nat.le_refl _) _⟩
  exact results_cell_row (ty := 24) rfl _ _ w.heap.size 24 _ (0, 0) _ rfl (heap_alloc_new _ _) Try.underlying24 rfl (by rw [Hz.out]; kernel_rfl)

set_option maxRecDepth 100000 in
set_option maxHeartbeats 800000 in
theorem sum_any (g : Nat) (m : List UInt8) (w : World) (hH : HashAt w g m) (hlen : m.length < 576460752303423488) :
    Calls Try.prog 13 #[.pointer (some ⟨g, 0, none⟩)] w (AggPost (fun r => r = ((dig m).map cu8).toArray) w) := by
  obtain ⟨wt, hwt, hwt2, hg⟩ := hH
  obtain ⟨hv, hhv⟩ : ∃ hv : Array Value, hv = (hCells (stateOf m (m.length / 64)) wt m.length).toArray := ⟨_, rfl⟩
  have hn : hv.size = 73 := by rw [hhv, List.size_toArray, hCells_length _ _ _ hwt]
  have h1 : hv.all (·.oneCell') = true := by
    rw [hhv]
    refine all_oneCell_toArray (fun v hv => ?_)
    simp only [hCells, List.mem_append, List.mem_map, List.mem_singleton] at hv
    rcases hv with ⟨x, _, rfl⟩ | ⟨x, _, rfl⟩ | rfl <;> rfl
  rw [← hhv] at hg
  have c72 : w.cell? ⟨g, 72, none⟩ = some (.int .u64 (m.length : Int)) := by
    rw [cell_of_row w g 72 _ _ _ hg, hhv]
    simp [hCells, S8.list, hwt]
  have hgl : g < w.heap.size := (Array.getElem?_eq_some_iff.1 hg).1
  have Hg := Lib.hid hg; clear hg
  have Hv := Lib.hid hhv; clear hhv
  have Hn := Lib.hid hn; clear hn
  have H1 := Lib.hid h1; clear h1
  have Hw := Lib.hid hwt; clear hwt
  have Hw2 := Lib.hid hwt2; clear hwt2
  obtain ⟨zv, Hzv⟩ : ∃ zv : Array Value, Hid (zv = (hCells ⟨0, 0, 0, 0, 0, 0, 0, 0⟩ (List.replicate 64 0) 0).toArray) := ⟨_, rfl⟩
  have hz : ∀ w : World, (zeroValue 44).run Try.prog w = .ok (.agg zv) w := (zero_of_info (n := 73) (by rw [Hzv.out]; kernel_rfl)).1
  go_enter Try.func13, Try.ntmps13
  go_wp2_with (first
    | (refine wpList_load_row rfl 44 _ rfl g rfl 44 hv (0, 0) _ ?h1 Try.underlying44 rfl ?h2 ?_)
    | (refine wpList_store_new rfl 44 _ _ rfl (w.heap.size + 1) (World.size_alloc _ _) hv rfl rfl 44 _ ?h3 ?h4 ?h5 ?_)
    | (go_at_call 17; refine (ending_any m.length (by omega) _).mono ?_; rintro e w1 ⟨ge, rfl, hge, hre, hb1⟩))
  case h1 => rw [Below.heap_alloc _ _ _ hgl]; exact Hg.out
  case h2 => rw [Hn.out]; kernel_rfl
  case h3 => rw [Hn.out]; kernel_rfl
  case h4 => rw [Hn.out, Hzv.out]; kernel_rfl
  case h5 => exact H1.out
  have hW : ∀ c : Array Value, c.size = 32 → HashAt ((w.alloc (.cells c 24)).alloc (.cells hv 44)) (w.heap.size + 1) m ∧ ((w.alloc (.cells c 24)).alloc (.cells hv 44)).heap[w.heap.size]? = some (.cells c 24 (0, 0)) ∧ Below w.heap.size w ((w.alloc (.cells c 24)).alloc (.cells hv 44)) := fun c _ => by
    refine ⟨⟨wt, Hw.out, Hw2.out, ?_⟩, ?_, ((Below.refl _ _).alloc (Nat.le_refl _) _).alloc (by simp) _⟩
    · rw [← Hv.out]
      have := heap_alloc_new (w.alloc (.cells c 24)) (.cells hv 44)
      simpa using this
    · rw [Below.heap_alloc _ _ _ (by simp)]; exact heap_alloc_new _ _
  obtain ⟨c, hc, hH1, hr1, hB1, hs1⟩ : ∃ c : Array Value, c.size = 32 ∧ HashAt w1 (w.heap.size + 1) m ∧ w1.heap[w.heap.size]? = some (.cells c 24 (0, 0)) ∧ Below w.heap.size w w1 ∧ w.heap.size + 2 ≤ ge := by
    refine ⟨_, ?_, (hW _ ?_).1.of_block (hb1.block _ (by simp)), (hb1.block _ (by simp; omega)).trans (hW _ ?_).2.1, (hW _ ?_).2.2.trans (hb1.mono (by simp; omega)), by simpa using hge⟩
    all_goals rfl
  have hgt : ge < w1.heap.size := hre.lt
  clear hW hb1 c72 hz
  have hcells : ∀ j, j < (ending m.length).length → w1.cell? ⟨ge, 0 + j, none⟩ = some (cu8 (at8 (ending m.length) j)) := fun j hj => by rw [Nat.zero_add]; exact hre.cell hj
  have hpl : (ending m.length).length ≤ 72 := by rw [ending_length]; unfold pad0; omega
  refine (write_any (w.heap.size + 1) m (ending m.length) _ ge 0 _ w1 hH1 (by omega) (Nat.le_refl _) (by unfold maxLen; omega) (fun _ => rfl) hcells (by omega)).mono ?_
  rintro e w2 ⟨rfl, hH2, hgr2⟩
  obtain ⟨wt2, hw2a, _, hw2b⟩ := hH2
  have hlen2 : (m ++ ending m.length).length = m.length + (ending m.length).length := List.length_append
  have hrow := hash_head hw2b
  have Hrow := Lib.hid hrow; clear hrow
  have hr2 : w2.heap[w.heap.size]? = some (.cells c 24 (0, 0)) := (hgr2.block _ (by have := hB1.size; omega) (by simp)).trans hr1
  have Hr2 := Lib.hid hr2; clear hr2
  have Hc := Lib.hid hc; clear hc
  have hB2 : Below w.heap.size w w2 := below_of_grown hB1 hgr2 hB1.size (by omega)
  have hl2 : w.heap.size < w2.heap.size := by have := hB1.size; have := hgr2.size; omega
  clear hw2b hgr2 hr1 hH1 hre hcells
  have hdig : digS (stateOf (m ++ ending m.length) ((m ++ ending m.length).length / 64)) = dig m := by rw [hlen2]; rfl
  clear hlen2
  generalize stateOf (m ++ ending m.length) ((m ++ ending m.length).length / 64) = T at Hrow hdig
  have Hd := Lib.hid hdig; clear hdig
  obtain ⟨tv, Htv⟩ : ∃ tv : List Value, Hid (tv = T.list.map cu32) := ⟨_, rfl⟩
  rw [← Htv.out] at Hrow
  have Hta : Hid (tv.toArray = s32 T) := by rw [Htv.out]; exact (rfl : (T.list.map cu32).toArray = s32 T)
  have Htl : Hid (tv.length = 8) := by rw [Htv.out]; exact (rfl : (T.list.map cu32).length = 8)
  go_wp2_with (first
    | (go_at_call 18; refine (digest_any T _ Hta _).mono ?_; rintro e w3 ⟨rv, Hrv, rfl, hb3⟩)
    | (refine wpList_load_mid rfl 40 _ rfl (w.heap.size + 1) 0 rfl tv _ Hrow.out Try.underlying40 rfl (by rw [Htl.out]; kernel_rfl) ?_)
    | (refine wpList_store_row rfl 24 _ _ rfl w.heap.size rv rfl rfl 24 c ((hb3.block _ hl2).trans Hr2.out) (by rw [Hrv.out]; kernel_rfl) (by rw [Hrv.out, Hc.out]; rfl) (by rw [Hrv.out]; exact all_oneCell_toArray (fun v hv => by obtain ⟨x, _, rfl⟩ := List.mem_map.1 hv; rfl)) ?_))
  refine bodyPost_ret (v := .agg rv) ?_ rfl ⟨rv, Lib.hid (by show rv = _; rw [Hrv.out, Hd.out]), rfl, below_setRow (hB2.trans (hb3.mono (by have := hB1.size; omega))) (Nat.le_refl _) _⟩
  exact results_cell_row (ty := 24) rfl _ _ w.heap.size 24 _ (0, 0) _ rfl (setRow_heap _ _ _ _ _ _ ((hb3.block _ hl2).trans Hr2.out)) Try.underlying24 rfl (by rw [Hrv.out]; kernel_rfl)
end Go.Proofs.Ytcnjffckjcoafaa
