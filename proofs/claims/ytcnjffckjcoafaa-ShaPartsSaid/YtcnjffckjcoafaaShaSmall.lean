/-
  The small functions of package sha: digest, ending, New.
-/
import Derived.Test.YtcnjffckjcoafaaShaTurn
import Derived.Test.YtcnjffckjcoafaaShaRows
import Derived.Test.YtcnjffckjcoafaaShaStretch
import Derived.Deep.LoopGhost
namespace Go.Proofs.Ytcnjffckjcoafaa
open Go.RowKit Sh
attribute [local go_sem] Sh.shr24 Sh.shr16 Sh.shr8 Sh.low8 Sh.low8'

/-- The row of the digest behind k numbers. -/
def dRow (s : S8) (k : Nat) (j : Nat) : Value := if j < 4 * k then cu8 (at8 (digS s) j) else .int .u8 0
theorem digS_at (s : S8) (k : Nat) (hk : k < 8) : at8 (digS s) (4 * k) = (at32 s.list k >>> 24).toUInt8 ∧ at8 (digS s) (4 * k + 1) = (at32 s.list k >>> 16).toUInt8 ∧ at8 (digS s) (4 * k + 2) = (at32 s.list k >>> 8).toUInt8 ∧ at8 (digS s) (4 * k + 3) = (at32 s.list k).toUInt8 := by
  obtain rfl | rfl | rfl | rfl | rfl | rfl | rfl | rfl : k = 0 ∨ k = 1 ∨ k = 2 ∨ k = 3 ∨ k = 4 ∨ k = 5 ∨ k = 6 ∨ k = 7 := by omega
  all_goals exact ⟨rfl, rfl, rfl, rfl⟩

structure DgW (w : World) (s : S8) (k : Nat) (wr : World) : Prop where
  below : Below w.heap.size w wr
  res : ∃ c : Array Value, wr.heap[w.heap.size + 1]? = some (.cells c 24 (0, 0)) ∧ c.size = 32
  row : wr.rowIs (w.heap.size + 1 + 1) 24 32 (dRow s k)
theorem DgW.step {w wr : World} {s : S8} {k : Nat} (h : DgW w s k wr) (hk : k < 8) :
    DgW w s (k + 1) ((((wr.setCell ⟨w.heap.size + 1 + 1, 4 * k, none⟩ (.int .u8 (bz (at32 s.list k >>> 24).toUInt8))).setCell ⟨w.heap.size + 1 + 1, 4 * k + 1, none⟩ (.int .u8 (bz (at32 s.list k >>> 16).toUInt8))).setCell
      ⟨w.heap.size + 1 + 1, 4 * k + 2, none⟩ (.int .u8 (bz (at32 s.list k >>> 8).toUInt8))).setCell ⟨w.heap.size + 1 + 1, 4 * k + 3, none⟩ (.int .u8 (bz (at32 s.list k).toUInt8))) := by
  have hb : ∀ (wx : World), Below w.heap.size w wx → ∀ (i : Nat) (v : Value), Below w.heap.size w (wx.setCell ⟨w.heap.size + 1 + 1, i, none⟩ v) := fun wx h i v => h.setCell (by show w.heap.size ≤ w.heap.size + 1 + 1; omega) v
  obtain ⟨c, hc, hn⟩ := h.res
  have ho : ∀ (wx : World), wx.heap[w.heap.size + 1]? = some (.cells c 24 (0, 0)) → ∀ (i : Nat) (v : Value), (wx.setCell ⟨w.heap.size + 1 + 1, i, none⟩ v).heap[w.heap.size + 1]? = some (.cells c 24 (0, 0)) := fun wx h i v => by
    rw [heap_setCell_other _ _ _ _ (by show w.heap.size + 1 ≠ w.heap.size + 1 + 1; omega)]; exact h
  refine ⟨hb _ (hb _ (hb _ (hb _ h.below _ _) _ _) _ _) _ _, ⟨c, ho _ (ho _ (ho _ (ho _ hc _ _) _ _) _ _) _ _, hn⟩, ((((h.row.set _ _).set _ _).set _ _).set _ _).congr fun j hj => ?_⟩
  obtain ⟨d0, d1, d2, d3⟩ := digS_at s k hk
  unfold dRow
  by_cases e3 : j = 4 * k + 3
  · subst e3; rw [if_pos rfl, if_pos (by omega), d3]; rfl
  · rw [if_neg e3]
    by_cases e2 : j = 4 * k + 2
    · subst e2; rw [if_pos rfl, if_pos (by omega), d2]; rfl
    · rw [if_neg e2]
      by_cases e1 : j = 4 * k + 1
      · subst e1; rw [if_pos rfl, if_pos (by omega), d1]; rfl
      · rw [if_neg e1]
        by_cases e0 : j = 4 * k
        · subst e0; rw [if_pos rfl, if_pos (by omega), d0]; rfl
        · rw [if_neg e0]
          by_cases hlt : j < 4 * k
          · rw [if_pos hlt, if_pos (by omega)]
          · rw [if_neg hlt, if_neg (by omega)]
theorem list8_eq_range (l : List UInt8) (n : Nat) (h : l.length = n) : (List.range n).map (fun j => cu8 (at8 l j)) = l.map cu8 := by
  apply List.ext_getElem?
  intro i
  by_cases hi : i < n
  · simp [hi, at8, List.getD_eq_getElem?_getD, List.getElem?_eq_getElem (h ▸ hi)]
  · rw [List.getElem?_eq_none (by simp; omega), List.getElem?_eq_none (by simp; omega)]

set_option maxRecDepth 100000 in
set_option maxHeartbeats 1000000 in
theorem digest_any (s : S8) (sv : Array Value) (Hs : Hid (sv = s32 s)) (w : World) :
    Calls Try.prog 18 #[.agg sv] w (AggPost (fun r => r = ((digS s).map cu8).toArray) w) := by
  have Hm : Hid (sv.size = 8) := by rw [Hs.out]; exact (rfl : (s32 s).size = 8)
  go_enter Try.func18, Try.ntmps18
  go_wp2_with (refine wpList_load_row rfl 40 _ rfl w.heap.size rfl 40 sv (0, 0) _ ?h1 Try.underlying40 rfl ?h2 ?_)
  case h1 => rw [Below.heap_alloc _ _ _ (by simp; omega), Below.heap_alloc _ _ _ (by simp)]; exact heap_alloc_new _ _
  case h2 => rw [Hm.out]; kernel_rfl
  have hS : ∀ c1 c2 : Array Value, c1.size = 32 → c2 = (List.replicate 32 (Value.int .u8 0)).toArray → DgW w s 0 (((w.alloc (.cells sv 40)).alloc (.cells c1 24)).alloc (.cells c2 24)) := fun c1 c2 h1 h2 => by
    refine ⟨(((Below.refl _ _).alloc (Nat.le_refl _) _).alloc (by simp) _).alloc (by simp; omega) _, ⟨c1, ?_, h1⟩, ?_⟩
    · rw [Below.heap_alloc _ _ _ (by simp)]
      have := heap_alloc_new (w.alloc (.cells sv 40)) (.cells c1 24)
      simpa using this
    · have h3 : c2.size = 32 := by rw [h2, List.size_toArray, List.length_replicate]
      have := World.rowIs_alloc ((w.alloc (.cells sv 40)).alloc (.cells c1 24)) c2 24 (dRow s 0) (fun i hi => by
        subst h2
        rw [List.size_toArray, List.length_replicate] at hi
        rw [List.getElem?_toArray, List.getElem?_replicate, if_pos hi]; rfl)
      rw [h3] at this
      simpa using this
  have HS := Lib.hid hS; clear hS
  go_loopg [7] 8 (fun g i wr => ∃ k : Nat, k ≤ 8 ∧ g = 8 - k ∧ i = .int .i64 k ∧ DgW w s k wr)
  case atStart => exact ⟨0, by omega, rfl, rfl, HS.out _ _ (by kernel_rfl) (by kernel_rfl)⟩
  case round =>
    clear HS
    obtain ⟨k, hk, rfl, rfl, hS⟩ := hrel
    by_cases hlt : k < 8
    · have hlt' : (k : Int) < 8 := by omega
      have hix : ∀ w : World, (Instr.index 40 (.agg sv) (.int .i64 (k : Int))).run Try.prog w = .ok (.int .u32 (uz (at32 s.list k))) w :=
        run_index_row _ _ 8 Try.underlying40 Try.underlying39 (by kernel_rfl) sv k hlt _ (by
          rw [Hs.out]
          have hk' : k < s.list.length := hlt
          simp [s32, at32, List.getD_eq_getElem?_getD, List.getElem?_eq_getElem hk', cu32])
      have f0 := hS.row.frozen (4 * k)
      have f1 := hS.row.frozen (4 * k + 1)
      have f2 := hS.row.frozen (4 * k + 2)
      have f3 := hS.row.frozen (4 * k + 3)
      have c0 := hS.row.cell (i := 4 * k) (by omega)
      have c1 := hS.row.cell (i := 4 * k + 1) (by omega)
      have c2 := hS.row.cell (i := 4 * k + 2) (by omega)
      have c3 := hS.row.cell (i := 4 * k + 3) (by omega)
      go_wp2
      go_roundg (8 - (k + 1))
      case measure => omega
      case rel => exact ⟨k + 1, by omega, rfl, by go_num, hS.step hlt⟩
    · obtain rfl : k = 8 := by omega
      have HR := rowIs_eq (hS.row.congr (g := fun j => cu8 (at8 (digS s) j)) (fun j hj => by unfold dRow; rw [if_pos (by omega)]))
      rw [list8_eq_range (digS s) 32 rfl] at HR
      obtain ⟨c, hc, hn⟩ := hS.res
      have H1 := Lib.hid HR; clear HR
      have H2 := Lib.hid hc; clear hc
      have H3 := Lib.hid hn; clear hn
      have hb := hS.below
      clear hS hk hlt
      go_wp2_with (first | (refine wpList_load_row rfl 24 _ rfl (w.heap.size + 1 + 1) rfl 24 _ (0, 0) _ H1.out Try.underlying24 rfl (by kernel_rfl) ?_) | (refine wpList_store_row rfl 24 _ _ rfl (w.heap.size + 1) _ rfl rfl 24 c H2.out (by kernel_rfl) H3.out ?_ ?_))
      · exact all_oneCell_toArray (fun v hv => by obtain ⟨x, _, rfl⟩ := List.mem_map.1 hv; rfl)
      · refine bodyPost_ret (v := .agg ((digS s).map cu8).toArray) ?_ rfl ⟨_, rfl, rfl, below_setRow hb (by omega) _⟩
        exact results_cell_row (ty := 24) rfl _ _ (w.heap.size + 1) 24 _ (0, 0) _ rfl (setRow_heap _ _ _ _ _ _ H2.out) Try.underlying24 rfl (by kernel_rfl)
end Go.Proofs.Ytcnjffckjcoafaa
