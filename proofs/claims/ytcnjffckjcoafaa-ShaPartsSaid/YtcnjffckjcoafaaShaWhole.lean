/-
  The digest of bytes at once: the walk of the function 'Sum' of package sha.
-/
import Derived.Test.YtcnjffckjcoafaaShaSum
import Derived.Test.YtcnjffckjcoafaaShaBytes
namespace Go.Proofs.Ytcnjffckjcoafaa
open Go.RowKit Sh

theorem HashAt.lt {w : World} {g : Nat} {m : List UInt8} (h : HashAt w g m) : g < w.heap.size := by
  obtain ⟨wt, _, _, h3⟩ := h
  exact (Array.getElem?_eq_some_iff.1 h3).1

theorem dig_length (m : List UInt8) : (dig m).length = 32 := rfl
theorem dig_size {rv : Array Value} {m : List UInt8} (h : Hid (rv = ((dig m).map cu8).toArray)) : Hid (rv.size = 32) := by
  rw [h.out, List.size_toArray, List.length_map, dig_length]; exact (rfl : 32 = 32)
theorem dig_one {rv : Array Value} {m : List UInt8} (h : Hid (rv = ((dig m).map cu8).toArray)) : Hid (rv.all (·.oneCell') = true) := by
  have : ((dig m).map cu8).toArray.all (·.oneCell') = true := all_oneCell_toArray (fun v hv => by obtain ⟨x, _, rfl⟩ := List.mem_map.1 hv; rfl)
  rw [h.out]; exact this

/-- 'Write' of whatever bytes lie below the hash. -/
theorem write_bytes (g : Nat) (m bs : List UInt8) (bp : Option Addr) (len cap N : Nat) (w : World) (hH : HashAt w g m) (hB : Bytes N w bp len cap bs) (hN : N ≤ g) (hlen : m.length + len < 1152921504606846976) :
    Calls Try.prog 12 #[.pointer (some ⟨g, 0, none⟩), .slice bp len cap] w (WritePost g (m ++ bs) w) := by
  obtain ⟨hl, hr, hm, h⟩ := hB
  subst hl
  rcases h with h0 | ⟨b, o, rfl, hb, hc⟩
  · exact write_any g m bs bp (g + 1) 0 cap w hH (by omega) hr hm (fun h => by omega) (fun j hj => by omega) hlen
  · exact write_any g m bs _ b o cap w hH (by omega) hr hm (fun _ => rfl) hc hlen

set_option maxRecDepth 100000 in
set_option maxHeartbeats 400000 in
theorem whole_any (bp : Option Addr) (len cap : Nat) (bs : List UInt8) (w : World) (hB : Bytes w.heap.size w bp len cap bs) (hlen : len < 576460752303423488) :
    Calls Try.prog 9 #[.slice bp len cap] w (AggPost (fun r => r = ((dig bs).map cu8).toArray) w) := by
  go_enter Try.func9, Try.ntmps9
  go_wp2_with (go_at_call 11; refine (new_any _).mono ?_; rintro e w1 ⟨g, rfl, hg, hH, hb1⟩)
  have hB1 : Below w.heap.size w w1 := ((Below.refl _ _).alloc (Nat.le_refl _) _).trans (hb1.mono (by simp))
  obtain ⟨c, hc, hr1⟩ : ∃ c : Array Value, c.size = 32 ∧ w1.heap[w.heap.size]? = some (.cells c 24 (0, 0)) := ⟨_, rfl, (hb1.block _ (by simp)).trans (heap_alloc_new _ _)⟩
  have hgt : w.heap.size < g := by have : w.heap.size + 1 ≤ g := by simpa using hg
                                   omega
  clear hb1 hg
  go_wp2_with (go_at_call 12; refine (write_bytes g [] bs bp len cap w.heap.size _ hH (hB.below hB1) (by omega) (by simp; omega)).mono ?_; rintro e w2 ⟨rfl, hH2, hgr⟩)
  rw [List.nil_append] at hH2
  have hB2 : Below w.heap.size w w2 := below_of_grown hB1 hgr hB1.size (by omega)
  have hr2 : w2.heap[w.heap.size]? = some (.cells c 24 (0, 0)) := (hgr.block _ (by have := hH.lt; omega) (by simp; omega)).trans hr1
  have hl2 : w.heap.size < w2.heap.size := by have := hgr.size; have := hH.lt; omega
  have Hc := Lib.hid hc; clear hc
  have Hr2 := Lib.hid hr2; clear hr2
  clear hr1 hgr hH hB1
  go_wp2_with (first
    | (go_at_call 13; refine (sum_any g bs w2 hH2 (by rw [hB.hlen]; omega)).mono ?_; rintro e w3 ⟨rv, Hrv, rfl, hb3⟩)
    | (refine wpList_store_row rfl 24 _ _ rfl w.heap.size rv rfl rfl 24 c ((hb3.block _ hl2).trans Hr2.out) (by rw [(dig_size Hrv).out]; kernel_rfl) (by rw [(dig_size Hrv).out, Hc.out]) (dig_one Hrv).out ?_))
  refine bodyPost_ret (v := .agg rv) ?_ rfl ⟨rv, Hrv, rfl, below_setRow (hB2.trans (hb3.mono (by omega))) (Nat.le_refl _) _⟩
  exact results_cell_row (ty := 24) rfl _ _ w.heap.size 24 _ (0, 0) _ rfl (setRow_heap _ _ _ _ _ _ ((hb3.block _ hl2).trans Hr2.out)) Try.underlying24 rfl (by rw [(dig_size Hrv).out]; kernel_rfl)
end Go.Proofs.Ytcnjffckjcoafaa
