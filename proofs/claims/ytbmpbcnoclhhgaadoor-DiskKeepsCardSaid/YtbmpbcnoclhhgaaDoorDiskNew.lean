/-
  The reference's disk: New.
-/
import Derived.Test.YtbmpbcnoclhhgaaDoorDiskRead
import Derived.Deep.OwnRows
namespace Go.Proofs.YtbmpbcnoclhhgaaDoor
open Go.RowKit Sh

theorem infoPage : (Tryd.prog.info? 42).map (fun i => (i.zero, i.size, i.bytes)) = some (some (.agg zeros64), 64, 64) := by kernel_rfl

theorem made_zeros (m : Nat) : madeCells zeros64 m = (List.replicate m (Value.int .u8 0)).toArray := by
  apply Array.ext
  · simp [madeCells]
  · intro i h1 h2
    have hz : zeros64.size = 64 := by unfold zeros64 zeroPage; rw [List.size_toArray, List.length_replicate]
    have hlt : i % zeros64.size < zeros64.size := by rw [hz]; exact Nat.mod_lt _ (by omega)
    simp only [madeCells, Array.getElem_map, Array.getElem_range, List.getElem_toArray, List.getElem_replicate]
    rw [getElem!_pos zeros64 (i % zeros64.size) hlt]
    simp only [zeros64, zeroPage, List.getElem_toArray, List.getElem_replicate]
theorem zero_flat (n : Nat) : (List.replicate n zeroPage).flatten = List.replicate (n * 64) (Value.int .u8 0) := by
  unfold zeroPage
  rw [List.flatten_replicate_replicate]
theorem zero_pages (n : Nat) : Pages (List.replicate n zeroPage) := fun p hp => by rw [(List.mem_replicate.1 hp).2]; exact zeroPage_ok

theorem make_pages (n : Nat) (hn : n ≤ 4096) (w : World) :
    (Instr.makeSlice 38 (.int .i64 (n : Int)) (.int .i64 (n : Int))).run Tryd.prog w = .ok (.slice (some ⟨w.heap.size, 0, none⟩) n n) (w.alloc (.cells (List.replicate n zeroPage).flatten.toArray 42)) := by
  obtain ⟨i, hi, hzz⟩ := Option.map_eq_some_iff.1 infoPage
  simp only [Prod.mk.injEq] at hzz
  obtain ⟨hz, hs, hb⟩ := hzz
  have h := run_make (P := Tryd.prog) w 38 42 i (.agg zeros64) Tryd.underlying38 hi hz .i64 .i64 n n (by omega) (Int.le_refl _) (by rw [hb]; omega) (by omega)
  rw [hs] at h
  rw [h, zero_flat, ← made_zeros]
  rfl

/-- The blocks that are the disk's. -/
def Foot (g : Nat) (vf va vw : Value) (k : Nat) : Prop := k = g ∨ vf.ownBlock = some k ∨ va.ownBlock = some k ∨ vw.ownBlock = some k

/-- Nothing but blocks of F has turned, of what was there. -/
structure Only (F : Nat → Prop) (w w' : World) : Prop where
  os : w'.os = w.os
  tape : w'.tape = w.tape
  output : w'.output = w.output
  size : w.heap.size ≤ w'.heap.size
  block : ∀ k, k < w.heap.size → ¬ F k → w'.heap[k]? = w.heap[k]?
theorem Only.refl (F : Nat → Prop) (w : World) : Only F w w := ⟨rfl, rfl, rfl, Nat.le_refl _, fun _ _ _ => rfl⟩
theorem Only.of_below {F : Nat → Prop} {w w' : World} (h : Below w.heap.size w w') : Only F w w' := ⟨h.os, h.tape, h.output, h.size, fun k hk _ => h.block k hk⟩
/-- What was new behind the first step may turn in the second. -/
theorem Only.trans {F G : Nat → Prop} {w w1 w2 : World} (h : Only F w w1) (k : Only G w1 w2) (hG : ∀ j, G j → F j ∨ w.heap.size ≤ j) : Only F w w2 :=
  ⟨k.os.trans h.os, k.tape.trans h.tape, k.output.trans h.output, Nat.le_trans h.size k.size, fun j hj hn =>
    (k.block j (Nat.lt_of_lt_of_le hj h.size) (fun hg => (hG j hg).elim hn (fun hf => by omega))).trans (h.block j hj hn)⟩
theorem Only.of_grown {F : Nat → Prop} {w w' : World} {row : Option Nat} (h : w.grownBy w' row) (hr : ∀ k, row = some k → F k) : Only F w w' :=
  ⟨h.os, h.tape, h.output, h.size, fun k hk hn => h.block k hk (fun e => hn (hr k e.symm))⟩

/-- A new disk. -/
def NewPost (n : Nat) (w : World) (e : Ending) (w' : World) : Prop := ∃ g vf, e = .returned (.tuple #[.pointer (some ⟨g, 0, none⟩), .int .i64 0]) ∧
  RefAt g vf (.slice none 0 0) (.slice none 0 0) (List.replicate n zeroPage) [] [] (-1) false w' ∧ Below w.heap.size w w' ∧ ∀ k, Foot g vf (.slice none 0 0) (.slice none 0 0) k → w.heap.size ≤ k

theorem rnew_bad (i : Int) (h : i < 1 ∨ 4096 < i) (w : World) : Calls Tryd.prog 11 #[.int .i64 i] w fun e w' => e = .returned (.tuple #[.pointer none, .int .i64 1]) ∧ w' = w := by
  rcases h with h | h
  · go_enter Tryd.func11, Tryd.ntmps11
    go_wp2
    go_ret2
    exact ⟨rfl, rfl⟩
  · have h2 : ¬ i < 1 := by omega
    go_enter Tryd.func11, Tryd.ntmps11
    go_wp2
    go_ret2
    exact ⟨rfl, rfl⟩

set_option maxRecDepth 100000 in
theorem rnew_any (n : Nat) (h1 : 1 ≤ n) (h2 : n ≤ 4096) (w : World) : Calls Tryd.prog 11 #[.int .i64 n] w (NewPost n w) := by
  have hm := make_pages n h2 w
  have e1 : ¬ ((n : Int) < 1) := by omega
  have e2 : ¬ (4096 < (n : Int)) := by omega
  obtain ⟨cs, Hcs⟩ : ∃ cs : Array Value, Hid (cs = (List.replicate n zeroPage).flatten.toArray) := ⟨_, rfl⟩
  rw [← Hcs.out] at hm
  go_enter Tryd.func11, Tryd.ntmps11
  go_wp2
  go_ret2
  have hb1 := (Below.refl w.heap.size w).alloc (Nat.le_refl _) (.cells cs 42)
  have hb2 := hb1.alloc (by simp) (.cells #[.slice (some ⟨w.heap.size, 0, none⟩) n n, .slice none 0 0, .slice none 0 0, .int .i64 (-1), .bool false] 40)
  refine ⟨w.heap.size + 1, .slice (some ⟨w.heap.size, 0, none⟩) n n, rfl, ⟨?_, ?_, World.ownsRow_nil _ _ _ _, World.ownsRow_nil _ _ _ _, zero_pages n, fun p hp => by simp at hp, ?_⟩, hb2, ?_⟩
  · have := heap_alloc_new (w.alloc (.cells cs 42)) (.cells #[.slice (some ⟨w.heap.size, 0, none⟩) n n, .slice none 0 0, .slice none 0 0, .int .i64 (-1), .bool false] 40)
    simpa using this
  · have hfl : (List.replicate n zeroPage).flatten.length = n * 64 := by rw [zero_flat, List.length_replicate]
    rw [List.length_replicate]
    refine ⟨hfl, .inr ⟨w.heap.size, n, cs, rfl, by omega, (Below.heap_alloc _ _ _ (by simp)).trans (heap_alloc_new w _), Nat.le_refl _, by unfold maxLen; omega, by rw [Hcs.out, List.size_toArray, hfl], ?_⟩⟩
    rw [Hcs.out, List.toList_toArray, ← hfl, List.take_length]
  · simp [Value.ownBlock]
  · intro k hk
    rcases hk with rfl | hk | hk | hk
    · omega
    · simp [Value.ownBlock] at hk; omega
    · simp [Value.ownBlock] at hk
    · simp [Value.ownBlock] at hk
end Go.Proofs.YtbmpbcnoclhhgaaDoor
