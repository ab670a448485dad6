/-
  What stands behind the bytes; a new hash: the walks of 'ending' and 'New'.
-/
import Derived.Test.YtcnjffckjcoafaaShaSmall
namespace Go.Proofs.Ytcnjffckjcoafaa
open Go.RowKit Sh
theorem Try.infoU8 : (Try.prog.info? 5).map (fun i => (i.zero, i.size, i.bytes)) = some (some (.int .u8 0), 1, 1) := by kernel_rfl

/-- A hash at the head of block g, to which m was written. -/
def HashAt (w : World) (g : Nat) (m : List UInt8) : Prop :=
  ∃ wt : List UInt8, wt.length = 64 ∧ wt.take (m.length % 64) = m.drop (64 * (m.length / 64)) ∧
    w.heap[g]? = some (.cells (hCells (stateOf m (m.length / 64)) wt m.length).toArray 44 (0, 0))
def NewPost (w : World) (e : Ending) (w' : World) : Prop :=
  ∃ g, e = .returned (.pointer (some ⟨g, 0, none⟩)) ∧ w.heap.size ≤ g ∧ HashAt w' g [] ∧ Below w.heap.size w w'

/-- The row of what stands behind, i bytes of the count told. -/
def eRow (n z i j : Nat) : Value := if j = 0 then cu8 128 else if z + 9 ≤ j + i then cu8 (UInt8.ofNat (n * 8 / 2 ^ (8 * (z + 8 - j)))) else cu8 0
theorem eRow_step (n z i j : Nat) (hi : i < 8) : (if j = z + 8 - i then cu8 (UInt8.ofNat (n * 8 / 2 ^ (8 * i))) else eRow n z i j) = eRow n z (i + 1) j := by
  unfold eRow
  by_cases e : j = z + 8 - i
  · subst e
    rw [if_pos rfl, if_neg (by omega), if_pos (by omega)]
    have : z + 8 - (z + 8 - i) = i := by omega
    rw [this]
  · rw [if_neg e]
    by_cases h0 : j = 0
    · rw [if_pos h0, if_pos h0]
    · rw [if_neg h0, if_neg h0]
      by_cases h1 : z + 9 ≤ j + i
      · rw [if_pos h1, if_pos (by omega)]
      · rw [if_neg h1, if_neg (by omega)]
theorem eRow_end (n j : Nat) (hj : j < pad0 n + 9) : eRow n (pad0 n) 8 j = cu8 (at8 (ending n) j) := by
  unfold eRow ending at8
  rw [List.getD_eq_getElem?_getD]
  cases j with
  | zero => rfl
  | succ j =>
    rw [if_neg (by omega), List.getElem?_cons_succ, List.getElem?_append, List.length_replicate]
    by_cases h : j < pad0 n
    · rw [if_neg (by omega), if_pos h, List.getElem?_replicate, if_pos h]; rfl
    · rw [if_pos (by omega), if_neg h]
      have h8 : j - pad0 n < 8 := by omega
      simp only [be8, List.getElem?_map, List.getElem?_range h8, Option.map_some, Option.getD_some]
      have : pad0 n + 8 - (j + 1) = 7 - (j - pad0 n) := by omega
      rw [this]
theorem byteN (m k : Nat) : IntKind.u8.wrap ((m : Int) / 2 ^ k) = bz (UInt8.ofNat (m / 2 ^ k)) := by
  have : ((m : Int) / 2 ^ k) = ((m / 2 ^ k : Nat) : Int) := by simp
  rw [this, IntKind.wrap_u8', bz_eq, UInt8.toNat_ofNat']; omega

/-- A call that hands back bytes in a new slice. -/
def BytesPost (l : List UInt8) (w : World) (e : Ending) (w' : World) : Prop :=
  ∃ g, e = .returned (.slice (some ⟨g, 0, none⟩) l.length l.length) ∧ w.heap.size ≤ g ∧ w'.rowIs g 5 l.length (fun j => cu8 (at8 l j)) ∧ Below w.heap.size w w'
theorem ending_length (n : Nat) : (ending n).length = pad0 n + 9 := by simp [ending, be8]

set_option maxRecDepth 100000 in
set_option maxHeartbeats 400000 in
theorem ending_any (n : Nat) (hn : n < 1152921504606846976) (w : World) :
    Calls Try.prog 17 #[.int .u64 n] w (BytesPost (ending n) w) := by
  obtain ⟨z, hz⟩ : ∃ z, z = pad0 n := ⟨_, rfl⟩
  have hz1 : z < 64 := by rw [hz]; unfold pad0; omega
  have e1 : (119 - (n : Int) % 64) % 64 = (z : Int) := by rw [hz]; unfold pad0; omega
  have Hz := Lib.hid hz; clear hz
  have hmk : ∀ w : World, (Instr.makeSlice 22 (.int .u64 (1 + (z : Int) + 8)) (.int .u64 (1 + (z : Int) + 8))).run Try.prog w = .ok (.slice (some ⟨w.heap.size, 0, none⟩) (z + 9) (z + 9)) (w.alloc (.cells (madeCells #[.int .u8 0] (z + 9)) 5)) := fun w => by
    have := run_make_row' (P := Try.prog) 22 5 (.int .u8 0) 1 Try.underlying22 Try.infoU8 rfl .u64 .u64 (z + 9) (by omega) (by omega) w
    have e : ((z + 9 : Nat) : Int) = 1 + (z : Int) + 8 := by omega
    rw [e] at this
    exact this
  have h0 : (madeCells #[Value.int .u8 0] (z + 9))[0]? = some (.int .u8 0) := by simp [madeCells]
  go_enter Try.func17, Try.ntmps17
  go_wp2
  clear h0 hmk e1
  have hS : (w.alloc (.cells ((madeCells #[Value.int .u8 0] (z + 9)).setIfInBounds 0 (Value.int .u8 128)) 5)).rowIs w.heap.size 5 (z + 9) (eRow n z 0) := by
    have := World.rowIs_alloc w ((madeCells #[Value.int .u8 0] (z + 9)).setIfInBounds 0 (Value.int .u8 128)) 5 (eRow n z 0) (fun i hi => by
      simp [madeCells] at hi
      rw [Array.getElem?_setIfInBounds]
      unfold eRow
      by_cases e : i = 0
      · subst e; simp [madeCells, cu8]; rfl
      · rw [if_neg (fun h => e h.symm), if_neg e, if_neg (by omega)]
        simp [madeCells, hi, Nat.mod_one, cu8]; rfl)
    simpa [madeCells] using this
  have hb : Below w.heap.size w (w.alloc (.cells ((madeCells #[Value.int .u8 0] (z + 9)).setIfInBounds 0 (Value.int .u8 128)) 5)) := (Below.refl _ _).alloc (Nat.le_refl _) _
  generalize w.alloc (.cells ((madeCells #[Value.int .u8 0] (z + 9)).setIfInBounds 0 (Value.int .u8 128)) 5) = w1 at hS hb ⊢
  go_loopg [19] 8 (fun g i wr => ∃ k : Nat, k ≤ 8 ∧ g = 8 - k ∧ i = .int .i64 k ∧ Below w.heap.size w wr ∧ wr.rowIs w.heap.size 5 (z + 9) (eRow n z k))
  case atStart => exact ⟨0, by omega, rfl, rfl, hb, hS⟩
  case round =>
    clear hb hS
    obtain ⟨k, hk, rfl, rfl, hb, hS⟩ := hrel
    by_cases hlt : k < 8
    · have hlt' : (k : Int) < 8 := by omega
      have c0 := hS.cell (i := z + 8 - k) (by omega)
      have f0 := hS.frozen (z + 8 - k)
      have n1 : (8 * (k : Int)).toNat = 8 * k := by omega
      have n0 : ((z : Int) + 9 - 1 - (k : Int)).toNat = z + 8 - k := by omega
      have hv : IntKind.u8.wrap ((n : Int) * 8 / 2 ^ (8 * k)) = bz (UInt8.ofNat (n * 8 / 2 ^ (8 * k))) := by
        have := byteN (n * 8) (8 * k); simpa using this
      go_wp2
      go_roundg (8 - (k + 1))
      case measure => omega
      case rel =>
        exact ⟨k + 1, by omega, rfl, by go_num, hb.setCell (p := ⟨w.heap.size, z + 8 - k, none⟩) (Nat.le_refl _) _, (hS.set _ _).congr fun j _ => eRow_step n z k j hlt⟩
    · obtain rfl : k = 8 := by omega
      go_wp2
      go_ret
      have hl : (ending n).length = z + 9 := by rw [ending_length, Hz.out]
      refine ⟨w.heap.size, by rw [hl]; rfl, Nat.le_refl _, ?_, hb⟩
      rw [hl]
      refine hS.congr fun j hj => ?_
      rw [Hz.out] at hj ⊢
      exact eRow_end n j hj
set_option maxRecDepth 100000 in
set_option maxHeartbeats 400000 in
theorem new_any (w : World) :
    Calls Try.prog 11 #[] w (NewPost w) := by
  obtain ⟨hv, Hv⟩ : ∃ hv : Array Value, Hid (hv = (hCells initS (List.replicate 64 0) 0).toArray) := ⟨_, rfl⟩
  go_enter Try.func11, Try.ntmps11
  go_wp2_with (first | (go_at_call 15; refine (beginning_any _).mono ?_; rintro e w1 ⟨rfl, hb1⟩) | (refine wpList_build_to rfl 44 _ rfl hv (by rw [Hv.out]; kernel_rfl) ?_))
  go_ret
  refine ⟨w1.heap.size, rfl, hb1.size, ?_, hb1.alloc hb1.size _⟩
  refine ⟨List.replicate 64 0, by simp, by simp, ?_⟩
  show _ = some (Obj.cells (hCells initS (List.replicate 64 0) 0).toArray 44 (0, 0))
  rw [← Hv.out]
  exact heap_alloc_new _ _
end Go.Proofs.Ytcnjffckjcoafaa
