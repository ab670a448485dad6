/-
  Package radix: free (slices.Contains of the roots).
-/
import Derived.Test.YtfagnbjjffjcbaaGreatDoorRxSmall
set_option linter.unusedSimpArgs false
set_option linter.unusedVariables false
namespace Go.Proofs.YtfagnbjjffjcbaaGreatDoor
open Go.RowKit Sh Go.Maps Go.Extern.Stop Go.Stop Go.Extern

theorem mem_at8 {R : List UInt8} {c : UInt8} (h : c ∈ R) : ∃ k, k < R.length ∧ at8 R k = c := by
  obtain ⟨k, hk, he⟩ := List.getElem_of_mem h
  exact ⟨k, hk, by rw [at8, List.getD_eq_getElem?_getD, List.getElem?_eq_getElem hk, he]; rfl⟩
theorem at8_mem {R : List UInt8} {k : Nat} (h : k < R.length) : at8 R k ∈ R := by
  rw [at8, List.getD_eq_getElem?_getD, List.getElem?_eq_getElem h]; exact List.getElem_mem h
def IdxP (R : List UInt8) (c : UInt8) (w : World) (e : Ending) (w' : World) : Prop := ∃ r : Int, e = .returned (.int .i64 r) ∧ w = w' ∧ (0 ≤ r ↔ c ∈ R)
section
variable {w : World}
set_option maxRecDepth 100000 in
set_option maxHeartbeats 4000000 in
theorem rindex_any (R : List UInt8) (hl : R.length = 64) (y : Nat) {t : TypeId} (hy : w.heap[y]? = some (.cells (R.map cu8).toArray t (0, 0))) (c : UInt8) :
    Calls Tryz.prog 113 #[.slice (some ⟨y, 0, none⟩) 64 64, .int .u8 (c.toNat : Int)] w (IdxP R c w) := by
  obtain ⟨C, hC⟩ : ∃ C : Nat, c.toNat = C := ⟨_, rfl⟩
  have HC := Lib.hid hC
  have Hcell : Hid (∀ k, k < 64 → w.cell? ⟨y, k, none⟩ = some (.int .u8 ((at8 R k).toNat : Int))) := by
    have : ∀ k, k < 64 → w.cell? ⟨y, k, none⟩ = some (.int .u8 ((at8 R k).toNat : Int)) := fun k hk => by
      rw [cell_of_row w y k _ _ _ hy, List.getElem?_toArray, List.getElem?_map, at8_take_list (by omega), ← cu8N]; rfl
    exact this
  rw [hC]
  clear hy hC
  go_enter Tryz.func113, Tryz.ntmps113
  go_wp2
  go_loopg [8] 64 (fun m v wr => ∃ k : Nat, m = 64 - k ∧ k ≤ 64 ∧ v = .int .i64 k ∧ wr = w ∧ ∀ j, j < k → at8 R j ≠ c)
  case atStart => exact ⟨0, rfl, by omega, rfl, rfl, fun j hj => by omega⟩
  case round =>
    obtain ⟨k, rfl, hk, rfl, rfl, hno⟩ := hrel
    have Hno := Lib.hid hno
    clear hno
    by_cases hlt : k < 64
    · have hlt' : (k : Int) < 64 := by omega
      have ck := Hcell.out k hlt
      obtain ⟨K, hK⟩ : ∃ K : Nat, (at8 R k).toNat = K := ⟨_, rfl⟩
      have HK := Lib.hid hK
      rw [hK] at ck
      clear hK
      by_cases e : C = K
      · have Hfin := Lib.hid (show IdxP R c wr (.returned (.int .i64 (k : Int))) wr from ⟨_, rfl, rfl, ⟨fun _ => by
          have : at8 R k = c := UInt8.toNat_inj.1 (by rw [HK.out, ← e, HC.out])
          rw [← this]; exact at8_mem (by omega), fun _ => by omega⟩⟩)
        subst e
        go_wp2
        go_ret
        exact Hfin.out
      · have e2 : ¬ ((C : Int) = (K : Int)) := by omega
        go_wp2
        go_roundg (64 - (k + 1))
        case measure => omega
        case rel => exact ⟨k + 1, rfl, by omega, by go_num, rfl, fun j hj he => by
          by_cases ej : j = k
          · subst ej
            have := HK.out; rw [he, HC.out] at this; exact e this
          · exact Hno.out j (by omega) he⟩
    · obtain rfl : k = 64 := by omega
      have Hfin := Lib.hid (show IdxP R c wr (.returned (.int .i64 (-1))) wr from ⟨_, rfl, rfl, ⟨fun h => by omega, fun h => by
        obtain ⟨j, hj, he⟩ := mem_at8 h
        exact absurd he (Hno.out j (by omega))⟩⟩)
      go_wp2
      go_ret
      exact Hfin.out
theorem rcontains_any (R : List UInt8) (hl : R.length = 64) (y : Nat) {t : TypeId} (hy : w.heap[y]? = some (.cells (R.map cu8).toArray t (0, 0))) (c : UInt8) :
    Calls Tryz.prog 92 #[.slice (some ⟨y, 0, none⟩) 64 64, .int .u8 (c.toNat : Int)] w (SameQ (.bool (decide (c ∈ R))) w) := by
  have Hi := Lib.hid (rindex_any R hl y hy c)
  clear hy
  go_enter Tryz.func92, Tryz.ntmps92
  go_wp2_with (first | (go_at_call 113; refine Hi.out.mono ?_))
  rintro e w' ⟨r, rfl, rfl, hr⟩
  have hd : decide (0 ≤ r) = decide (c ∈ R) := by simp [hr]
  have Hfin := Lib.hid (show SameQ (.bool (decide (c ∈ R))) w (.returned (.bool (decide (0 ≤ r)))) w from ⟨by rw [hd], rfl⟩)
  clear hr Hi hd
  go_wp2
  go_ret
  exact Hfin.out
def FreeQ (R : List UInt8) (w : World) (e : Ending) (w' : World) : Prop := ∃ f : Nat, e = .returned (.int .u8 (f : Int)) ∧ FreeP R f ∧ Below w.heap.size w w'
theorem ofNat_byte {f : Nat} (h : f < 256) : ((UInt8.ofNat f).toNat : Int) = (f : Int) := by rw [UInt8.toNat_ofNat']; omega
set_option maxRecDepth 100000 in
set_option maxHeartbeats 4000000 in
theorem rfree_any (R : List UInt8) (hl : R.length = 64) : Calls Tryz.prog 69 #[pageV R] w (FreeQ R w) := by
  obtain ⟨rv, Hrv⟩ : ∃ rv : List Value, Hid (rv = R.map cu8) := ⟨_, rfl⟩
  have hV : pageV R = .agg rv.toArray := by rw [Hrv.out]; rfl
  have hb1 : Below w.heap.size w (w.alloc (.cells rv.toArray 86)) := (Below.refl _ _).alloc (Nat.le_refl _) _
  have hx1 : (w.alloc (.cells rv.toArray 86)).heap[w.heap.size]? = some (.cells rv.toArray 86 (0, 0)) := heap_alloc_new w _
  rw [hV]
  clear hV
  go_enter Tryz.func69, Tryz.ntmps69
  go_wp2
  generalize w.alloc (.cells rv.toArray 86) = w1 at hb1 hx1 ⊢
  obtain ⟨y, hy⟩ : ∃ y, w.heap.size = y := ⟨_, rfl⟩
  rw [hy] at hx1 ⊢
  have Hy := Lib.hid hy
  rw [Hrv.out] at hx1
  have Hx := Lib.hid hx1; have Hb := Lib.hid hb1
  clear hy hx1 hb1
  go_loopg [3] 256 (fun m v wr => ∃ i : Nat, m = 257 - i ∧ 1 ≤ i ∧ i < 256 ∧ v = .int .u8 i ∧ wr = w1 ∧ ∀ j, 1 ≤ j → j < i → UInt8.ofNat j ∈ R)
  case atStart => exact ⟨1, rfl, by omega, by omega, rfl, rfl, fun j h1 h2 => by omega⟩
  case round =>
    obtain ⟨i, rfl, h1, h2, rfl, rfl, hin⟩ := hrel
    have hct := rcontains_any R hl y Hx.out (UInt8.ofNat i)
    rw [ofNat_byte h2] at hct
    have Hct := Lib.hid hct
    clear hct
    by_cases hm : UInt8.ofNat i ∈ R
    · rw [decide_eq_true hm] at Hct
      have Hin := Lib.hid (show ∀ j, 1 ≤ j → j < i + 1 → UInt8.ofNat j ∈ R from fun j h3 h4 => by
        by_cases e : j = i
        · rw [e]; exact hm
        · exact hin j h3 (by omega))
      have h64 := (pigeon64 hl h2 (fun j h3 h4 => Hin.out j h3 (by omega))).1
      have wi : IntKind.u8.wrap ((i : Int) + 1) = ((i + 1 : Nat) : Int) := by rw [IntKind.wrap_u8]; omega
      have wi2 : ((i : Int) + 1) % 256 = ((i + 1 : Nat) : Int) := by omega
      clear hin hm
      go_wp2_with (first | (go_at_call 92; refine Hct.out.mono ?_; rintro e w' ⟨rfl, rfl⟩))
      go_roundg (257 - (i + 1))
      case measure => omega
      case rel => exact ⟨i + 1, rfl, by omega, by omega, by go_num, rfl, Hin.out⟩
    · rw [decide_eq_false hm] at Hct
      have Hfin := Lib.hid (show FreeQ R w (.returned (.int .u8 (i : Int))) wr from ⟨i, rfl, ⟨h1, h2, hm, hin⟩, by have := Hb.out; rw [Hy.out] at this ⊢; exact this⟩)
      clear hin hm
      go_wp2_with (first | (go_at_call 92; refine Hct.out.mono ?_; rintro e w' ⟨rfl, rfl⟩))
      go_ret
      exact Hfin.out
end
end Go.Proofs.YtfagnbjjffjcbaaGreatDoor
