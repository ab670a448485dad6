/-
  slices.Concat of two; closedIf; copied.
-/
import Derived.Test.YtakejggofghblaaPdCat
set_option linter.unusedSimpArgs false
set_option linter.unusedVariables false
namespace Go.Proofs.Ytakejggofghblaa
open Go.RowKit Sh Cr Pd

set_option maxRecDepth 100000 in
set_option maxHeartbeats 4000000 in
theorem concat_any (g N : Nat) (ap dp : Option Addr) (al ac dl dc : Nat) (A D : List UInt8) (w : World) (hc0 : w.cell? ⟨g, 0, none⟩ = some (.slice ap al ac)) (hc1 : w.cell? ⟨g, 1, none⟩ = some (.slice dp dl dc))
    (hg : g < w.heap.size) (hA : Bytes w.heap.size w ap al ac A) (hD : Bytes w.heap.size w dp dl dc D) (ha : al ≤ 2000) (hd : dl ≤ 2000) :
    Calls Try.prog 22 #[.slice (some ⟨g, 0, none⟩) 2 2] w (OwnP w (A ++ D)) := by
  have HA := Lib.hid hA; have HD := Lib.hid hD; clear hA hD
  go_enter Try.func22, Try.ntmps22
  go_wp2
  go_loopg [3, 11] 2 (fun q s i wr => ∃ k z : Nat, k ≤ 2 ∧ q = 2 - k ∧ i = .int .i64 k ∧ s = .int .i64 z ∧ Hid (z = if k = 0 then 0 else if k = 1 then al else al + dl) ∧ w = wr)
  case atStart => exact ⟨0, 0, by omega, rfl, rfl, rfl, Lib.hid rfl, rfl⟩
  case round =>
    obtain ⟨k, z, hk, rfl, rfl, rfl, HZ, rfl⟩ := hrel
    rcases (by omega : k = 0 ∨ k = 1 ∨ k = 2) with rfl | rfl | rfl
    · obtain rfl : z = 0 := HZ.out
      go_wp2
      go_roundg 1
      case measure => omega
      case rel => exact ⟨1, al, by omega, rfl, rfl, by simp, Lib.hid rfl, rfl⟩
    · obtain rfl : z = al := HZ.out
      go_wp2
      go_roundg 0
      case measure => omega
      case rel => exact ⟨2, z + dl, by omega, rfl, rfl, by simp, Lib.hid rfl, rfl⟩
    · obtain rfl : z = al + dl := HZ.out
      clear HZ
      go_wp2_with (go_at_call 35; refine (growNil_any (al + dl) (by omega) w).mono ?_; rintro e w1 ⟨v, rfl, hO⟩)
      go_loopg [6, 27] 2 (fun q v i wr => ∃ (k : Nat) (l : List UInt8), k ≤ 2 ∧ q = 2 - k ∧ i = .int .i64 k ∧ Hid (l = if k = 0 then [] else if k = 1 then A else A ++ D) ∧ Hid (Own w v l.length l wr))
      case atStart => exact ⟨0, [], by omega, rfl, rfl, Lib.hid rfl, Lib.hid hO⟩
      case round =>
        clear hO
        obtain ⟨k, l, hk, rfl, rfl, HL, HO⟩ := hrel
        obtain ⟨bp, cap, rfl, hbs⟩ := HO.out.bytes
        have d0 : wr.cell? ⟨g, 0, none⟩ = some (.slice ap al ac) := (HO.out.below.cell (p := ⟨g, 0, none⟩) hg).trans hc0
        have d1 : wr.cell? ⟨g, 1, none⟩ = some (.slice dp dl dc) := (HO.out.below.cell (p := ⟨g, 1, none⟩) hg).trans hc1
        clear hbs
        rcases (by omega : k = 0 ∨ k = 1 ∨ k = 2) with rfl | rfl | rfl
        · obtain rfl : l = [] := HL.out
          go_wp2_with (refine wpList_join w wr rfl _ _ rfl _ _ _ rfl HO.out _ ap al ac A rfl (HA.out.below HO.out.below) al (by simp) (by omega) ?_; intro v' w' hO' _)
          have HO' := Lib.hid hO'; clear hO'
          go_roundg 1
          case measure => omega
          case rel => exact ⟨1, A, by omega, rfl, rfl, Lib.hid rfl, Lib.hid (by rw [HA.out.hlen]; exact HO'.out)⟩
        · obtain rfl : l = A := HL.out
          go_wp2_with (refine wpList_join w wr rfl _ _ rfl _ _ _ rfl HO.out _ dp dl dc D rfl (HD.out.below HO.out.below) (l.length + dl) rfl (by rw [HA.out.hlen]; omega) ?_; intro v' w' hO' _)
          have HO' := Lib.hid hO'; clear hO'
          go_roundg 0
          case measure => omega
          case rel => exact ⟨2, l ++ D, by omega, rfl, rfl, Lib.hid rfl, Lib.hid (by rw [List.length_append, HD.out.hlen]; exact HO'.out)⟩
        · obtain rfl : l = A ++ D := HL.out
          go_wp2
          go_ret
          exact ⟨_, rfl, HO.out⟩

/-- Four bytes in a block of the call's own. -/
theorem a4_bytes {w : World} {g : Nat} {rv : Array Value} {s : UInt32} {t : TypeId} (h : w.heap[g]? = some (.cells rv t (0, 0))) (hr : Hid (rv = a4 s)) : Bytes w.heap.size w (some ⟨g, 0, none⟩) 4 4 (le4 s) :=
  ⟨rfl, Nat.le_refl _, by unfold maxLen; omega, .inr ⟨g, 0, rfl, (Array.getElem?_eq_some_iff.1 h).1, fun j hj => by
    rw [cell_of_row w g _ _ _ _ h, hr.out]
    obtain rfl | rfl | rfl | rfl : j = 0 ∨ j = 1 ∨ j = 2 ∨ j = 3 := by omega
    all_goals rfl⟩⟩
theorem a4_size {rv : Array Value} {s : UInt32} (hr : Hid (rv = a4 s)) : Hid (rv.size = 4) := by rw [hr.out]; rfl
theorem a4_one {rv : Array Value} {s : UInt32} (hr : Hid (rv = a4 s)) : Hid (rv.all (·.oneCell') = true) := by
  have : (a4 s).all (·.oneCell') = true := all_oneCell_toArray (fun v hv => by obtain ⟨x, _, rfl⟩ := List.mem_map.1 hv; rfl)
  rw [hr.out]; exact this
def closedL (d : Bool) (b : List UInt8) : List UInt8 := closed d b
set_option maxRecDepth 100000 in
set_option maxHeartbeats 4000000 in
theorem closedIf_any (d : Bool) (p : Option Addr) (w0 w : World) (v : Value) (l : List UInt8) (hO : Own w0 v l.length l w) (hp : TabOk w.heap.size w p) (hl : l.length ≤ 5000) :
    Calls Try.prog 21 #[.bool d, .pointer p, v] w (OwnP w0 (closed d l)) := by
  obtain ⟨bp, cap, rfl, hb⟩ := hO.bytes
  have HO := Lib.hid hO; have HB := Lib.hid hb; clear hO hb
  cases d
  · go_enter Try.func21, Try.ntmps21
    go_wp2
    go_ret
    exact ⟨_, rfl, HO.out⟩
  · have E := Lib.hid (show closed true l = l ++ le4 (Cr.sum l) from rfl)
    go_enter Try.func21, Try.ntmps21
    go_wp2_with (first
      | (go_at_call 34; refine (sum_any p bp l.length cap l w hp HB.out).mono ?_; rintro e w2 ⟨rfl, hb2⟩)
      | (go_at_call 33; refine (bytes_any _ w2).mono ?_; rintro e w3 ⟨rv, Hrv, rfl, hb3⟩; have HO3 : Hid (Own w0 (.slice bp l.length cap) l.length l w3) := Lib.hid ((HO.out.keep hb2).keep hb3); clear hb2 hb3)
      | (refine wpList_alloc_arr rfl 66 rfl _ alloc4 ?_)
      | (refine wpList_store_new rfl 66 _ _ rfl w3.heap.size rfl rv rfl rfl 66 _ (by rw [(a4_size Hrv).out]; kernel_rfl) (by rw [(a4_size Hrv).out]; kernel_rfl) (a4_one Hrv).out ?_
         have hr4 : (w3.alloc (.cells rv 66)).heap[w3.heap.size]? = some (.cells rv 66 (0, 0)) := heap_alloc_new w3 _
         have HO4 : Hid (Own w0 (.slice bp l.length cap) l.length l (w3.alloc (.cells rv 66))) := Lib.hid (HO3.out.keep ((Below.refl _ _).alloc (Nat.le_refl _) _))
         generalize w3.alloc (.cells rv 66) = w4 at hr4 HO4 ⊢
         generalize w3.heap.size = g4 at hr4 ⊢
         have hT4 := Lib.hid (a4_bytes hr4 Hrv))
      | (refine wpList_join w0 w4 rfl _ _ rfl _ _ _ rfl HO4.out _ (some ⟨g4, 0, none⟩) 4 4 (le4 (Cr.sum l)) rfl hT4.out (l.length + 4) rfl (by omega) ?_; intro v' w' hO' _; have HO' := Lib.hid hO'; clear hO'))
    go_ret
    exact ⟨_, rfl, by rw [E.out, List.length_append]; exact HO'.out⟩
/-- Bytes copied: a row of the call's own, or none. -/
theorem copied_any (N : Nat) (bp : Option Addr) (len cap : Nat) (bs : List UInt8) (w : World) (hB : Bytes N w bp len cap bs) (hl : len ≤ 5000) :
    Calls Try.prog 43 #[.slice bp len cap] w (OwnP w bs) := by
  go_enter Try.func43, Try.ntmps43
  go_wp2_with (refine wpList_join w w rfl _ _ rfl _ 0 [] rfl (Own.start (Below.refl _ _)) _ bp len cap bs rfl hB len (by simp) (by omega) ?_; intro v' w' hO' _)
  go_ret
  exact ⟨_, rfl, by rw [hB.hlen]; exact hO'⟩
end Go.Proofs.Ytakejggofghblaa
