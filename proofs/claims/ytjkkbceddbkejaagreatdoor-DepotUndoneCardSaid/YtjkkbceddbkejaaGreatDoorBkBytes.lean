/-
  Package pages: put, get.
-/
import Derived.Test.YtjkkbceddbkejaaGreatDoorJPra
set_option linter.unusedSimpArgs false
set_option linter.unusedVariables false
namespace Go.Proofs.YtjkkbceddbkejaaGreatDoor
open Go.RowKit Sh
section
variable {w : World}
set_option maxRecDepth 100000 in
set_option maxHeartbeats 800000 in
/-- put. -/
theorem bput_any {g o n cap x : Nat} {cs : List Value} {t : TypeId} (hg : w.heap[g]? = some (.cells cs.toArray t (0, 0))) (hfit : o + n ≤ cs.length) (hn : n ≤ 8) :
    Calls Tryz.prog 130 #[.slice (some ⟨g, o, none⟩) n cap, .int .u64 x] w (PutPost g (splice cs o ((leN n x).map cu8)) t w) := by
  go_enter Tryz.func130, Tryz.ntmps130
  go_wp2
  go_loopg [7] n (fun gg i wr => ∃ k : Nat, k ≤ n ∧ gg = n - k ∧ i = .int .i64 k ∧ wr.heap[g]? = some (.cells (splice cs o ((leN k x).map cu8)).toArray t (0, 0)) ∧ w.grownBy wr (some g))
  case atStart => exact ⟨0, by omega, rfl, rfl, by rw [show (leN 0 x).map cu8 = [] from rfl, splice_nil _ _ (by omega)]; exact hg, grownBy_refl _ _⟩
  case round =>
    obtain ⟨k, hk, rfl, rfl, hR, hG⟩ := hrel
    by_cases hlt : k < n
    · have hlt' : (k : Int) < n := by omega
      have hlen : (splice cs o ((leN k x).map cu8)).length = cs.length := length_splice _ _ _ (by rw [List.length_map, leN_length]; omega)
      have hc : ∃ v, wr.cell? ⟨g, o + k, none⟩ = some v := by
        rw [cell_of_row wr g (o + k) _ _ _ hR]
        exact ⟨_, Array.getElem?_eq_getElem (by rw [List.size_toArray, hlen]; omega)⟩
      obtain ⟨cv, c0⟩ := hc
      have f0 := thawed_row hR (o + k)
      have n1 : (8 * (k : Int)).toNat = 8 * k := by omega
      have hv : IntKind.u8.wrap ((x : Int) / 2 ^ (8 * k)) = bz (UInt8.ofNat (x / 2 ^ (8 * k))) := byteN x (8 * k)
      have hst := setCell_row hR (o + k) (cu8 (UInt8.ofNat (x / 2 ^ (8 * k))))
      have hnx : (splice cs o ((leN k x).map cu8)).set (o + k) (cu8 (UInt8.ofNat (x / 2 ^ (8 * k)))) = splice cs o ((leN (k + 1) x).map cu8) := by
        rw [leN_succ, List.map_append]
        have := splice_snoc cs ((leN k x).map cu8) o (cu8 (UInt8.ofNat (x / 2 ^ (8 * k)))) (by rw [List.length_map, leN_length]; omega)
        rw [List.length_map, leN_length] at this
        exact this
      rw [hnx] at hst
      have hG' := grownBy_trans hG (grown_setCell wr ⟨g, o + k, none⟩ (cu8 (UInt8.ofNat (x / 2 ^ (8 * k)))))
      have Hst := Lib.hid hst; have HG := Lib.hid hG'
      clear hst hG' hnx hlen hR hG hg
      go_wp2
      go_roundg (n - (k + 1))
      case measure => omega
      case rel => exact ⟨k + 1, by omega, rfl, by go_num, Hst.out, HG.out⟩
    · obtain rfl : k = n := by omega
      have HR := Lib.hid hR; clear hR
      go_wp2
      first | go_end0 | refine bodyPost_ret (v := .tuple #[]) (results_none rfl _ _ _) rfl ?_
      exact ⟨rfl, HR.out, hG⟩
set_option maxRecDepth 100000 in
set_option maxHeartbeats 800000 in
/-- get. -/
theorem bget_any {bs : List UInt8} {n : Nat} (hl : bs.length = n) (hn : n ≤ 8) {g o cap : Nat} (hc : ∀ j, j < n → w.cell? ⟨g, o + j, none⟩ = some (.int .u8 (bz (at8 bs j)))) :
    Calls Tryz.prog 129 #[.slice (some ⟨g, o, none⟩) n cap] w fun e w' => e = .returned (.int .u64 (numFrom bs 0)) ∧ w = w' := by
  go_enter Tryz.func129, Tryz.ntmps129
  go_wp2
  go_loopg [3, 8] n (fun gg v i wx => ∃ k : Nat, k ≤ n ∧ gg = n - k ∧ v = .int .u64 (numFrom (bs.take k) 0) ∧ i = .int .i64 k ∧ wx = w)
  case atStart => exact ⟨0, by omega, rfl, rfl, rfl, rfl⟩
  case round =>
    obtain ⟨k, hk, rfl, rfl, rfl, rfl⟩ := hrel
    by_cases hlt : k < n
    · have hlt' : (k : Int) < n := by omega
      have c0 := hc k hlt
      have n1 : (8 * (k : Int)).toNat = 8 * k := by omega
      have hor := or_byte (bs := bs) (k := k) (by omega) (by omega)
      have Hor := Lib.hid hor; clear hor
      go_wp2
      go_roundg (n - (k + 1))
      case measure => omega
      case rel => exact ⟨k + 1, by omega, rfl, by rw [Hor.out], by go_num, rfl⟩
    · obtain rfl : k = n := by omega
      go_wp2
      go_ret
      exact ⟨by rw [List.take_of_length_le (by omega)]; rfl, rfl⟩

end
end Go.Proofs.YtjkkbceddbkejaaGreatDoor
