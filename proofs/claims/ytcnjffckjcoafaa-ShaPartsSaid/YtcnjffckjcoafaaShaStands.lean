/-
  A known digest, and that of nothing: the walk of 'stands'.
-/
import Derived.Test.YtcnjffckjcoafaaShaRefSum
import Derived.DeepKeys
import Derived.Laws.StructEq
import Derived.Lib.SlBytesConst
namespace Go.Proofs.Ytcnjffckjcoafaa
open Go.RowKit Sh

theorem dig_abc : at8 (dig [97, 98, 99]) 0 = 186 ∧ at8 (dig [97, 98, 99]) 1 = 120 ∧ at8 (dig [97, 98, 99]) 31 = 173 := by decide +kernel

/-- The row of a digest. -/
theorem dig_row {w : World} {g : Nat} {rv : Array Value} {m : List UInt8} {t : TypeId} (h : w.heap[g]? = some (.cells rv t (0, 0))) (hr : Hid (rv = ((dig m).map cu8).toArray)) (i : Nat) (hi : i < 32) : w.cell? ⟨g, i, none⟩ = some (.int .u8 (bz (at8 (dig m) i))) := by
  rw [cell_of_row w g i _ _ _ h, hr.out, List.getElem?_toArray, List.getElem?_map]
  have hi' : i < (dig m).length := by rw [dig_length]; exact hi
  simp [at8, List.getD_eq_getElem?_getD, List.getElem?_eq_getElem hi', cu8]

/-- Two arrays of the same bytes are equal. -/
theorem run_eql_same {P : Program} (T E : TypeId) (n : Nat) (hT : P.underlying T = some (.array n E)) (hE : P.underlying E = some (.int .u8)) (hs : (P.info? E).map (·.size) = some 1)
    (xs ys : Array Value) (l : List UInt8) (hl : l.length = n) (hx : xs = (l.map cu8).toArray) (hy : ys = (l.map cu8).toArray) (w : World) :
    (binOp .eql T (.agg xs) (.agg ys)).run P w = .ok (.bool true) w := by
  have hxy : ys = xs := hy.trans hx.symm
  subst hxy
  have hagg : (isAgg E).run P w = .ok false w := by
    unfold isAgg
    rw [Sem.run_bind, run_underlying hE w]
    rfl
  obtain ⟨i0, hi, hi1⟩ : ∃ i, P.info? E = some i ∧ i.size = 1 := by
    cases hq : P.info? E with
    | none => simp [hq] at hs
    | some i => exact ⟨i, rfl, by simpa [hq] using hs⟩
  have hp : ∀ k, k < n → ∃ b : UInt8, (part E ys k).run P w = .ok (.int .u8 (bz b)) w := fun k hk => by
    have hk' : k < l.length := by omega
    refine ⟨l[k], ?_⟩
    have hv : ys[k]? = some (.int .u8 (bz l[k])) := by rw [hx, List.getElem?_toArray, List.getElem?_map, List.getElem?_eq_getElem hk']; rfl
    unfold part
    rw [Sem.run_bind, hagg]
    simp [Result.andThen, hv]
  have hitems : ∀ (d : Nat) (is : List Nat), (∀ k ∈ is, k < n) → (Op.eqItems (d + 1) E 1 ys ys is).run P w = .ok true w := fun d is => by
    induction is with
    | nil => intro _; simp [Op.eqItems]
    | cons k is ih =>
      intro h
      obtain ⟨b, hb⟩ := hp k (h k (by simp))
      simp only [Op.eqItems, Nat.mul_one, Sem.run_bind, hb, Result.andThen_ok, run_equalIn_int w d E .u8 .u8 (bz b) (bz b) hE, beq_self_eq_true]
      simpa using ih (fun j hj => h j (by simp [hj]))
  have hc : P.cellsOf E = 1 := by simp [Program.cellsOf, hi, hi1]
  rw [run_eql_struct, run_equalIn_array w 9999 ys ys hT hi, hc, hitems 9998 _ (fun k hk => by simpa using hk)]
  rfl

set_option maxRecDepth 100000 in
set_option maxHeartbeats 800000 in
theorem stands_any (w : World) : Calls Try.prog 8 #[] w fun e w' => e = .returned (.bool true) ∧ Below w.heap.size w w' := by
  have habc : ∀ (w : World), Bytes (w.heap.size + 1) (w.alloc (.cells #[.int .u8 97, .int .u8 98, .int .u8 99] 5 (3, 4))) (some ⟨w.heap.size, 0, none⟩) 3 3 [97, 98, 99] := fun w =>
    ⟨rfl, Nat.le_refl _, by unfold maxLen; omega, .inr ⟨w.heap.size, 0, rfl, Nat.lt_succ_self _, fun j hj => by
      rw [cell_of_row _ w.heap.size _ _ _ _ (heap_alloc_new w _)]
      obtain rfl | rfl | rfl : j = 0 ∨ j = 1 ∨ j = 2 := by omega
      all_goals rfl⟩⟩
  have kc := fun (w : World) (C : Array Value) (n c : Nat) => Lib.run_convert_bytes_const (P := Try.prog) w 22 5 C n c Try.underlying22 Try.underlying5
  go_enter Try.func8, Try.ntmps8
  have hB0 : Below w.heap.size w (w.alloc (.cells #[.int .u8 97, .int .u8 98, .int .u8 99] 5 (3, 4))) := (Below.refl _ _).alloc (Nat.le_refl _) _
  go_wp2_with (first
    | (go_at_call 9; refine (whole_any _ _ _ [97, 98, 99] _ (by simpa using habc w) (by omega)).mono ?_; rintro e w1 ⟨rv, Hrv, rfl, hb1⟩
       have hB1 : Below w.heap.size w w1 := hB0.trans (hb1.mono (by simp)); clear hb1 kc habc hB0)
    | (refine wpList_store_new rfl 24 _ _ rfl w1.heap.size rfl rv rfl rfl 24 _ (by rw [(dig_size Hrv).out]; kernel_rfl) (by rw [(dig_size Hrv).out]; kernel_rfl) (dig_one Hrv).out ?_
       have hB2 : Below w.heap.size w (w1.alloc (.cells rv 24)) := hB1.alloc hB1.size _
       have hr : (w1.alloc (.cells rv 24)).heap[w1.heap.size]? = some (.cells rv 24 (0, 0)) := heap_alloc_new w1 _
       generalize w1.alloc (.cells rv 24) = w2 at hB2 hr ⊢
       generalize w1.heap.size = g2 at hr ⊢
       have d0 : w2.cell? ⟨g2, 0, none⟩ = some (.int .u8 186) := by rw [dig_row hr Hrv 0 (by omega), dig_abc.1]; rfl
       have d1 : w2.cell? ⟨g2, 1, none⟩ = some (.int .u8 120) := by rw [dig_row hr Hrv 1 (by omega), dig_abc.2.1]; rfl
       have d2 : w2.cell? ⟨g2, 31, none⟩ = some (.int .u8 173) := by rw [dig_row hr Hrv 31 (by omega), dig_abc.2.2]; rfl
       clear hr hB1)
    | (go_at_call 11; refine (new_any _).mono ?_; rintro e w3 ⟨g3, rfl, hg3, hH, hb3⟩; have hB3 : Below w.heap.size w w3 := hB2.trans (hb3.mono hB2.size); clear hb3 hB2 d0 d1 d2)
    | (go_at_call 13; refine (sum_any g3 [] w3 hH (by simp)).mono ?_; rintro e w4 ⟨rv4, Hrv4, rfl, hb4⟩; have hB4 : Below w.heap.size w w4 := hB3.trans (hb4.mono hB3.size); clear hb4 hB3)
    | (go_at_call 10; refine (rsum_any none 0 0 [] w4 (Bytes.nil _ _) (by omega)).mono ?_; rintro e w5 ⟨rv5, Hrv5, rfl, hb5⟩; have hB5 : Below w.heap.size w w5 := hB4.trans (hb5.mono hB4.size); clear hb5 hB4
       have heq := run_eql_same (P := Try.prog) 24 5 32 Try.underlying24 Try.underlying5 (by kernel_rfl) rv4 rv5 (dig []) rfl Hrv4.out Hrv5.out))
  go_ret
  exact ⟨rfl, hB5⟩
end Go.Proofs.Ytcnjffckjcoafaa
