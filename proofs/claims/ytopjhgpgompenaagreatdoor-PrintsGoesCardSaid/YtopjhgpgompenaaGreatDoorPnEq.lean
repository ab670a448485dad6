/-
  '==' of entries.
-/
import Derived.Test.YtopjhgpgompenaaGreatDoorPnMath
import Derived.Test.YtopjhgpgompenaaGreatDoorJLw
set_option linter.unusedSimpArgs false
set_option linter.unusedVariables false
namespace Go.Proofs.YtopjhgpgompenaaGreatDoor
open Go.RowKit Sh Go.Maps Go.Extern.Stop Go.Stop Go.Extern

theorem ent_eq_iff (a b : Ent) : a = b ↔ a.dg = b.dg ∧ a.slot = b.slot ∧ a.refs = b.refs := ⟨fun h => by rw [h]; exact ⟨rfl, rfl, rfl⟩, fun ⟨h1, h2, h3⟩ => by cases a; cases b; simp_all⟩
instance : DecidableEq Ent := fun a b => decidable_of_iff _ (ent_eq_iff a b).symm
theorem ent_extract {e : Ent} (h : e.dg.length = 32) : (entC e).toArray.extract 0 (0 + 32) = (e.dg.map cu8).toArray := by
  have h0 : (e.dg.map cu8).length = 32 := by rw [List.length_map, h]
  rw [List.extract_toArray]
  congr 1
  unfold entC
  simp [List.extract_eq_take_drop, List.take_append, h0, h]
theorem eqEnt_d (m1 m2 : Ent) (h1 : m1.dg.length = 32) (h2 : m2.dg.length = 32) (w : World) (d : Nat) : (Op.equalIn (d + 4) 73 (.agg (entC m1).toArray) (.agg (entC m2).toArray)).run Tryz.prog w = .ok (decide (m1 = m2)) w := by
  have hi := run_itemsD (P := Tryz.prog) d 71 5 32 Tryz.underlying71 Tryz.underlying5 (by kernel_rfl) m1.dg m2.dg h1 h2 w
  have a32 : ∀ m : Ent, m.dg.length = 32 → (entC m).toArray[32]? = some (.int .i64 (m.slot : Nat)) := fun m hm => by rw [List.getElem?_toArray, entC, List.getElem?_append_right (by simp [hm])]; simp [hm]
  have a33 : ∀ m : Ent, m.dg.length = 32 → (entC m).toArray[33]? = some (.int .i64 (m.refs : Nat)) := fun m hm => by rw [List.getElem?_toArray, entC, List.getElem?_append_right (by simp [hm])]; simp [hm]
  have p1 := run_part_int (P := Tryz.prog) 3 Tryz.underlying3 (entC m1).toArray 32 (.int .i64 m1.slot) (a32 m1 h1) w
  have p2 := run_part_int (P := Tryz.prog) 3 Tryz.underlying3 (entC m2).toArray 32 (.int .i64 m2.slot) (a32 m2 h2) w
  have r1 := run_part_int (P := Tryz.prog) 3 Tryz.underlying3 (entC m1).toArray 33 (.int .i64 m1.refs) (a33 m1 h1) w
  have r2 := run_part_int (P := Tryz.prog) 3 Tryz.underlying3 (entC m2).toArray 33 (.int .i64 m2.refs) (a33 m2 h2) w
  have q1 := run_part_arr (P := Tryz.prog) 71 5 32 Tryz.underlying71 (by kernel_rfl) (entC m1).toArray 0 w
  have q2 := run_part_arr (P := Tryz.prog) 71 5 32 Tryz.underlying71 (by kernel_rfl) (entC m2).toArray 0 w
  rw [ent_extract h1] at q1
  rw [ent_extract h2] at q2
  have hn := run_equalIn_int (P := Tryz.prog) w (d + 2) 3 .i64 .i64 m1.slot m2.slot Tryz.underlying3
  have hu := run_equalIn_int (P := Tryz.prog) w (d + 2) 3 .i64 .i64 m1.refs m2.refs Tryz.underlying3
  rw [run_equalIn_struct w (d + 3) 73 _ _ (by kernel_rfl) (by kernel_rfl)]
  simp only [Program.fieldsOf, Tryz.underlying73, Op.eqFields]
  rw [if_pos (by decide), if_pos (by decide), if_pos (by decide)]
  simp only [Sem.run_bind]
  rw [q1, Result.andThen_ok, q2, Result.andThen_ok, hi, Result.andThen_ok]
  have hd : decide (m1 = m2) = (decide (m1.dg = m2.dg) && (((m1.slot : Int) == (m2.slot : Int)) && ((m1.refs : Int) == (m2.refs : Int)))) := by
    rw [Bool.eq_iff_iff, decide_eq_true_eq, ent_eq_iff, Bool.and_eq_true, Bool.and_eq_true, decide_eq_true_eq, beq_iff_eq, beq_iff_eq, Int.ofNat_inj, Int.ofNat_inj]
  rw [hd]
  clear hd hi q1 q2
  generalize decide (m1.dg = m2.dg) = D
  cases D with
  | false => rfl
  | true =>
    simp only [Bool.not_true, Bool.false_eq_true, if_false, Sem.run_bind, Bool.true_and]
    rw [p1, Result.andThen_ok, p2, Result.andThen_ok, hn, Result.andThen_ok]
    generalize ((m1.slot : Int) == (m2.slot : Int)) = S
    cases S with
    | false => rfl
    | true =>
      simp only [Bool.not_true, Bool.false_eq_true, if_false, Sem.run_bind, Bool.true_and]
      rw [r1, Result.andThen_ok, r2, Result.andThen_ok, hu, Result.andThen_ok]
      generalize ((m1.refs : Int) == (m2.refs : Int)) = R
      cases R <;> rfl
theorem eqEnt (m1 m2 : Ent) (h1 : m1.dg.length = 32) (h2 : m2.dg.length = 32) (w : World) : (binOp .eql 73 (.agg (entC m1).toArray) (.agg (entC m2).toArray)).run Tryz.prog w = .ok (.bool (decide (m1 = m2))) w := by
  rw [run_eql_struct, eqEnt_d m1 m2 h1 h2 w 9996]; rfl
end Go.Proofs.YtopjhgpgompenaaGreatDoor
