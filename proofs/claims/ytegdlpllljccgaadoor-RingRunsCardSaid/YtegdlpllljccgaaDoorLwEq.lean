/-
  '==' of changes and of marks.
-/
import Derived.Test.YtegdlpllljccgaaDoorPrAdd
set_option linter.unusedSimpArgs false
set_option linter.unusedVariables false
namespace Go.Proofs.YtegdlpllljccgaaDoor
open Go.RowKit Sh Go.Extern.Stop Go.Stop Go.Extern

theorem i64_and24 (n : Int) : bits .and .i64 n 16777215 = n % 16777216 := by
  have h24 : (BitVec.ofInt 64 16777215).toNat = 2 ^ 24 - 1 := by decide
  have key : (BitVec.ofInt 64 n &&& BitVec.ofInt 64 16777215).toNat = (n % ((2 ^ 64 : Nat) : Int)).toNat % 2 ^ 24 := by
    rw [BitVec.toNat_and, BitVec.toNat_ofInt, h24, Nat.and_two_pow_sub_one_eq_mod]
  show IntKind.i64.wrap ((BitVec.ofInt 64 n &&& BitVec.ofInt 64 16777215).toNat : Nat) = n % 16777216
  rw [key, IntKind.wrap_i64]
  omega
/-- '==' of arrays of bytes, at any depth. -/
theorem run_itemsD {P : Program} (d : Nat) (T E : TypeId) (n : Nat) (hT : P.underlying T = some (.array n E)) (hE : P.underlying E = some (.int .u8)) (hs : (P.info? E).map (·.size) = some 1)
    (l1 l2 : List UInt8) (h1 : l1.length = n) (h2 : l2.length = n) (w : World) :
    (Op.equalIn (d + 3) T (.agg (l1.map cu8).toArray) (.agg (l2.map cu8).toArray)).run P w = .ok (decide (l1 = l2)) w := by
  have hagg : (isAgg E).run P w = .ok false w := by
    unfold isAgg
    rw [Sem.run_bind, run_underlying hE w]
    rfl
  obtain ⟨i0, hi, hi1⟩ : ∃ i, P.info? E = some i ∧ i.size = 1 := by
    cases hq : P.info? E with
    | none => simp [hq] at hs
    | some i => exact ⟨i, rfl, by simpa [hq] using hs⟩
  have hp : ∀ (l : List UInt8), l.length = n → ∀ k, k < n → (part E (l.map cu8).toArray k).run P w = .ok (.int .u8 (bz (at8 l k))) w := fun l hl k hk => by
    have hk' : k < l.length := by omega
    have hv : (l.map cu8).toArray[k]? = some (.int .u8 (bz (at8 l k))) := by
      rw [List.getElem?_toArray, List.getElem?_map, List.getElem?_eq_getElem hk', at8, List.getD_eq_getElem?_getD, List.getElem?_eq_getElem hk']; rfl
    unfold part
    rw [Sem.run_bind, hagg]
    simp only [Result.andThen_ok, hv, Bool.false_eq_true, if_false]
    simp
  have hitems : ∀ (is : List Nat), (∀ k ∈ is, k < n) → (Op.eqItems (d + 2) E 1 (l1.map cu8).toArray (l2.map cu8).toArray is).run P w = .ok (is.all fun k => bz (at8 l1 k) == bz (at8 l2 k)) w := fun is => by
    induction is with
    | nil => intro _; simp [Op.eqItems]
    | cons k is ih =>
      intro h
      have hk := h k (by simp)
      have ih' := ih (fun j hj => h j (by simp [hj]))
      simp only [Op.eqItems, Nat.mul_one, Sem.run_bind, hp l1 h1 k hk, hp l2 h2 k hk, Result.andThen_ok, run_equalIn_int w (d + 1) E .u8 .u8 (bz (at8 l1 k)) (bz (at8 l2 k)) hE]
      cases hb : bz (at8 l1 k) == bz (at8 l2 k)
      · simp [hb]
      · simpa [hb] using ih'
  have hc : P.cellsOf E = 1 := by simp [Program.cellsOf, hi, hi1]
  rw [run_equalIn_array w (d + 2) _ _ hT hi, hc, hitems _ (fun k hk => by simpa using hk)]
  have e : ((List.range n).all fun k => bz (at8 l1 k) == bz (at8 l2 k)) = decide (l1 = l2) := by
    rw [Bool.eq_iff_iff, List.all_eq_true, decide_eq_true_eq]
    constructor
    · intro h
      apply List.ext_getElem (by omega)
      intro j hj1 hj2
      have := h j (by simp; omega)
      have := bz_inj (by simpa using this)
      simpa [at8, List.getD_eq_getElem?_getD, List.getElem?_eq_getElem hj1, List.getElem?_eq_getElem hj2] using this
    · intro h; subst h; simp
  rw [e]
theorem run_part_int {P : Program} (T : TypeId) {k : IntKind} (hT : P.underlying T = some (.int k)) (cs : Array Value) (off : Nat) (v : Value) (hv : cs[off]? = some v) (w : World) : (part T cs off).run P w = .ok v w := by
  simp [part, isAgg, run_underlying hT, hv]
theorem run_part_arr {P : Program} (T E : TypeId) (n : Nat) (hT : P.underlying T = some (.array n E)) (hs : (P.info? T).map (·.size) = some n) (cs : Array Value) (off : Nat) (w : World) : (part T cs off).run P w = .ok (.agg (cs.extract off (off + n))) w := by
  have hsz : (sizeOf T).run P w = .ok n w := by
    cases hq : P.info? T with
    | none => simp [hq] at hs
    | some i =>
      have hi : i.size = n := by simpa [hq] using hs
      simp [sizeOf, typeInfo, hq, hi]
  simp [part, isAgg, run_underlying hT, hsz]
instance : DecidableEq Chg := fun a b => decidable_of_iff (a.at_ = b.at_ ∧ a.what = b.what) ⟨fun ⟨h1, h2⟩ => by cases a; cases b; simp_all, fun h => by rw [h]; exact ⟨rfl, rfl⟩⟩
theorem chg_eq_iff (a b : Chg) : a = b ↔ a.at_ = b.at_ ∧ a.what = b.what := ⟨fun h => by rw [h]; exact ⟨rfl, rfl⟩, fun ⟨h1, h2⟩ => by cases a; cases b; simp_all⟩
theorem chg_extract {c : Chg} (h : c.what.length = 64) : (chgC c).toArray.extract 1 (1 + 64) = (c.what.map cu8).toArray := by
  have : (c.what.map cu8).take 64 = c.what.map cu8 := List.take_of_length_le (by simp [h])
  simp [chgC, this]
section
variable (c1 c2 : Chg) (h1 : c1.what.length = 64) (h2 : c2.what.length = 64) (w : World)
include h1 h2 in
theorem eqChg_ring_d (d : Nat) : (Op.equalIn (d + 4) 91 (.agg (chgC c1).toArray) (.agg (chgC c2).toArray)).run Tryd.prog w = .ok (decide (c1 = c2)) w := by
  have x1 := chg_extract h1
  have x2 := chg_extract h2
  have hi := run_itemsD (P := Tryd.prog) d 63 5 64 Tryd.underlying63 Tryd.underlying5 (by kernel_rfl) c1.what c2.what h1 h2 w
  have p1 := run_part_int (P := Tryd.prog) 3 Tryd.underlying3 (chgC c1).toArray 0 (.int .i64 c1.at_) rfl w
  have p2 := run_part_int (P := Tryd.prog) 3 Tryd.underlying3 (chgC c2).toArray 0 (.int .i64 c2.at_) rfl w
  have q1 := run_part_arr (P := Tryd.prog) 63 5 64 Tryd.underlying63 info64 (chgC c1).toArray 1 w
  have q2 := run_part_arr (P := Tryd.prog) 63 5 64 Tryd.underlying63 info64 (chgC c2).toArray 1 w
  rw [x1] at q1
  rw [x2] at q2
  have hn := run_equalIn_int (P := Tryd.prog) w (d + 2) 3 .i64 .i64 c1.at_ c2.at_ Tryd.underlying3
  rw [run_equalIn_struct w (d + 3) 91 _ _ (by kernel_rfl) (by kernel_rfl)]
  simp only [Program.fieldsOf, Tryd.underlying91, Op.eqFields]
  rw [if_pos (by decide), if_pos (by decide)]
  simp only [Sem.run_bind, Sem.run_ite, p1, p2, Result.andThen_ok, hn, Sem.run_pure]
  rw [q1, Result.andThen_ok, q2, Result.andThen_ok, hi, Result.andThen_ok]
  have hd : decide (c1 = c2) = (((c1.at_ : Int) == (c2.at_ : Int)) && decide (c1.what = c2.what)) := by
    rw [Bool.eq_iff_iff, decide_eq_true_eq, chg_eq_iff, Bool.and_eq_true, decide_eq_true_eq, beq_iff_eq, Int.ofNat_inj]
  rw [hd]
  cases ((c1.at_ : Int) == (c2.at_ : Int)) <;> cases decide (c1.what = c2.what) <;> simp
include h1 h2 in
theorem eqChg_ref_d (d : Nat) : (Op.equalIn (d + 4) 106 (.agg (chgC c1).toArray) (.agg (chgC c2).toArray)).run Tryd.prog w = .ok (decide (c1 = c2)) w := by
  have x1 := chg_extract h1
  have x2 := chg_extract h2
  have hi := run_itemsD (P := Tryd.prog) d 63 5 64 Tryd.underlying63 Tryd.underlying5 (by kernel_rfl) c1.what c2.what h1 h2 w
  have p1 := run_part_int (P := Tryd.prog) 3 Tryd.underlying3 (chgC c1).toArray 0 (.int .i64 c1.at_) rfl w
  have p2 := run_part_int (P := Tryd.prog) 3 Tryd.underlying3 (chgC c2).toArray 0 (.int .i64 c2.at_) rfl w
  have q1 := run_part_arr (P := Tryd.prog) 63 5 64 Tryd.underlying63 info64 (chgC c1).toArray 1 w
  have q2 := run_part_arr (P := Tryd.prog) 63 5 64 Tryd.underlying63 info64 (chgC c2).toArray 1 w
  rw [x1] at q1
  rw [x2] at q2
  have hn := run_equalIn_int (P := Tryd.prog) w (d + 2) 3 .i64 .i64 c1.at_ c2.at_ Tryd.underlying3
  rw [run_equalIn_struct w (d + 3) 106 _ _ (by kernel_rfl) (by kernel_rfl)]
  simp only [Program.fieldsOf, Tryd.underlying106, Op.eqFields]
  rw [if_pos (by decide), if_pos (by decide)]
  simp only [Sem.run_bind, Sem.run_ite, p1, p2, Result.andThen_ok, hn, Sem.run_pure]
  rw [q1, Result.andThen_ok, q2, Result.andThen_ok, hi, Result.andThen_ok]
  have hd : decide (c1 = c2) = (((c1.at_ : Int) == (c2.at_ : Int)) && decide (c1.what = c2.what)) := by
    rw [Bool.eq_iff_iff, decide_eq_true_eq, chg_eq_iff, Bool.and_eq_true, decide_eq_true_eq, beq_iff_eq, Int.ofNat_inj]
  rw [hd]
  cases ((c1.at_ : Int) == (c2.at_ : Int)) <;> cases decide (c1.what = c2.what) <;> simp
end
theorem mk_eq_iff (a b : Mk) : a = b ↔ a.place = b.place ∧ a.num = b.num ∧ a.last = b.last := ⟨fun h => by rw [h]; exact ⟨rfl, rfl, rfl⟩, fun ⟨h1, h2, h3⟩ => by cases a; cases b; simp_all⟩
instance : DecidableEq Mk := fun a b => decidable_of_iff _ (mk_eq_iff a b).symm
theorem mark_extract {m : Mk} (h : m.last.length = 32) : (markCells m).toArray.extract 2 (2 + 32) = (m.last.map cu8).toArray := by
  have : (m.last.map cu8).take 32 = m.last.map cu8 := List.take_of_length_le (by simp [h])
  simp [markCells, this]
section
variable (m1 m2 : Mk) (h1 : m1.last.length = 32) (h2 : m2.last.length = 32) (w : World)
include h1 h2 in
theorem eqMark_ring_d (d : Nat) : (Op.equalIn (d + 4) 25 (.agg (markCells m1).toArray) (.agg (markCells m2).toArray)).run Tryd.prog w = .ok (decide (m1 = m2)) w := by
  have hi := run_itemsD (P := Tryd.prog) d 23 5 32 Tryd.underlying23 Tryd.underlying5 (by kernel_rfl) m1.last m2.last h1 h2 w
  have p1 := run_part_int (P := Tryd.prog) 3 Tryd.underlying3 (markCells m1).toArray 0 (.int .i64 m1.place) rfl w
  have p2 := run_part_int (P := Tryd.prog) 3 Tryd.underlying3 (markCells m2).toArray 0 (.int .i64 m2.place) rfl w
  have r1 := run_part_int (P := Tryd.prog) 22 Tryd.underlying22 (markCells m1).toArray 1 (.int .u64 m1.num) rfl w
  have r2 := run_part_int (P := Tryd.prog) 22 Tryd.underlying22 (markCells m2).toArray 1 (.int .u64 m2.num) rfl w
  have q1 := run_part_arr (P := Tryd.prog) 23 5 32 Tryd.underlying23 (by kernel_rfl) (markCells m1).toArray 2 w
  have q2 := run_part_arr (P := Tryd.prog) 23 5 32 Tryd.underlying23 (by kernel_rfl) (markCells m2).toArray 2 w
  rw [mark_extract h1] at q1
  rw [mark_extract h2] at q2
  have hn := run_equalIn_int (P := Tryd.prog) w (d + 2) 3 .i64 .i64 m1.place m2.place Tryd.underlying3
  have hu := run_equalIn_int (P := Tryd.prog) w (d + 2) 22 .u64 .u64 m1.num m2.num Tryd.underlying22
  rw [run_equalIn_struct w (d + 3) 25 _ _ (by kernel_rfl) (by kernel_rfl)]
  simp only [Program.fieldsOf, Tryd.underlying25, Op.eqFields]
  rw [if_pos (by decide), if_pos (by decide), if_pos (by decide)]
  simp only [Sem.run_bind, Sem.run_ite, p1, p2, r1, r2, Result.andThen_ok, hn, hu, Sem.run_pure]
  rw [q1, Result.andThen_ok, q2, Result.andThen_ok, hi, Result.andThen_ok]
  have hd : decide (m1 = m2) = (((m1.place : Int) == (m2.place : Int)) && (((m1.num : Int) == (m2.num : Int)) && decide (m1.last = m2.last))) := by
    rw [Bool.eq_iff_iff, decide_eq_true_eq, mk_eq_iff, Bool.and_eq_true, Bool.and_eq_true, decide_eq_true_eq, beq_iff_eq, beq_iff_eq, Int.ofNat_inj, Int.ofNat_inj]
  rw [hd]
  cases ((m1.place : Int) == (m2.place : Int)) <;> cases ((m1.num : Int) == (m2.num : Int)) <;> cases decide (m1.last = m2.last) <;> simp
include h1 h2 in
theorem eqMark_ref_d (d : Nat) : (Op.equalIn (d + 4) 46 (.agg (markCells m1).toArray) (.agg (markCells m2).toArray)).run Tryd.prog w = .ok (decide (m1 = m2)) w := by
  have hi := run_itemsD (P := Tryd.prog) d 23 5 32 Tryd.underlying23 Tryd.underlying5 (by kernel_rfl) m1.last m2.last h1 h2 w
  have p1 := run_part_int (P := Tryd.prog) 3 Tryd.underlying3 (markCells m1).toArray 0 (.int .i64 m1.place) rfl w
  have p2 := run_part_int (P := Tryd.prog) 3 Tryd.underlying3 (markCells m2).toArray 0 (.int .i64 m2.place) rfl w
  have r1 := run_part_int (P := Tryd.prog) 22 Tryd.underlying22 (markCells m1).toArray 1 (.int .u64 m1.num) rfl w
  have r2 := run_part_int (P := Tryd.prog) 22 Tryd.underlying22 (markCells m2).toArray 1 (.int .u64 m2.num) rfl w
  have q1 := run_part_arr (P := Tryd.prog) 23 5 32 Tryd.underlying23 (by kernel_rfl) (markCells m1).toArray 2 w
  have q2 := run_part_arr (P := Tryd.prog) 23 5 32 Tryd.underlying23 (by kernel_rfl) (markCells m2).toArray 2 w
  rw [mark_extract h1] at q1
  rw [mark_extract h2] at q2
  have hn := run_equalIn_int (P := Tryd.prog) w (d + 2) 3 .i64 .i64 m1.place m2.place Tryd.underlying3
  have hu := run_equalIn_int (P := Tryd.prog) w (d + 2) 22 .u64 .u64 m1.num m2.num Tryd.underlying22
  rw [run_equalIn_struct w (d + 3) 46 _ _ (by kernel_rfl) (by kernel_rfl)]
  simp only [Program.fieldsOf, Tryd.underlying46, Op.eqFields]
  rw [if_pos (by decide), if_pos (by decide), if_pos (by decide)]
  simp only [Sem.run_bind, Sem.run_ite, p1, p2, r1, r2, Result.andThen_ok, hn, hu, Sem.run_pure]
  rw [q1, Result.andThen_ok, q2, Result.andThen_ok, hi, Result.andThen_ok]
  have hd : decide (m1 = m2) = (((m1.place : Int) == (m2.place : Int)) && (((m1.num : Int) == (m2.num : Int)) && decide (m1.last = m2.last))) := by
    rw [Bool.eq_iff_iff, decide_eq_true_eq, mk_eq_iff, Bool.and_eq_true, Bool.and_eq_true, decide_eq_true_eq, beq_iff_eq, beq_iff_eq, Int.ofNat_inj, Int.ofNat_inj]
  rw [hd]
  cases ((m1.place : Int) == (m2.place : Int)) <;> cases ((m1.num : Int) == (m2.num : Int)) <;> cases decide (m1.last = m2.last) <;> simp
end
theorem eqChg_ring {a b : Chg} (h1 : a.what.length = 64) (h2 : b.what.length = 64) (w : World) : (Op.equalIn 10000 91 (.agg (chgC a).toArray) (.agg (chgC b).toArray)).run Tryd.prog w = .ok (decide (a = b)) w := eqChg_ring_d a b h1 h2 w 9996
theorem eqChg_ref {a b : Chg} (h1 : a.what.length = 64) (h2 : b.what.length = 64) (w : World) : (Op.equalIn 10000 106 (.agg (chgC a).toArray) (.agg (chgC b).toArray)).run Tryd.prog w = .ok (decide (a = b)) w := eqChg_ref_d a b h1 h2 w 9996
theorem eqMark_ring {a b : Mk} (h1 : a.last.length = 32) (h2 : b.last.length = 32) (w : World) : (Op.equalIn 10000 25 (.agg (markCells a).toArray) (.agg (markCells b).toArray)).run Tryd.prog w = .ok (decide (a = b)) w := eqMark_ring_d a b h1 h2 w 9996
theorem eqMark_ref {a b : Mk} (h1 : a.last.length = 32) (h2 : b.last.length = 32) (w : World) : (Op.equalIn 10000 46 (.agg (markCells a).toArray) (.agg (markCells b).toArray)).run Tryd.prog w = .ok (decide (a = b)) w := eqMark_ref_d a b h1 h2 w 9996
end Go.Proofs.YtegdlpllljccgaaDoor
