/-
  Bytes of a page: lay, number; pages held against one another.
-/
import Derived.Test.YtkpogmigfjmacaaPeUtil
import Derived.Test.YtkpogmigfjmacaaShaRows
import Derived.Laws.StructEq
import Derived.DeepKeys
import Derived.Laws.BitsAllLaws
set_option linter.unusedSimpArgs false
set_option linter.unusedVariables false
namespace Go.Proofs.Ytkpogmigfjmacaa
open Go.RowKit Sh

/-- The number of the bytes from place k on, below place 8. -/
def numFrom (bs : List UInt8) (k : Nat) : Nat := (bs.drop k).foldr (fun b n => b.toNat + 256 * n) 0
theorem numFrom_step {bs : List UInt8} {k : Nat} (h : k < bs.length) : numFrom bs k = (at8 bs k).toNat + 256 * numFrom bs (k + 1) := by
  unfold numFrom
  rw [List.drop_eq_getElem_cons h, List.foldr_cons]
  simp [at8, h]
theorem numFrom_lt : ∀ (bs : List UInt8) (k : Nat), numFrom bs k < 256 ^ (bs.length - k) := fun bs k => by
  unfold numFrom
  have : ∀ l : List UInt8, l.foldr (fun b n => b.toNat + 256 * n) 0 < 256 ^ l.length := by
    intro l
    induction l with
    | nil => simp
    | cons b l ih =>
      have := b.toNat_lt
      rw [List.foldr_cons, List.length_cons, Nat.pow_succ]
      omega
  have h := this (bs.drop k)
  rwa [List.length_drop] at h
theorem grownBy_refl (w : World) (r : Option Nat) : w.grownBy w r := ⟨rfl, rfl, rfl, Nat.le_refl _, fun _ _ _ => rfl⟩
theorem grownBy_trans {a b c : World} {r : Option Nat} (h : a.grownBy b r) (k : b.grownBy c r) : a.grownBy c r :=
  ⟨k.os.trans h.os, k.tape.trans h.tape, k.output.trans h.output, Nat.le_trans h.size k.size, fun i hi hne => (k.block i (Nat.lt_of_lt_of_le hi h.size) hne).trans (h.block i hi hne)⟩
theorem grown_setCell (w : World) (a : Addr) (x : Value) : w.grownBy (w.setCell a x) (some a.block) :=
  ⟨rfl, rfl, rfl, by simp [World.setCell], fun k _ hk => Below.heap_setCell _ _ _ _ (fun e => hk (by rw [e]))⟩
theorem byteN (m k : Nat) : IntKind.u8.wrap ((m : Int) / 2 ^ k) = bz (UInt8.ofNat (m / 2 ^ k)) := by
  have : ((m : Int) / 2 ^ k) = ((m / 2 ^ k : Nat) : Int) := by simp
  rw [this, IntKind.wrap_u8', bz_eq, UInt8.toNat_ofNat']; omega
/-- A number in n bytes, the lowest first. -/
def leN (n x : Nat) : List UInt8 := (List.range n).map fun i => UInt8.ofNat (x / 2 ^ (8 * i))
theorem leN_length (n x : Nat) : (leN n x).length = n := by simp [leN]
theorem leN_succ (n x : Nat) : leN (n + 1) x = leN n x ++ [UInt8.ofNat (x / 2 ^ (8 * n))] := by simp [leN, List.range_succ]
theorem splice_nil (cur : List Value) (o : Nat) (_h : o ≤ cur.length) : splice cur o [] = cur := by simp [splice]
theorem splice_snoc (cur cs : List Value) (o : Nat) (v : Value) (h : o + cs.length < cur.length) : (splice cur o cs).set (o + cs.length) v = splice cur o (cs ++ [v]) := by
  unfold splice
  have h1 : (cur.take o).length = o := by rw [List.length_take]; omega
  rw [List.append_assoc, List.set_append_right _ _ (by rw [h1]; omega), h1, List.set_append_right _ _ (by omega), show o + cs.length - o - cs.length = 0 from by omega]
  rw [List.drop_eq_getElem_cons (show o + cs.length < cur.length from h), List.set_cons_zero, List.length_append, List.length_singleton, ← Nat.add_assoc]
  simp
theorem setCell_row {w : World} {g : Nat} {cs : List Value} {t : TypeId} (h : w.heap[g]? = some (.cells cs.toArray t (0, 0))) (j : Nat) (v : Value) :
    (w.setCell ⟨g, j, none⟩ v).heap[g]? = some (.cells (cs.set j v).toArray t (0, 0)) := by
  simp [World.setCell, Array.getElem?_modify, h]
theorem thawed_row {w : World} {g : Nat} {cs : Array Value} {t : TypeId} (h : w.heap[g]? = some (.cells cs t (0, 0))) (j : Nat) : w.frozen? ⟨g, j, none⟩ = false := by simp [World.frozen?, h]
def PutPost (g : Nat) (cs : List Value) (t : TypeId) (w : World) (e : Ending) (w' : World) : Prop := e = .returned (.tuple #[]) ∧ w'.heap[g]? = some (.cells cs.toArray t (0, 0)) ∧ w.grownBy w' (some g)
theorem numFrom_snoc : ∀ (l : List UInt8) (b : UInt8), numFrom (l ++ [b]) 0 = numFrom l 0 + b.toNat * 256 ^ l.length
  | [], b => by simp [numFrom]
  | a :: l, b => by
    have h := numFrom_snoc l b
    simp only [numFrom, List.drop_zero] at h
    simp only [numFrom, List.drop_zero, List.cons_append, List.foldr_cons, List.length_cons, h, Nat.pow_succ]
    rw [Nat.mul_add, ← Nat.add_assoc]
    congr 1
    rw [Nat.mul_left_comm, Nat.mul_comm (256 ^ l.length) 256]
theorem take_byte {bs : List UInt8} {k : Nat} (h : k < bs.length) : bs.take (k + 1) = bs.take k ++ [at8 bs k] := by
  rw [List.take_succ_eq_append_getElem h]; simp [at8, h]
theorem or_byte {bs : List UInt8} {k : Nat} (hk : k < bs.length) (h8 : bs.length ≤ 8) :
    bits .or .u64 (numFrom (bs.take k) 0 : Nat) (IntKind.u64.wrap (IntKind.u64.wrap (bz (at8 bs k)) * 2 ^ (8 * k))) = (numFrom (bs.take (k + 1)) 0 : Nat) := by
  have hb := (at8 bs k).toNat_lt
  have hl := numFrom_lt (bs.take k) 0
  rw [List.length_take, Nat.sub_zero, Nat.min_eq_left (by omega)] at hl
  have hpk : 256 ^ k = 2 ^ (8 * k) := by rw [Nat.pow_mul]
  have hle : 2 ^ (8 * k) * 256 ≤ 18446744073709551616 := by
    have : 2 ^ (8 * k) * 256 = 2 ^ (8 * k + 8) := by rw [Nat.pow_add]
    rw [this]; exact Nat.le_trans (Nat.pow_le_pow_right (by omega) (by omega : 8 * k + 8 ≤ 64)) (Nat.le_refl _)
  have h0 : 0 < 2 ^ (8 * k) := Nat.pow_pos (by omega)
  have hmul : (at8 bs k).toNat * 2 ^ (8 * k) < 18446744073709551616 := by
    have := Nat.mul_lt_mul_of_pos_right hb h0
    omega
  have e1 : IntKind.u64.wrap (bz (at8 bs k)) = ((at8 bs k).toNat : Int) := by rw [IntKind.wrap_u64, bz_eq]; omega
  have e2 : IntKind.u64.wrap (((at8 bs k).toNat : Int) * 2 ^ (8 * k)) = ((at8 bs k).toNat * 2 ^ (8 * k) : Nat) := by
    have : (((at8 bs k).toNat : Int) * 2 ^ (8 * k)) = ((at8 bs k).toNat * 2 ^ (8 * k) : Nat) := by simp
    rw [this, IntKind.wrap_u64]; omega
  rw [e1, e2, u64_or _ _ (by omega) (by rw [hpk] at hl; omega) (by omega) (by omega), take_byte hk, numFrom_snoc, List.length_take, Nat.min_eq_left (by omega), hpk]
  rw [Int.toNat_natCast, Int.toNat_natCast, Nat.or_comm, Nat.add_comm, ← Nat.shiftLeft_eq, Nat.shiftLeft_add_eq_or_of_lt (by rw [← hpk]; exact hl)]
  try rfl
set_option maxRecDepth 100000 in
set_option maxHeartbeats 800000 in
section
variable {w : World}
set_option maxRecDepth 100000 in
set_option maxHeartbeats 800000 in
/-- lay. -/
theorem lay_any {g o n cap x : Nat} {cs : List Value} {t : TypeId} (hg : w.heap[g]? = some (.cells cs.toArray t (0, 0))) (hfit : o + n ≤ cs.length) (hn : n ≤ 8) :
    Calls Try.prog 40 #[.slice (some ⟨g, o, none⟩) n cap, .int .u64 x] w (PutPost g (splice cs o ((leN n x).map cu8)) t w) := by
  go_enter Try.func40, Try.ntmps40
  go_wp2
  go_loopg [7] n (fun gg i wr => ∃ k : Nat, k ≤ n ∧ gg = n - k ∧ i = .int .i64 k ∧ wr.heap[g]? = some (.cells (splice cs o ((leN k x).map cu8)).toArray t (0, 0)) ∧ w.grownBy wr (some g))
  case atStart => exact ⟨0, by omega, rfl, rfl, by rw [show (leN 0 x).map cu8 = [] from rfl, splice_nil _ _ (by omega)]; exact hg, grownBy_refl _ _⟩
  case round =>
    obtain ⟨k, hk, rfl, rfl, hR, hG⟩ := hrel
    by_cases hlt : k < n
    · have hlt' : (k : Int) < n := by omega
      have hlen : (splice cs o ((leN k x).map cu8)).length = cs.length := length_splice _ _ _ (by rw [List.length_map, leN_length]; omega)
      have hc : ∃ v, wr.cell? ⟨g, o + k, none⟩ = some v := by
        rw [cell_of_row wr g (o + k) _ _ _ hR]
        exact ⟨_, Array.getElem?_eq_getElem (by rw [List.size_toArray, hlen]; omega)⟩
      obtain ⟨cv, c0⟩ := hc
      have f0 := thawed_row hR (o + k)
      have n1 : (8 * (k : Int)).toNat = 8 * k := by omega
      have hv : IntKind.u8.wrap ((x : Int) / 2 ^ (8 * k)) = bz (UInt8.ofNat (x / 2 ^ (8 * k))) := byteN x (8 * k)
      have hst := setCell_row hR (o + k) (cu8 (UInt8.ofNat (x / 2 ^ (8 * k))))
      have hnx : (splice cs o ((leN k x).map cu8)).set (o + k) (cu8 (UInt8.ofNat (x / 2 ^ (8 * k)))) = splice cs o ((leN (k + 1) x).map cu8) := by
        rw [leN_succ, List.map_append]
        have := splice_snoc cs ((leN k x).map cu8) o (cu8 (UInt8.ofNat (x / 2 ^ (8 * k)))) (by rw [List.length_map, leN_length]; omega)
        rw [List.length_map, leN_length] at this
        exact this
      rw [hnx] at hst
      have hG' := grownBy_trans hG (grown_setCell wr ⟨g, o + k, none⟩ (cu8 (UInt8.ofNat (x / 2 ^ (8 * k)))))
      have Hst := Lib.hid hst; have HG := Lib.hid hG'
      clear hst hG' hnx hlen hR hG hg
      go_wp2
      go_roundg (n - (k + 1))
      case measure => omega
      case rel => exact ⟨k + 1, by omega, rfl, by go_num, Hst.out, HG.out⟩
    · obtain rfl : k = n := by omega
      have HR := Lib.hid hR; clear hR
      go_wp2
      first | go_end0 | refine bodyPost_ret (v := .tuple #[]) (results_none rfl _ _ _) rfl ?_
      exact ⟨rfl, HR.out, hG⟩
set_option maxRecDepth 100000 in
set_option maxHeartbeats 800000 in
/-- number. -/
theorem number_any {bs : List UInt8} {n : Nat} (hl : bs.length = n) (hn : n ≤ 8) {g o cap : Nat} (hc : ∀ j, j < n → w.cell? ⟨g, o + j, none⟩ = some (.int .u8 (bz (at8 bs j)))) :
    Calls Try.prog 50 #[.slice (some ⟨g, o, none⟩) n cap] w fun e w' => e = .returned (.int .u64 (numFrom bs 0)) ∧ w = w' := by
  go_enter Try.func50, Try.ntmps50
  go_wp2
  go_loopg [3, 7] n (fun gg v i wx => ∃ k : Nat, k ≤ n ∧ gg = n - k ∧ v = .int .u64 (numFrom (bs.take k) 0) ∧ i = .int .i64 k ∧ wx = w)
  case atStart => exact ⟨0, by omega, rfl, rfl, rfl, rfl⟩
  case round =>
    obtain ⟨k, hk, rfl, rfl, rfl, rfl⟩ := hrel
    by_cases hlt : k < n
    · have hlt' : (k : Int) < n := by omega
      have c0 := hc k hlt
      have n1 : (8 * (k : Int)).toNat = 8 * k := by omega
      have hor := or_byte (bs := bs) (k := k) (by omega) (by omega)
      have Hor := Lib.hid hor; clear hor
      go_wp2
      go_roundg (n - (k + 1))
      case measure => omega
      case rel => exact ⟨k + 1, by omega, rfl, by rw [Hor.out], by go_num, rfl⟩
    · obtain rfl : k = n := by omega
      go_wp2
      go_ret
      exact ⟨by rw [List.take_of_length_le (by omega)]; rfl, rfl⟩

end
theorem run_items {P : Program} (T E : TypeId) (n : Nat) (hT : P.underlying T = some (.array n E)) (hE : P.underlying E = some (.int .u8)) (hs : (P.info? E).map (·.size) = some 1)
    (l1 l2 : List UInt8) (h1 : l1.length = n) (h2 : l2.length = n) (w : World) :
    (Op.equalIn 10000 T (.agg (l1.map cu8).toArray) (.agg (l2.map cu8).toArray)).run P w = .ok (decide (l1 = l2)) w := by
  have hagg : (isAgg E).run P w = .ok false w := by
    unfold isAgg
    rw [Sem.run_bind, run_underlying hE w]
    rfl
  obtain ⟨i0, hi, hi1⟩ : ∃ i, P.info? E = some i ∧ i.size = 1 := by
    cases hq : P.info? E with
    | none => simp [hq] at hs
    | some i => exact ⟨i, rfl, by simpa [hq] using hs⟩
  have hp : ∀ (l : List UInt8), l.length = n → ∀ k, k < n → (part E (l.map cu8).toArray k).run P w = .ok (.int .u8 (bz (at8 l k))) w := fun l hl k hk => by
    have hk' : k < l.length := by omega
    have hv : (l.map cu8).toArray[k]? = some (.int .u8 (bz (at8 l k))) := by
      rw [List.getElem?_toArray, List.getElem?_map, List.getElem?_eq_getElem hk', at8, List.getD_eq_getElem?_getD, List.getElem?_eq_getElem hk']; rfl
    unfold part
    rw [Sem.run_bind, hagg]
    simp only [Result.andThen_ok, hv, Bool.false_eq_true, if_false]
    simp
  have hitems : ∀ (d : Nat) (is : List Nat), (∀ k ∈ is, k < n) → (Op.eqItems (d + 1) E 1 (l1.map cu8).toArray (l2.map cu8).toArray is).run P w = .ok (is.all fun k => bz (at8 l1 k) == bz (at8 l2 k)) w := fun d is => by
    induction is with
    | nil => intro _; simp [Op.eqItems]
    | cons k is ih =>
      intro h
      have hk := h k (by simp)
      have ih' := ih (fun j hj => h j (by simp [hj]))
      simp only [Op.eqItems, Nat.mul_one, Sem.run_bind, hp l1 h1 k hk, hp l2 h2 k hk, Result.andThen_ok, run_equalIn_int w d E .u8 .u8 (bz (at8 l1 k)) (bz (at8 l2 k)) hE]
      cases hb : bz (at8 l1 k) == bz (at8 l2 k)
      · simp [hb]
      · simpa [hb] using ih'
  have hc : P.cellsOf E = 1 := by simp [Program.cellsOf, hi, hi1]
  rw [run_equalIn_array w 9999 _ _ hT hi, hc, hitems 9998 _ (fun k hk => by simpa using hk)]
  have e : ((List.range n).all fun k => bz (at8 l1 k) == bz (at8 l2 k)) = decide (l1 = l2) := by
    rw [Bool.eq_iff_iff, List.all_eq_true, decide_eq_true_eq]
    constructor
    · intro h
      apply List.ext_getElem (by omega)
      intro j hj1 hj2
      have := h j (by simp; omega)
      have := bz_inj (by simpa using this)
      simpa [at8, List.getD_eq_getElem?_getD, List.getElem?_eq_getElem hj1, List.getElem?_eq_getElem hj2] using this
    · intro h; subst h; simp
  rw [e]

theorem page_neq (l1 l2 : List UInt8) (h1 : l1.length = 64) (h2 : l2.length = 64) (W : World) : (binOp .neq 51 (.agg (l1.map cu8).toArray) (.agg (l2.map cu8).toArray)).run Try.prog W = .ok (.bool (!decide (l1 = l2))) W := by
  rw [run_neq_struct, run_items (P := Try.prog) 51 5 64 Try.underlying51 Try.underlying5 (by kernel_rfl) l1 l2 h1 h2 W]; rfl
theorem info64 : (Try.prog.info? 51).map (·.size) = some 64 := by kernel_rfl
def zero64 : List UInt8 := List.replicate 64 0
theorem alloc64 (w : World) : (Instr.alloc 51 true (.tuple #[])).run Try.prog w = .ok (.pointer (some ⟨w.heap.size, 0, none⟩)) (w.alloc (.cells (zero64.map cu8).toArray 51)) := by kernel_rfl
end Go.Proofs.Ytkpogmigfjmacaa
