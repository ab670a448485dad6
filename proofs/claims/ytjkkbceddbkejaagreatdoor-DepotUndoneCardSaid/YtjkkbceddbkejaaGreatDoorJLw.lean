import Derived.Test.YtjkkbceddbkejaaGreatDoorJPrc
import Derived.Test.YtjkkbceddbkejaaGreatDoorJPrb
import Derived.Test.YtjkkbceddbkejaaGreatDoorJRg
set_option linter.unusedSimpArgs false
set_option linter.unusedVariables false
/-
  '==' of changes and of marks.
-/
namespace Go.Proofs.YtjkkbceddbkejaaGreatDoor
open Go.RowKit Sh Go.Extern.Stop Go.Stop Go.Extern

theorem i64_and24 (n : Int) : bits .and .i64 n 16777215 = n % 16777216 := by
  have h24 : (BitVec.ofInt 64 16777215).toNat = 2 ^ 24 - 1 := by decide
  have key : (BitVec.ofInt 64 n &&& BitVec.ofInt 64 16777215).toNat = (n % ((2 ^ 64 : Nat) : Int)).toNat % 2 ^ 24 := by
    rw [BitVec.toNat_and, BitVec.toNat_ofInt, h24, Nat.and_two_pow_sub_one_eq_mod]
  show IntKind.i64.wrap ((BitVec.ofInt 64 n &&& BitVec.ofInt 64 16777215).toNat : Nat) = n % 16777216
  rw [key, IntKind.wrap_i64]
  omega
/-- '==' of arrays of bytes, at any depth. -/
theorem run_itemsD {P : Program} (d : Nat) (T E : TypeId) (n : Nat) (hT : P.underlying T = some (.array n E)) (hE : P.underlying E = some (.int .u8)) (hs : (P.info? E).map (·.size) = some 1)
    (l1 l2 : List UInt8) (h1 : l1.length = n) (h2 : l2.length = n) (w : World) :
    (Op.equalIn (d + 3) T (.agg (l1.map cu8).toArray) (.agg (l2.map cu8).toArray)).run P w = .ok (decide (l1 = l2)) w := by
  have hagg : (isAgg E).run P w = .ok false w := by
    unfold isAgg
    rw [Sem.run_bind, run_underlying hE w]
    rfl
  obtain ⟨i0, hi, hi1⟩ : ∃ i, P.info? E = some i ∧ i.size = 1 := by
    cases hq : P.info? E with
    | none => simp [hq] at hs
    | some i => exact ⟨i, rfl, by simpa [hq] using hs⟩
  have hp : ∀ (l : List UInt8), l.length = n → ∀ k, k < n → (part E (l.map cu8).toArray k).run P w = .ok (.int .u8 (bz (at8 l k))) w := fun l hl k hk => by
    have hk' : k < l.length := by omega
    have hv : (l.map cu8).toArray[k]? = some (.int .u8 (bz (at8 l k))) := by
      rw [List.getElem?_toArray, List.getElem?_map, List.getElem?_eq_getElem hk', at8, List.getD_eq_getElem?_getD, List.getElem?_eq_getElem hk']; rfl
    unfold part
    rw [Sem.run_bind, hagg]
    simp only [Result.andThen_ok, hv, Bool.false_eq_true, if_false]
    simp
  have hitems : ∀ (is : List Nat), (∀ k ∈ is, k < n) → (Op.eqItems (d + 2) E 1 (l1.map cu8).toArray (l2.map cu8).toArray is).run P w = .ok (is.all fun k => bz (at8 l1 k) == bz (at8 l2 k)) w := fun is => by
    induction is with
    | nil => intro _; simp [Op.eqItems]
    | cons k is ih =>
      intro h
      have hk := h k (by simp)
      have ih' := ih (fun j hj => h j (by simp [hj]))
      simp only [Op.eqItems, Nat.mul_one, Sem.run_bind, hp l1 h1 k hk, hp l2 h2 k hk, Result.andThen_ok, run_equalIn_int w (d + 1) E .u8 .u8 (bz (at8 l1 k)) (bz (at8 l2 k)) hE]
      cases hb : bz (at8 l1 k) == bz (at8 l2 k)
      · simp [hb]
      · simpa [hb] using ih'
  have hc : P.cellsOf E = 1 := by simp [Program.cellsOf, hi, hi1]
  rw [run_equalIn_array w (d + 2) _ _ hT hi, hc, hitems _ (fun k hk => by simpa using hk)]
  have e : ((List.range n).all fun k => bz (at8 l1 k) == bz (at8 l2 k)) = decide (l1 = l2) := by
    rw [Bool.eq_iff_iff, List.all_eq_true, decide_eq_true_eq]
    constructor
    · intro h
      apply List.ext_getElem (by omega)
      intro j hj1 hj2
      have := h j (by simp; omega)
      have := bz_inj (by simpa using this)
      simpa [at8, List.getD_eq_getElem?_getD, List.getElem?_eq_getElem hj1, List.getElem?_eq_getElem hj2] using this
    · intro h; subst h; simp
  rw [e]
theorem run_part_int {P : Program} (T : TypeId) {k : IntKind} (hT : P.underlying T = some (.int k)) (cs : Array Value) (off : Nat) (v : Value) (hv : cs[off]? = some v) (w : World) : (part T cs off).run P w = .ok v w := by
  simp [part, isAgg, run_underlying hT, hv]
theorem run_part_arr {P : Program} (T E : TypeId) (n : Nat) (hT : P.underlying T = some (.array n E)) (hs : (P.info? T).map (·.size) = some n) (cs : Array Value) (off : Nat) (w : World) : (part T cs off).run P w = .ok (.agg (cs.extract off (off + n))) w := by
  have hsz : (sizeOf T).run P w = .ok n w := by
    cases hq : P.info? T with
    | none => simp [hq] at hs
    | some i =>
      have hi : i.size = n := by simpa [hq] using hs
      simp [sizeOf, typeInfo, hq, hi]
  simp [part, isAgg, run_underlying hT, hsz]
instance : DecidableEq Chg := fun a b => decidable_of_iff (a.at_ = b.at_ ∧ a.what = b.what) ⟨fun ⟨h1, h2⟩ => by cases a; cases b; simp_all, fun h => by rw [h]; exact ⟨rfl, rfl⟩⟩
theorem chg_eq_iff (a b : Chg) : a = b ↔ a.at_ = b.at_ ∧ a.what = b.what := ⟨fun h => by rw [h]; exact ⟨rfl, rfl⟩, fun ⟨h1, h2⟩ => by cases a; cases b; simp_all⟩
theorem chg_extract {c : Chg} (h : c.what.length = 64) : (chgC c).toArray.extract 1 (1 + 64) = (c.what.map cu8).toArray := by
  have : (c.what.map cu8).take 64 = c.what.map cu8 := List.take_of_length_le (by simp [h])
  simp [chgC, this]
section
variable (c1 c2 : Chg) (h1 : c1.what.length = 64) (h2 : c2.what.length = 64) (w : World)
include h1 h2 in
theorem eqChg_ring_d (d : Nat) : (Op.equalIn (d + 4) 194 (.agg (chgC c1).toArray) (.agg (chgC c2).toArray)).run Tryz.prog w = .ok (decide (c1 = c2)) w := by
  have x1 := chg_extract h1
  have x2 := chg_extract h2
  have hi := run_itemsD (P := Tryz.prog) d 33 5 64 Tryz.underlying33 Tryz.underlying5 (by kernel_rfl) c1.what c2.what h1 h2 w
  have p1 := run_part_int (P := Tryz.prog) 3 Tryz.underlying3 (chgC c1).toArray 0 (.int .i64 c1.at_) rfl w
  have p2 := run_part_int (P := Tryz.prog) 3 Tryz.underlying3 (chgC c2).toArray 0 (.int .i64 c2.at_) rfl w
  have q1 := run_part_arr (P := Tryz.prog) 33 5 64 Tryz.underlying33 info64 (chgC c1).toArray 1 w
  have q2 := run_part_arr (P := Tryz.prog) 33 5 64 Tryz.underlying33 info64 (chgC c2).toArray 1 w
  rw [x1] at q1
  rw [x2] at q2
  have hn := run_equalIn_int (P := Tryz.prog) w (d + 2) 3 .i64 .i64 c1.at_ c2.at_ Tryz.underlying3
  rw [run_equalIn_struct w (d + 3) 194 _ _ (by kernel_rfl) (by kernel_rfl)]
  simp only [Program.fieldsOf, Tryz.underlying194, Op.eqFields]
  rw [if_pos (by decide), if_pos (by decide)]
  simp only [Sem.run_bind, Sem.run_ite, p1, p2, Result.andThen_ok, hn, Sem.run_pure]
  rw [q1, Result.andThen_ok, q2, Result.andThen_ok, hi, Result.andThen_ok]
  have hd : decide (c1 = c2) = (((c1.at_ : Int) == (c2.at_ : Int)) && decide (c1.what = c2.what)) := by
    rw [Bool.eq_iff_iff, decide_eq_true_eq, chg_eq_iff, Bool.and_eq_true, decide_eq_true_eq, beq_iff_eq, Int.ofNat_inj]
  rw [hd]
  cases ((c1.at_ : Int) == (c2.at_ : Int)) <;> cases decide (c1.what = c2.what) <;> simp
include h1 h2 in
end
theorem mk_eq_iff (a b : Mk) : a = b ↔ a.place = b.place ∧ a.num = b.num ∧ a.last = b.last := ⟨fun h => by rw [h]; exact ⟨rfl, rfl, rfl⟩, fun ⟨h1, h2, h3⟩ => by cases a; cases b; simp_all⟩
instance : DecidableEq Mk := fun a b => decidable_of_iff _ (mk_eq_iff a b).symm
theorem mark_extract {m : Mk} (h : m.last.length = 32) : (markCells m).toArray.extract 2 (2 + 32) = (m.last.map cu8).toArray := by
  have : (m.last.map cu8).take 32 = m.last.map cu8 := List.take_of_length_le (by simp [h])
  simp [markCells, this]
section
variable (m1 m2 : Mk) (h1 : m1.last.length = 32) (h2 : m2.last.length = 32) (w : World)
include h1 h2 in
theorem eqMark_ring_d (d : Nat) : (Op.equalIn (d + 4) 156 (.agg (markCells m1).toArray) (.agg (markCells m2).toArray)).run Tryz.prog w = .ok (decide (m1 = m2)) w := by
  have hi := run_itemsD (P := Tryz.prog) d 56 5 32 Tryz.underlying56 Tryz.underlying5 (by kernel_rfl) m1.last m2.last h1 h2 w
  have p1 := run_part_int (P := Tryz.prog) 3 Tryz.underlying3 (markCells m1).toArray 0 (.int .i64 m1.place) rfl w
  have p2 := run_part_int (P := Tryz.prog) 3 Tryz.underlying3 (markCells m2).toArray 0 (.int .i64 m2.place) rfl w
  have r1 := run_part_int (P := Tryz.prog) 104 Tryz.underlying104 (markCells m1).toArray 1 (.int .u64 m1.num) rfl w
  have r2 := run_part_int (P := Tryz.prog) 104 Tryz.underlying104 (markCells m2).toArray 1 (.int .u64 m2.num) rfl w
  have q1 := run_part_arr (P := Tryz.prog) 56 5 32 Tryz.underlying56 (by kernel_rfl) (markCells m1).toArray 2 w
  have q2 := run_part_arr (P := Tryz.prog) 56 5 32 Tryz.underlying56 (by kernel_rfl) (markCells m2).toArray 2 w
  rw [mark_extract h1] at q1
  rw [mark_extract h2] at q2
  have hn := run_equalIn_int (P := Tryz.prog) w (d + 2) 3 .i64 .i64 m1.place m2.place Tryz.underlying3
  have hu := run_equalIn_int (P := Tryz.prog) w (d + 2) 104 .u64 .u64 m1.num m2.num Tryz.underlying104
  rw [run_equalIn_struct w (d + 3) 156 _ _ (by kernel_rfl) (by kernel_rfl)]
  simp only [Program.fieldsOf, Tryz.underlying156, Op.eqFields]
  rw [if_pos (by decide), if_pos (by decide), if_pos (by decide)]
  simp only [Sem.run_bind, Sem.run_ite, p1, p2, r1, r2, Result.andThen_ok, hn, hu, Sem.run_pure]
  rw [q1, Result.andThen_ok, q2, Result.andThen_ok, hi, Result.andThen_ok]
  have hd : decide (m1 = m2) = (((m1.place : Int) == (m2.place : Int)) && (((m1.num : Int) == (m2.num : Int)) && decide (m1.last = m2.last))) := by
    rw [Bool.eq_iff_iff, decide_eq_true_eq, mk_eq_iff, Bool.and_eq_true, Bool.and_eq_true, decide_eq_true_eq, beq_iff_eq, beq_iff_eq, Int.ofNat_inj, Int.ofNat_inj]
  rw [hd]
  cases ((m1.place : Int) == (m2.place : Int)) <;> cases ((m1.num : Int) == (m2.num : Int)) <;> cases decide (m1.last = m2.last) <;> simp
include h1 h2 in
end
theorem eqChg_ring {a b : Chg} (h1 : a.what.length = 64) (h2 : b.what.length = 64) (w : World) : (Op.equalIn 10000 194 (.agg (chgC a).toArray) (.agg (chgC b).toArray)).run Tryz.prog w = .ok (decide (a = b)) w := eqChg_ring_d a b h1 h2 w 9996
theorem eqMark_ring {a b : Mk} (h1 : a.last.length = 32) (h2 : b.last.length = 32) (w : World) : (Op.equalIn 10000 156 (.agg (markCells a).toArray) (.agg (markCells b).toArray)).run Tryz.prog w = .ok (decide (a = b)) w := eqMark_ring_d a b h1 h2 w 9996
end Go.Proofs.YtjkkbceddbkejaaGreatDoor

/-
  The law's own: few, changes, told, mark.
-/
namespace Go.Proofs.YtjkkbceddbkejaaGreatDoor
open Go.RowKit Sh Go.Extern.Stop Go.Stop Go.Extern

def page3 (a b c : UInt8) : List Value := cu8 a :: cu8 b :: cu8 c :: List.replicate 61 (cu8 0)
theorem built_three (a b c : UInt8) : Tryz.prog.built 33 [(0, cu8 a), (1, cu8 b), (2, cu8 c)] = some (page3 a b c).toArray := by kernel_rfl
theorem page3_ok (a b c : UInt8) : IsPage (page3 a b c) := ⟨by simp [page3], fun v hv => by
  simp only [page3, List.mem_cons, List.mem_replicate] at hv
  rcases hv with rfl | rfl | rfl | ⟨_, rfl⟩ <;> rfl⟩
/-- '[]T{x}' of a value of some cells. -/
theorem wpList_row1 {ops : Array Oper} {Q : Exit → Act → World → Prop} {a : Act} {w : World} {o : Oper} {rest : List Oper} (ST T : TypeId) (x : Operand) (hgd : o.guard = none) (ho : o.op = .buildSlice ST 1 #[(0, x)]) (c : List Value) (n : Nat) (z : List Value) (bytes : Nat)
    (hST : Tryz.prog.underlying ST = some (.slice T)) (hinfo : (Tryz.prog.info? T).map (fun i => (i.zero, i.size, i.bytes)) = some (some (.agg z.toArray), n, bytes)) (hn : 0 < n) (hn2 : n ≤ 100) (hz : z.length = n) (hc : c.length = n) (hx : a.eval x = .agg c.toArray)
    (h : wpList Tryz.prog ops Q rest (a.put o.dst (.slice (some ⟨w.heap.size, 0, none⟩) 1 1)) (w.alloc (.cells c.toArray T))) : wpList Tryz.prog ops Q (o :: rest) a w := by
  refine wpList_plain hgd fun K hK => ?_
  obtain ⟨i, hi, hzz⟩ := Option.map_eq_some_iff.1 hinfo
  simp only [Prod.mk.injEq] at hzz
  obtain ⟨hz0, hs, hb⟩ := hzz
  refine wp_buildSlice (P := Tryz.prog) ST T 1 _ ho c.toArray i _ hST hi hz0 (by rw [hs]; omega) (by rw [hs]; omega) ?_ (hK _ _ h)
  rw [hs]
  have hl : ((#[(0, x)] : Array (Nat × Operand)).map fun (i, x) => (i, a.eval x)).toList = [(0, .agg c.toArray)] := by simp [hx]
  rw [hl]
  have hf := Great.fill_whole (s := n) hn [.agg c.toArray] ((Array.range (1 * n)).map ((Value.agg z.toArray).cells[· % (Value.agg z.toArray).cells.size]!)) (fun v hv => by
    obtain rfl := List.mem_singleton.1 hv
    show c.toArray.size = n
    rw [List.size_toArray]; exact hc) (by simp)
  simpa [Value.cells] using hf
def rowsC (l : List Chg) : List Value := (l.map chgC).flatten
theorem rowsC_snoc (l : List Chg) (c : Chg) : rowsC (l ++ [c]) = rowsC l ++ chgC c := by simp [rowsC]
/-- Changes in a row that a call made. -/
theorem chgs_of_own {w : World} {B : Nat} {T : TypeId} {ap : Option Addr} {n cp : Nat} {l : List Chg} (hw : ∀ c ∈ l, c.what.length = 64) (hl : l.length = n) (h : w.ownsRow B T 65 (.slice ap n cp) n (rowsC l)) : Chgs w.heap.size w ap l := by
  rcases h.2 with ⟨hv, h0⟩ | ⟨g, cap, cur, hv, _, hg, _⟩
  · left; rw [h0] at hl; exact List.length_eq_zero_iff.1 hl
  · simp only [Value.slice.injEq] at hv
    obtain ⟨rfl, _, rfl⟩ := hv
    refine .inr ⟨g, rfl, (Array.getElem?_eq_some_iff.1 hg).1, fun i c hi j v hj => ?_⟩
    have h65 := chgC_len (hw c (List.mem_of_getElem? hi))
    have hj65 : j < 65 := by rw [← h65]; exact (List.getElem?_eq_some_iff.1 hj).1
    have hin : i < n := by rw [← hl]; exact (List.getElem?_eq_some_iff.1 hi).1
    rw [h.cellAt (i * 65 + j) (by have : (i + 1) * 65 ≤ n * 65 := Nat.mul_le_mul_right 65 hin
                                  omega)]
    have := flat_getM 65 (pgs := l.map chgC) (fun p hp => by obtain ⟨x, hx, rfl⟩ := List.mem_map.1 hp; exact chgC_len (hw x hx)) i (chgC c) (by rw [List.getElem?_map, hi]; rfl) j hj65
    exact this.trans hj
def OwnP (T : TypeId) (l : List Chg) (w : World) (e : Ending) (w' : World) : Prop :=
  ∃ ap cp, e = .returned (.slice ap l.length cp) ∧ w'.ownsRow w.heap.size T 65 (.slice ap l.length cp) l.length (rowsC l) ∧ Below w.heap.size w w'
/-- Behind an append to a row of the call's own. -/
theorem below_own {B : Nat} {w a b : World} {v : Value} {e : TypeId} {s n : Nat} {xs : List Value} (h : Below B w a) (hv : a.ownsRow B e s v n xs) (hg : a.grownBy b v.ownBlock) (hB : B ≤ a.heap.size) : Below B w b :=
  h.trans ⟨hg.os, hg.tape, hg.output, hg.size, fun k hk => hg.block k (by omega) (fun e => by have := hv.lt k e.symm; omega)⟩
def chg1 (n X i : Nat) : Chg := ⟨X + 3 * i, UInt8.ofNat X :: UInt8.ofNat i :: UInt8.ofNat n :: List.replicate 61 0⟩
theorem chgC_chg1 (n X i : Nat) : chgC (chg1 n X i) = .int .i64 ((X + 3 * i : Nat) : Int) :: page3 (UInt8.ofNat X) (UInt8.ofNat i) (UInt8.ofNat n) := by
  simp [chgC, chg1, page3]
def chgsK (n X k : Nat) : List Chg := (List.range k).map (chg1 n X)
theorem chgsK_all (n X : Nat) : chgsK n X n = chgs n X := rfl
theorem chgsK_succ (n X k : Nat) : chgsK n X (k + 1) = chgsK n X k ++ [chg1 n X k] := by simp [chgsK, List.range_succ]
theorem chgsK_length (n X k : Nat) : (chgsK n X k).length = k := by simp [chgsK]
end Go.Proofs.YtjkkbceddbkejaaGreatDoor

/-
  The law's own: told, mark.
-/
namespace Go.Proofs.YtjkkbceddbkejaaGreatDoor
open Go.RowKit Sh Go.Extern.Stop Go.Stop Go.Extern

theorem allocChg (w : World) : (Instr.alloc 194 true (.tuple #[])).run Tryz.prog w = .ok (.pointer (some ⟨w.heap.size, 0, none⟩)) (w.alloc (.cells zChg.toArray 194)) := by kernel_rfl
end Go.Proofs.YtjkkbceddbkejaaGreatDoor

/-
  The law's own: same.
-/
namespace Go.Proofs.YtjkkbceddbkejaaGreatDoor
open Go.RowKit Sh Go.Extern.Stop Go.Stop Go.Extern

/-- Records in a row of slices. -/
structure RecsV (N : Nat) (w : World) (vp : Option Addr) (rs : List (List Chg)) : Prop where
  what : ∀ l ∈ rs, ∀ c ∈ l, c.what.length = 64
  len : ∀ l ∈ rs, l.length ≤ 4096
  lies : rs = [] ∨ ∃ g, vp = some ⟨g, 0, none⟩ ∧ g < N ∧ ∀ i l, rs[i]? = some l → ∃ bp cap, w.cell? ⟨g, i, none⟩ = some (Value.slice bp l.length cap) ∧ Chgs N w bp l
theorem RecsV.below {N : Nat} {w w' : World} {vp : Option Addr} {rs : List (List Chg)} (h : RecsV N w vp rs) (hb : Below N w w') : RecsV N w' vp rs :=
  ⟨h.what, h.len, h.lies.imp id fun ⟨g, e, hN, hr⟩ => ⟨g, e, hN, fun i l hi => by obtain ⟨bp, cap, h1, h2⟩ := hr i l hi; exact ⟨bp, cap, (hb.cell (p := ⟨g, i, none⟩) hN).trans h1, h2.below hb⟩⟩⟩
theorem RecsV.mono {N M : Nat} {w : World} {vp : Option Addr} {rs : List (List Chg)} (h : RecsV N w vp rs) (hM : N ≤ M) : RecsV M w vp rs :=
  ⟨h.what, h.len, h.lies.imp id fun ⟨g, e, hN, hr⟩ => ⟨g, e, Nat.lt_of_lt_of_le hN hM, fun i l hi => by obtain ⟨bp, cap, h1, h2⟩ := hr i l hi; exact ⟨bp, cap, h1, h2.mono hM⟩⟩⟩
theorem RecsV.nil (N : Nat) (w : World) (vp : Option Addr) : RecsV N w vp [] := ⟨fun l h => by simp at h, fun l h => by simp at h, .inl rfl⟩
/-- What find found. -/
theorem recsV_of {w : World} {B C : Nat} {ap : Option Addr} {cp : Nat} {vs : List Value} {rs : List (List Chg)} (hw : ∀ l ∈ rs, ∀ c ∈ l, c.what.length = 64) (hl : ∀ l ∈ rs, l.length ≤ 4096)
    (ho : w.ownsRow B 162 1 (.slice ap rs.length cp) rs.length vs) (hr : RecsOk C w vs rs) : RecsV w.heap.size w ap rs := by
  refine ⟨hw, hl, ?_⟩
  rcases ho.2 with ⟨hv, h0⟩ | ⟨g, cap, cur, hv, _, hg, _⟩
  · left; exact List.length_eq_zero_iff.1 h0
  · simp only [Value.slice.injEq] at hv
    obtain ⟨rfl, _, rfl⟩ := hv
    refine .inr ⟨g, rfl, (Array.getElem?_eq_some_iff.1 hg).1, fun i l hi => ?_⟩
    obtain ⟨b, _, hvi, hb⟩ := hr.2 i l hi
    have hin : i < rs.length := (List.getElem?_eq_some_iff.1 hi).1
    refine ⟨some ⟨b, 0, none⟩, l.length, ?_, chgs_of_row (hw l (List.mem_of_getElem? hi)) hb⟩
    rw [ho.cellAt i (by omega), hvi]
def SayB (b : Bool) (w : World) (e : Ending) (w' : World) : Prop := e = .returned (.bool b) ∧ Below w.heap.size w w'
theorem take_eq_next {α : Type} {a b : List α} {k : Nat} (h : a.take k = b.take k) {x y : α} (hx : a[k]? = some x) (hy : b[k]? = some y) (e : x = y) : a.take (k + 1) = b.take (k + 1) := by
  rw [List.take_add_one, List.take_add_one, h, hx, hy, e]
end Go.Proofs.YtjkkbceddbkejaaGreatDoor

/-
  Images of new, flushed, crashed disks; what is found on them.
-/
namespace Go.Proofs.YtjkkbceddbkejaaGreatDoor
open Go.RowKit Sh

theorem imgB_new (D : Nat) : imgB (newS D) = List.replicate D z64 := by
  unfold imgB St.newest newS
  show (flushS (List.replicate D zeroPage) [] []).map bytesOf = _
  have : flushS (List.replicate D zeroPage) [] [] = List.replicate D zeroPage := rfl
  rw [this, List.map_replicate]
  have e : bytesOf zeroPage = z64 := by
    have h : zeroPage = z64.map cu8 := by unfold z64; rw [List.map_replicate]; rfl
    rw [h, bytesOf_cu8]
  rw [e]
theorem clean_new {D first n : Nat} (m : Mk) (h : first + n ≤ D) (hn : 0 < n) : Clean n (pgOf (imgB (newS D)) first n) m [] := fun d _ _ => by
  have := Nat.mod_lt (m.place + d) hn
  rw [imgB_new]
  unfold pgOf
  rw [List.getD_eq_getElem?_getD, List.getElem?_replicate, if_pos (by omega)]
  rfl
theorem open_laid {n : Nat} {pg : Nat → List UInt8} (hp : ∀ i d, pg (i % n + d) = pg (i + d)) {m : Mk} {a : List (List Chg)} (h : LaidR n pg m a) (hf : ∀ l ∈ a, Fit l) (ht : takesAll a ≤ n) (he : ¬ begins pg (n - takesAll a) (lastOf n m a)) :
    openAll n pg n n m = (a, lastOf n m a, n - takesAll a) := by
  rw [openAll_laid h hf ht (Nat.le_refl _), openAll_stop (fun hh => he hh.1)]
  simp
theorem open_new {D first n : Nat} (m : Mk) (h : first + n ≤ D) (hn : 0 < n) : openAll n (pgOf (imgB (newS D)) first n) n n m = ([], m, n) := by
  have hc := clean_new m h hn
  have := open_laid (n := n) (pg := pgOf (imgB (newS D)) first n) (pgOf_mod_add _ _ _) (m := m) (a := []) trivial (fun l h => by simp at h) (by simp [takesAll]) (clean_ends (pgOf_mod_add _ _ _) hc (by simp [takesAll]))
  simpa [takesAll, lastOf] using this
theorem flush_lit {S : St} (h : Lit S) : (flushOf S).2 = 0 ∧ Lit (flushOf S).1 ∧ imgB (flushOf S).1 = imgB S ∧ (flushOf S).1.ats = [] := by
  have hno : ¬ (S.off = true ∨ S.fuel = 0) := by rw [h.on, h.fuel]; simp
  unfold flushOf
  rw [if_neg hno]
  refine ⟨rfl, ⟨rfl, ?_⟩, rfl, rfl⟩
  show (stepS S.fuel false).1 = -1
  rw [h.fuel]; rfl
theorem crash_flushed {S : St} (h : S.ats = []) (pick : List Int) : imgB (crashOf S pick) = imgB S ∧ Lit (crashOf S pick) := by
  refine ⟨?_, rfl, rfl⟩
  unfold imgB St.newest crashOf
  rw [h]
  show (flushS (crashS 0 S.firm [] S.what pick) [] []).map bytesOf = (flushS S.firm [] S.what).map bytesOf
  cases S.what <;> simp [crashS, flushS]
theorem crash_lit (S : St) (pick : List Int) : Lit (crashOf S pick) := ⟨rfl, rfl⟩
def m00 : Mk := ⟨0, 0, List.replicate 32 0⟩
theorem zMark_m00 : zMark = markCells m00 := rfl
theorem fit_found {n : Nat} {pg : Nat → List UInt8} (hp : ∀ i, (pg i).length = 64) : ∀ (f free : Nat) (m : Mk), ∀ l ∈ (openAll n pg f free m).1, (∀ c ∈ l, c.what.length = 64) ∧ l.length ≤ 60
  | 0, _, _, l, h => by simp [openAll] at h
  | f + 1, free, m, l, h => by
    unfold openAll at h
    split at h
    · rename_i hh
      rcases List.mem_cons.1 h with rfl | h
      · refine ⟨decode_what (fun p hq => by obtain ⟨i, _, rfl⟩ := List.mem_map.1 hq; exact hp _) (by simp [rest, takes]; omega), ?_⟩
        unfold found decode
        rw [List.length_map, List.length_range]
        exact hh.1.2.2.1
      · exact fit_found hp f _ _ l h
    · simp at h
theorem recsV_found {w : World} {B C n : Nat} {pg : Nat → List UInt8} (hp : ∀ i, (pg i).length = 64) {ap : Option Addr} {cp : Nat} {vs : List Value} {m : Mk} {f free : Nat}
    (ho : w.ownsRow B 162 1 (.slice ap (openAll n pg f free m).1.length cp) (openAll n pg f free m).1.length vs) (hr : RecsOk C w vs (openAll n pg f free m).1) : RecsV w.heap.size w ap (openAll n pg f free m).1 :=
  recsV_of (fun l hl => (fit_found hp f free m l hl).1) (fun l hl => by have := (fit_found hp f free m l hl).2; omega) ho hr
/-- What Open answers, as the laws use it. -/
def OpenV (gd first n : Nat) (a : List (List Chg)) (m : Mk) (used : Nat) (w : World) (e : Ending) (w' : World) : Prop :=
  ∃ g ap cp, e = .returned (.tuple #[.pointer (some ⟨g, 0, none⟩), .slice ap a.length cp, .nilIface]) ∧ w.heap.size ≤ g ∧ PrAt g gd first n m used w' ∧ RingOk first n m used ∧ RecsV w'.heap.size w' ap a ∧ Below w.heap.size w w'
theorem openv_any {gd first n : Nat} {m : Mk} {S : St} {F : Nat → Prop} {w : World} (hD : PD S F gd w) (hG : Good S) (hB : Byt S) (ho : S.off = false) (hin : first + n ≤ S.firm.length) (hn0 : 96 ≤ n) (hn1 : n ≤ 4096) (hpl : m.place < n) (hnum : m.num < 18446744073709551616) (hlast : m.last.length = 32)
    {a : List (List Chg)} {m2 : Mk} {free used : Nat} (hop : openAll n (pgOf (imgB S) first n) n n m = (a, m2, free)) (hu : n - used = free) (hu2 : used ≤ n) :
    Calls Tryz.prog 86 #[.pointer (some ⟨gd, 0, none⟩), .int .i64 first, .int .i64 n, .agg (markCells m).toArray] w (OpenV gd first n a m2 used w) := by
  refine (open_any hD hG hB ho hin hn0 hn1 hpl hnum hlast).mono ?_
  rintro e w' ⟨g, v, vs, used', rfl, hg, hring, hok, hfr, hown, hrecs, hbel⟩
  obtain ⟨ap, cp, rfl⟩ := row_form hown
  have hrv := recsV_found (fun i => pg_len hB hin (by omega) i) hown hrecs
  rw [hop] at hring hok hfr hrv
  have hfr2 : n - used' = free := hfr
  have hu3 := hok.used
  obtain rfl : used' = used := by omega
  have hlen : (openAll n (pgOf (imgB S) first n) n n m).1.length = a.length := by rw [hop]
  exact ⟨g, ap, cp, by rw [hlen], hg, hring, hok, hrv, hbel⟩
end Go.Proofs.YtjkkbceddbkejaaGreatDoor

/-
  The head of a record: what its first ten bytes say, by its number read back.
-/
namespace Go.Proofs.YtjkkbceddbkejaaGreatDoor
open Sh

theorem numFrom_le8 (x : Nat) (h : x < 18446744073709551616) : numFrom (le8 x) 0 = x := by
  simp [numFrom, le8, List.range_succ]; omega
theorem le8_numFrom (bs : List UInt8) (h : bs.length = 8) : le8 (numFrom bs 0) = bs := by
  match bs, h with
  | [a, b, c, d, e, f, g, i], _ =>
    have ha := a.toNat_lt; have hb := b.toNat_lt; have hc := c.toNat_lt; have hd := d.toNat_lt; have he := e.toNat_lt; have hf := f.toNat_lt; have hg := g.toNat_lt; have hi := i.toNat_lt
    have e1 : numFrom [a, b, c, d, e, f, g, i] 0 = a.toNat + 256 * (b.toNat + 256 * (c.toNat + 256 * (d.toNat + 256 * (e.toNat + 256 * (f.toNat + 256 * (g.toNat + 256 * i.toNat)))))) := by simp [numFrom]
    rw [e1]
    have key : ∀ (z : UInt8) (x : Nat), x % 256 = z.toNat → UInt8.ofNat x = z := fun z x hz => by
      apply UInt8.toNat_inj.1
      rw [UInt8.toNat_ofNat']; exact hz
    simp only [le8, List.range_succ, List.range_zero, List.nil_append, List.map_append, List.map_cons, List.map_nil, List.cons_append]
    refine congr (congrArg _ (key a _ (by omega))) (congr (congrArg _ (key b _ (by omega))) (congr (congrArg _ (key c _ (by omega))) (congr (congrArg _ (key d _ (by omega))) (congr (congrArg _ (key e _ (by omega))) (congr (congrArg _ (key f _ (by omega))) (congr (congrArg _ (key g _ (by omega))) (congr (congrArg _ (key i _ (by omega))) rfl)))))))
/-- The first ten bytes are a record's head just if the first is the sign and the next eight are the number. -/
theorem head_iff {p : List UInt8} (h : p.length = 64) {num : Nat} (hn : num < 18446744073709551616) : p.take 10 = head10 num (at8 p 9).toNat ↔ at8 p 0 = 84 ∧ numFrom ((p.drop 1).take 8) 0 = num := by
  have h8 : ((p.drop 1).take 8).length = 8 := by simp [h]
  have e10 : p.take 10 = at8 p 0 :: ((p.drop 1).take 8 ++ [at8 p 9]) := by
    match p, h with
    | a :: b :: c :: d :: e :: f :: g :: i :: j :: k :: r, _ => rfl
  have e9 : UInt8.ofNat (at8 p 9).toNat = at8 p 9 := by simp
  constructor
  · intro e
    rw [e10] at e
    unfold head10 at e
    rw [List.cons.injEq] at e
    refine ⟨e.1, ?_⟩
    have := (List.append_inj e.2 (by rw [h8]; rfl)).1
    rw [this, numFrom_le8 num hn]
  · rintro ⟨h0, h1⟩
    rw [e10, h0]
    unfold head10
    rw [← h1, le8_numFrom _ h8, e9]
end Go.Proofs.YtjkkbceddbkejaaGreatDoor
