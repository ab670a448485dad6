/-
  Pages of bytes: held against one another; a state whose pages are such.
-/
import Derived.Test.YtbmpbcnoclhhgaaDoorDkSt
import Derived.DeepKeys
import Derived.Laws.StructEq
namespace Go.Proofs.YtbmpbcnoclhhgaaDoor
open Go.RowKit Sh Go.Extern.Stop Go.Stop Go.Extern

theorem run_items {P : Program} (T E : TypeId) (n : Nat) (hT : P.underlying T = some (.array n E)) (hE : P.underlying E = some (.int .u8)) (hs : (P.info? E).map (·.size) = some 1)
    (l1 l2 : List UInt8) (h1 : l1.length = n) (h2 : l2.length = n) (w : World) :
    (Op.equalIn 10000 T (.agg (l1.map cu8).toArray) (.agg (l2.map cu8).toArray)).run P w = .ok (decide (l1 = l2)) w := by
  have hagg : (isAgg E).run P w = .ok false w := by
    unfold isAgg
    rw [Sem.run_bind, run_underlying hE w]
    rfl
  obtain ⟨i0, hi, hi1⟩ : ∃ i, P.info? E = some i ∧ i.size = 1 := by
    cases hq : P.info? E with
    | none => simp [hq] at hs
    | some i => exact ⟨i, rfl, by simpa [hq] using hs⟩
  have hp : ∀ (l : List UInt8), l.length = n → ∀ k, k < n → (part E (l.map cu8).toArray k).run P w = .ok (.int .u8 (bz (at8 l k))) w := fun l hl k hk => by
    have hk' : k < l.length := by omega
    have hv : (l.map cu8).toArray[k]? = some (.int .u8 (bz (at8 l k))) := by
      rw [List.getElem?_toArray, List.getElem?_map, List.getElem?_eq_getElem hk', at8, List.getD_eq_getElem?_getD, List.getElem?_eq_getElem hk']; rfl
    unfold part
    rw [Sem.run_bind, hagg]
    simp only [Result.andThen_ok, hv, Bool.false_eq_true, if_false]
    simp
  have hitems : ∀ (d : Nat) (is : List Nat), (∀ k ∈ is, k < n) → (Op.eqItems (d + 1) E 1 (l1.map cu8).toArray (l2.map cu8).toArray is).run P w = .ok (is.all fun k => bz (at8 l1 k) == bz (at8 l2 k)) w := fun d is => by
    induction is with
    | nil => intro _; simp [Op.eqItems]
    | cons k is ih =>
      intro h
      have hk := h k (by simp)
      have ih' := ih (fun j hj => h j (by simp [hj]))
      simp only [Op.eqItems, Nat.mul_one, Sem.run_bind, hp l1 h1 k hk, hp l2 h2 k hk, Result.andThen_ok, run_equalIn_int w d E .u8 .u8 (bz (at8 l1 k)) (bz (at8 l2 k)) hE]
      cases hb : bz (at8 l1 k) == bz (at8 l2 k)
      · simp [hb]
      · simpa [hb] using ih'
  have hc : P.cellsOf E = 1 := by simp [Program.cellsOf, hi, hi1]
  rw [run_equalIn_array w 9999 _ _ hT hi, hc, hitems 9998 _ (fun k hk => by simpa using hk)]
  have e : ((List.range n).all fun k => bz (at8 l1 k) == bz (at8 l2 k)) = decide (l1 = l2) := by
    rw [Bool.eq_iff_iff, List.all_eq_true, decide_eq_true_eq]
    constructor
    · intro h
      apply List.ext_getElem (by omega)
      intro j hj1 hj2
      have := h j (by simp; omega)
      have := bz_inj (by simpa using this)
      simpa [at8, List.getD_eq_getElem?_getD, List.getElem?_eq_getElem hj1, List.getElem?_eq_getElem hj2] using this
    · intro h; subst h; simp
  rw [e]

/-- A page of bytes. -/
def BP (p : List Value) : Prop := ∃ l : List UInt8, l.length = 64 ∧ p = l.map cu8
theorem BP.page {p : List Value} (h : BP p) : IsPage p := by
  obtain ⟨l, hl, rfl⟩ := h
  exact ⟨by simp [hl], fun v hv => by obtain ⟨x, _, rfl⟩ := List.mem_map.1 hv; rfl⟩
theorem cu8_inj {l1 l2 : List UInt8} (h : l1.map cu8 = l2.map cu8) : l1 = l2 :=
  List.map_inj_right (f := cu8) (fun x y e => by simp only [cu8, Value.int.injEq, true_and] at e; exact bz_inj e) |>.1 h
theorem BP.eqIn {p q : List Value} (hp : BP p) (hq : BP q) : ∃ b : Bool, (b = true ↔ p = q) ∧ ∀ W : World, (Op.equalIn 10000 42 (.agg p.toArray) (.agg q.toArray)).run Tryd.prog W = .ok b W := by
  obtain ⟨l1, h1, rfl⟩ := hp
  obtain ⟨l2, h2, rfl⟩ := hq
  refine ⟨decide (l1 = l2), ?_, fun W => run_items (P := Tryd.prog) 42 5 64 Tryd.underlying42 Tryd.underlying5 (by kernel_rfl) l1 l2 h1 h2 W⟩
  rw [decide_eq_true_eq]
  exact ⟨fun h => by rw [h], cu8_inj⟩
theorem BP.same {p : List Value} (hp : BP p) (W : World) : (Op.equalIn 10000 42 (.agg p.toArray) (.agg p.toArray)).run Tryd.prog W = .ok true W := by
  obtain ⟨b, hb, h⟩ := hp.eqIn hp
  rw [hb.2 rfl] at h
  exact h W
theorem BP.eql {p : List Value} (hp : BP p) (W : World) : (binOp .eql 42 (.agg p.toArray) (.agg p.toArray)).run Tryd.prog W = .ok (.bool true) W := by
  rw [run_eql_struct, hp.same W]; rfl
theorem BP.neq {p : List Value} (hp : BP p) (W : World) : (binOp .neq 42 (.agg p.toArray) (.agg p.toArray)).run Tryd.prog W = .ok (.bool false) W := by
  rw [run_neq_struct, hp.same W]; rfl

theorem zero_bytes : BP zeroPage := ⟨List.replicate 64 0, List.length_replicate, by rw [List.map_replicate]; rfl⟩
/-- A page that begins with some bytes. -/
def page1 (a : UInt8) : List Value := cu8 a :: List.replicate 63 (cu8 0)
def page2 (a b : UInt8) : List Value := cu8 a :: cu8 b :: List.replicate 62 (cu8 0)
theorem page1_bytes (a : UInt8) : BP (page1 a) := ⟨a :: List.replicate 63 0, by simp, by simp [page1]⟩
theorem page2_bytes (a b : UInt8) : BP (page2 a b) := ⟨a :: b :: List.replicate 62 0, by simp, by simp [page2]⟩
theorem built_one (a : UInt8) : Tryd.prog.built 42 [(0, cu8 a)] = some (page1 a).toArray := by kernel_rfl
theorem built_two (a b : UInt8) : Tryd.prog.built 42 [(0, cu8 a), (1, cu8 b)] = some (page2 a b).toArray := by kernel_rfl

/-- All pages of a state are bytes. -/
def Byt (S : St) : Prop := (∀ p ∈ S.firm, BP p) ∧ ∀ p ∈ S.what, BP p
theorem byt_new (n : Nat) : Byt (newS n) := ⟨fun p hp => by rw [(List.mem_replicate.1 hp).2]; exact zero_bytes, fun p hp => by simp [newS] at hp⟩
theorem byt_write {S : St} (h : Byt S) (i : Int) {p : List Value} (hp : BP p) : Byt (writeOf S i p).1 := by
  unfold writeOf
  cases noWrite S.firm S.fuel S.off i with
  | some r => exact h
  | none => exact ⟨h.1, fun q hq => by
      rcases List.mem_append.1 hq with hq | hq
      · exact h.2 q hq
      · rw [List.mem_singleton.1 hq]; exact hp⟩
theorem flushS_mem : ∀ (ats : List Int) (what firm : List (List Value)), (∀ p ∈ firm, BP p) → (∀ p ∈ what, BP p) → ∀ p ∈ flushS firm ats what, BP p
  | [], _, _, h, _ => by simpa [flushS] using h
  | _ :: _, [], _, h, _ => by simpa [flushS] using h
  | a :: xs, q :: ys, firm, h, h2 => by
    simp only [flushS]
    refine flushS_mem xs ys _ (fun p hp => ?_) (fun p hp => h2 p (by simp [hp]))
    rcases List.mem_or_eq_of_mem_set hp with hp | rfl
    · exact h p hp
    · exact h2 _ (by simp)
theorem crashS_mem : ∀ (k : Nat) (ats : List Int) (what firm : List (List Value)) (pick : List Int), (∀ p ∈ firm, BP p) → (∀ p ∈ what, BP p) → ∀ p ∈ crashS k firm ats what pick, BP p
  | _, [], _, _, _, h, _ => by simpa [crashS] using h
  | _, _ :: _, [], _, _, h, _ => by simpa [crashS] using h
  | k, a :: xs, q :: ys, firm, pick, h, h2 => by
    simp only [crashS]
    refine crashS_mem (k + 1) xs ys _ pick (fun p hp => ?_) (fun p hp => h2 p (by simp [hp]))
    split at hp
    · rcases List.mem_or_eq_of_mem_set hp with hp | rfl
      · exact h p hp
      · exact h2 _ (by simp)
    · exact h p hp
theorem byt_flush {S : St} (h : Byt S) : Byt (flushOf S).1 := by
  unfold flushOf
  split
  · exact h
  · exact ⟨flushS_mem _ _ _ h.1 h.2, fun p hp => by simp at hp⟩
theorem byt_crash {S : St} (h : Byt S) (pick : List Int) : Byt (crashOf S pick) := ⟨crashS_mem 0 _ _ _ pick h.1 h.2, fun p hp => by simp [crashOf] at hp⟩
theorem byt_fuel {S : St} (h : Byt S) (n : Int) : Byt (fuelOf S n) := h
theorem byt_read {S : St} (h : Byt S) (i : Int) : BP (readOf S i).1 := by
  unfold readOf readN
  split
  · rw [List.getD_eq_getElem?_getD]
    cases hg : S.newest[i.toNat]? with
    | none => exact zero_bytes
    | some p => exact flushS_mem _ _ _ h.1 h.2 p (List.mem_of_getElem? hg)
  · exact zero_bytes

/-- An operation that only yields a value, guarded or not. -/
theorem wpList_val {P : Program} {ops : Array Oper} {Q : Exit → Act → World → Prop} {a : Act} {w : World} {o : Oper} {rest : List Oper} (hw : Region.wanted o (yielded ops a.tmps) = true) {v : Value} (hrun : (execOp a.eval o).run P w = .ok (.value v) w)
    (h : wpList P ops Q rest (a.put o.dst v) w) : wpList P ops Q (o :: rest) a w := by
  unfold wpList
  rw [if_pos hw]
  left
  unfold Oper.wp
  rw [hrun]
  exact h

theorem wpList_build1 {ops : Array Oper} {Q : Exit → Act → World → Prop} {a : Act} {w : World} {o : Oper} {rest : List Oper} (x : Operand) (ho : o.op = .build 42 #[(0, x)]) (v : Value) (hx : a.eval x = v) (p : Array Value)
    (hb : Tryd.prog.built 42 [(0, v)] = some p) (hw : Region.wanted o (yielded ops a.tmps) = true) (h : wpList Tryd.prog ops Q rest (a.put o.dst (.agg p)) w) : wpList Tryd.prog ops Q (o :: rest) a w := by
  refine wpList_val hw (exec_build w ho ?_) h
  have e : ((#[(0, x)] : Array (Nat × Operand)).map fun (i, x) => (i, a.eval x)).toList = [(0, v)] := by simp [hx]
  rw [e]; exact hb
theorem wpList_build2 {ops : Array Oper} {Q : Exit → Act → World → Prop} {a : Act} {w : World} {o : Oper} {rest : List Oper} (x y : Operand) (ho : o.op = .build 42 #[(0, x), (1, y)]) (v u : Value) (hx : a.eval x = v) (hy : a.eval y = u) (p : Array Value)
    (hb : Tryd.prog.built 42 [(0, v), (1, u)] = some p) (hw : Region.wanted o (yielded ops a.tmps) = true) (h : wpList Tryd.prog ops Q rest (a.put o.dst (.agg p)) w) : wpList Tryd.prog ops Q (o :: rest) a w := by
  refine wpList_val hw (exec_build w ho ?_) h
  have e : ((#[(0, x), (1, y)] : Array (Nat × Operand)).map fun (i, x) => (i, a.eval x)).toList = [(0, v), (1, u)] := by simp [hx, hy]
  rw [e]; exact hb
/-- A load of a page, guarded or not. -/
theorem wpList_load_page {ops : Array Oper} {Q : Exit → Act → World → Prop} {a : Act} {w : World} {o : Oper} {rest : List Oper} (x : Operand) (ho : o.op = .load 42 x) (b off : Nat) (hx : a.eval x = .pointer (some ⟨b, off, none⟩)) (p : Array Value)
    (hr : (Instr.loadAt 42 (.pointer (some ⟨b, off, none⟩))).run Tryd.prog w = .ok (.agg p) w) (hw : Region.wanted o (yielded ops a.tmps) = true) (h : wpList Tryd.prog ops Q rest (a.put o.dst (.agg p)) w) : wpList Tryd.prog ops Q (o :: rest) a w :=
  wpList_val hw (exec_load _ _ 42 x ho b off hx p hr) h

/-- A turn of a disk that the call made itself. -/
theorem PDTurn.next {S' : St} {n : Int} {F : Nat → Prop} {g B : Nat} {w0 w w' : World} {v : Value} (h : PDTurn S' n F g w v w') (hB : B ≤ w.heap.size) (hF : ∀ k, F k → B ≤ k) (hb : Below B w0 w) :
    ∃ F', ErrV w' n v ∧ PD S' F' g w' ∧ (∀ k, F' k → B ≤ k) ∧ Below B w0 w' := by
  obtain ⟨F', hE, hP, ho, hf⟩ := h
  exact ⟨F', hE, hP, fun k hk => (hf k hk).elim (hF k) (fun e => by omega), hb.trans (ho.base hB hF)⟩
theorem PDNew.next {S' : St} {B : Nat} {w0 w w' : World} {v : Value} (h : PDNew S' w v w') (hB : B ≤ w.heap.size) (hb : Below B w0 w) :
    ∃ g F, v = .pointer (some ⟨g, 0, none⟩) ∧ PD S' F g w' ∧ (∀ k, F k → w.heap.size ≤ k) ∧ Below B w0 w' := by
  obtain ⟨g, F, hv, hP, hb', hf⟩ := h
  exact ⟨g, F, hv, hP, hf, hb.trans (hb'.mono hB)⟩
theorem num_nil (w : World) : Calls Tryd.prog 12 #[.nilIface] w fun e w' => e = .returned (.int .i64 0) ∧ w' = w := by
  go_enter Tryd.func12, Tryd.ntmps12
  go_wp2
  go_ret
  exact ⟨rfl, rfl⟩
theorem ErrV.zero {w : World} {v : Value} (h : ErrV w 0 v) : v = .nilIface := h.elim (·.2) (fun h => absurd rfl h.1)
end Go.Proofs.YtbmpbcnoclhhgaaDoor
