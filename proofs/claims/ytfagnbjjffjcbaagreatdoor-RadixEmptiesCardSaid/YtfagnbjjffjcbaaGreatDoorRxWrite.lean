/-
  Package radix: write; a leaf that is none; New; what a book's transaction has then.
-/
import Derived.Test.YtfagnbjjffjcbaaGreatDoorRxGet
import Derived.Test.YtfagnbjjffjcbaaGreatDoorRxPage
import Derived.Test.YtfagnbjjffjcbaaGreatDoorBkOwnX
set_option linter.unusedSimpArgs false
set_option linter.unusedVariables false
namespace Go.Proofs.YtfagnbjjffjcbaaGreatDoor
open Go.RowKit Sh Go.Maps Go.Extern.Stop Go.Stop Go.Extern

def atN (l : List Nat) (k : Nat) : Int := ((l.getD k 0 : Nat) : Int)
theorem run_itemsN {P : Program} (T E : TypeId) (n : Nat) (hT : P.underlying T = some (.array n E)) (hE : P.underlying E = some (.int .i64)) (hs : (P.info? E).map (·.size) = some 1)
    (l1 l2 : List Nat) (h1 : l1.length = n) (h2 : l2.length = n) (w : World) :
    (Op.equalIn 10000 T (.agg (cellsL l1).toArray) (.agg (cellsL l2).toArray)).run P w = .ok (decide (l1 = l2)) w := by
  have hagg : (isAgg E).run P w = .ok false w := by
    unfold isAgg
    rw [Sem.run_bind, run_underlying hE w]
    rfl
  obtain ⟨i0, hi, hi1⟩ : ∃ i, P.info? E = some i ∧ i.size = 1 := by
    cases hq : P.info? E with
    | none => simp [hq] at hs
    | some i => exact ⟨i, rfl, by simpa [hq] using hs⟩
  have hp : ∀ (l : List Nat), l.length = n → ∀ k, k < n → (part E (cellsL l).toArray k).run P w = .ok (.int .i64 (atN l k)) w := fun l hl k hk => by
    have hk' : k < l.length := by omega
    have hv : (cellsL l).toArray[k]? = some (.int .i64 (atN l k)) := by
      rw [List.getElem?_toArray, cellsL, List.getElem?_map, List.getElem?_eq_getElem hk', atN, List.getD_eq_getElem?_getD, List.getElem?_eq_getElem hk']; rfl
    unfold part
    rw [Sem.run_bind, hagg]
    simp only [Result.andThen_ok, hv, Bool.false_eq_true, if_false]
    simp
  have hitems : ∀ (d : Nat) (is : List Nat), (∀ k ∈ is, k < n) → (Op.eqItems (d + 1) E 1 (cellsL l1).toArray (cellsL l2).toArray is).run P w = .ok (is.all fun k => atN l1 k == atN l2 k) w := fun d is => by
    induction is with
    | nil => intro _; simp [Op.eqItems]
    | cons k is ih =>
      intro h
      have hk := h k (by simp)
      have ih' := ih (fun j hj => h j (by simp [hj]))
      simp only [Op.eqItems, Nat.mul_one, Sem.run_bind, hp l1 h1 k hk, hp l2 h2 k hk, Result.andThen_ok, run_equalIn_int w d E .i64 .i64 (atN l1 k) (atN l2 k) hE]
      cases hb : atN l1 k == atN l2 k
      · simp [hb]
      · simpa [hb] using ih'
  have hc : P.cellsOf E = 1 := by simp [Program.cellsOf, hi, hi1]
  rw [run_equalIn_array w 9999 _ _ hT hi, hc, hitems 9998 _ (fun k hk => by simpa using hk)]
  have e : ((List.range n).all fun k => atN l1 k == atN l2 k) = decide (l1 = l2) := by
    rw [Bool.eq_iff_iff, List.all_eq_true, decide_eq_true_eq]
    constructor
    · intro h
      apply List.ext_getElem (by omega)
      intro j hj1 hj2
      have h3 := h j (by simp; omega)
      have h4 : atN l1 j = atN l2 j := by simpa using h3
      unfold atN at h4
      have h5 : l1.getD j 0 = l2.getD j 0 := by omega
      simpa [List.getD_eq_getElem?_getD, List.getElem?_eq_getElem hj1, List.getElem?_eq_getElem hj2] using h5
    · intro h; subst h; simp
  rw [e]
theorem eqLeaf (l1 l2 : List Nat) (h1 : l1.length = 16) (h2 : l2.length = 16) (W : World) : (binOp .eql 126 (.agg (cellsL l1).toArray) (.agg (cellsL l2).toArray)).run Tryz.prog W = .ok (.bool (decide (l1 = l2))) W := by
  rw [run_eql_struct, run_itemsN (P := Tryz.prog) 126 3 16 Tryz.underlying126 Tryz.underlying3 (by kernel_rfl) l1 l2 h1 h2 W]; rfl
/-- An answer, and what holds of it. -/
def TqP (P : Value → World → Prop) (e : Ending) (w' : World) : Prop := ∃ v, e = .returned v ∧ P v w'
section
variable {w : World} {x g first n : Nat}
set_option maxRecDepth 100000 in
set_option maxHeartbeats 8000000 in
theorem write_of (h : FoAt x g first n w) (q : List UInt8) (hql : q.length = 64) {P : Value → World → Prop}
    (hw : ∀ W, Below w.heap.size w W → Calls Tryz.prog 70 #[.pointer (some ⟨g, 0, none⟩), .int .i64 first, pageV q] W (TqP P)) :
    Calls Tryz.prog 68 #[.pointer (some ⟨x, 0, none⟩), pageV q] w (TqP P) := by
  obtain ⟨qv, Hqv⟩ : ∃ qv : List Value, Hid (qv = q.map cu8) := ⟨_, rfl⟩
  have hqV : pageV q = .agg qv.toArray := by rw [Hqv.out]; rfl
  have hqr : Hid ((Tryz.prog.info? 86).map (·.size) = some qv.length) := by have := rootsInfo hql; rw [← Hqv.out, List.size_toArray] at this; exact this
  rw [hqV] at hw ⊢
  have hb1 : Below w.heap.size w (w.alloc (.cells qv.toArray 86)) := (Below.refl _ _).alloc (Nat.le_refl _) _
  have hy1 : (w.alloc (.cells qv.toArray 86)).heap[w.heap.size]? = some (.cells qv.toArray 86 (0, 0)) := heap_alloc_new w _
  have h1 := h.below hb1
  have HwW := Lib.hid hw
  clear hw h hqV
  go_enter Tryz.func68, Tryz.ntmps68
  go_upto_region 1 with (fail)
  generalize w.alloc (.cells qv.toArray 86) = wr at hb1 hy1 h1 ⊢
  obtain ⟨y, hy⟩ : ∃ y, w.heap.size = y := ⟨_, rfl⟩
  rw [hy] at hy1 ⊢
  have hyl := (Array.getElem?_eq_some_iff.1 hy1).1
  have Hw := Lib.hid (fun W (hW : Below wr.heap.size wr W) => HwW.out W (hb1.trans (hW.mono hb1.size)))
  have HL := Lib.hid (fun W (hW : Below wr.heap.size wr W) => run_loadAt_mid (P := Tryz.prog) W y 0 86 qv _ (fun j v hj => by rw [Nat.zero_add, cell_of_row W y j _ _ _ ((hW.block y hyl).trans hy1)]; simpa using hj) Tryz.underlying86 rfl hqr.out)
  have HS := Lib.hid h1
  refine wp_region_up 9 (fun w' => Below wr.heap.size wr w') (by kernel_rfl) ?_
  have hb2 : Below wr.heap.size wr { wr with drawn := wr.drawn + 1 } := ⟨rfl, rfl, rfl, Nat.le_refl _, fun _ _ => rfl⟩
  obtain ⟨wd, hdr⟩ : ∃ wd : World, ({ wr with drawn := wr.drawn + 1 } : World) = wd := ⟨_, rfl⟩
  rw [hdr] at hb2 ⊢
  clear hdr HwW h1 hy hb1 hy1 hyl
  refine up_take (i := 0) (v := .pointer (some ⟨x, 0, none⟩)) rfl (by kernel_rfl) (by kernel_rfl) (fun _ _ _ h => h) (Or.inl ⟨by rfl, ?_⟩) hb2 ?_
  · intro w' _; go_simp
  try simp only [List.getElem_toArray, List.getElem_cons_succ, List.getElem_cons_zero, Act.put, List.setIfInBounds_toArray, List.set]
  refine up_take (i := 1) (v := .pointer (some ⟨x, 0, none⟩)) rfl (by kernel_rfl) (by kernel_rfl) (fun _ _ _ h => h) (Or.inl ⟨by rfl, ?_⟩) hb2 ?_
  · intro w' _; go_simp
  try simp only [List.getElem_toArray, List.getElem_cons_succ, List.getElem_cons_zero, Act.put, List.setIfInBounds_toArray, List.set]
  refine up_take (i := 2) (v := .pointer (some ⟨x, 0, none⟩)) rfl (by kernel_rfl) (by kernel_rfl) (fun _ _ _ h => h) (Or.inl ⟨by rfl, ?_⟩) hb2 ?_
  · intro w' _; go_simp
  try simp only [List.getElem_toArray, List.getElem_cons_succ, List.getElem_cons_zero, Act.put, List.setIfInBounds_toArray, List.set]
  refine up_take (i := 3) (v := .pointer (some ⟨g, 0, none⟩)) rfl (by kernel_rfl) (by kernel_rfl) (fun _ _ _ h => h) (Or.inl ⟨by rfl, ?_⟩) hb2 ?_
  · intro w' hS'
    obtain ⟨c0, c1, _⟩ := FoAt.cells (HS.out.below hS')
    clear hS'
    go_simp
  try simp only [List.getElem_toArray, List.getElem_cons_succ, List.getElem_cons_zero, Act.put, List.setIfInBounds_toArray, List.set]
  refine up_take (i := 4) (v := .pointer (some ⟨x, 0, none⟩)) rfl (by kernel_rfl) (by kernel_rfl) (fun _ _ _ h => h) (Or.inl ⟨by rfl, ?_⟩) hb2 ?_
  · intro w' _; go_simp
  try simp only [List.getElem_toArray, List.getElem_cons_succ, List.getElem_cons_zero, Act.put, List.setIfInBounds_toArray, List.set]
  refine up_take (i := 5) (v := .pointer (some ⟨x, 0, none⟩)) rfl (by kernel_rfl) (by kernel_rfl) (fun _ _ _ h => h) (Or.inl ⟨by rfl, ?_⟩) hb2 ?_
  · intro w' _; go_simp
  try simp only [List.getElem_toArray, List.getElem_cons_succ, List.getElem_cons_zero, Act.put, List.setIfInBounds_toArray, List.set]
  refine up_take (i := 6) (v := .pointer (some ⟨x, 1, none⟩)) rfl (by kernel_rfl) (by kernel_rfl) (fun _ _ _ h => h) (Or.inl ⟨by rfl, ?_⟩) hb2 ?_
  · intro w' _; go_simp
  try simp only [List.getElem_toArray, List.getElem_cons_succ, List.getElem_cons_zero, Act.put, List.setIfInBounds_toArray, List.set]
  refine up_take (i := 7) (v := .int .i64 first) rfl (by kernel_rfl) (by kernel_rfl) (fun _ _ _ h => h) (Or.inl ⟨by rfl, ?_⟩) hb2 ?_
  · intro w' hS'
    obtain ⟨c0, c1, _⟩ := FoAt.cells (HS.out.below hS')
    clear hS'
    go_simp
  try simp only [List.getElem_toArray, List.getElem_cons_succ, List.getElem_cons_zero, Act.put, List.setIfInBounds_toArray, List.set]
  refine up_take (i := 8) (v := .agg qv.toArray) rfl (by kernel_rfl) (by kernel_rfl) (fun _ _ _ h => h) (Or.inl ⟨by rfl, ?_⟩) hb2 ?_
  · intro w' hS'; exact exec_load _ _ 86 _ rfl y 0 rfl _ (HL.out w' hS')
  try simp only [List.getElem_toArray, List.getElem_cons_succ, List.getElem_cons_zero, Act.put, List.setIfInBounds_toArray, List.set]
  refine up_tail ?_
  refine up_last 9 _ rfl (by kernel_rfl) (by decide) (by rfl) (fun K hK => ?_)
  go_simp
  refine (Hw.out _ hb2).mono ?_
  rintro e w3 ⟨v, rfl, hP⟩
  refine hK _ _ ?_
  clear hK K
  try simp only [List.getElem_toArray, List.getElem_cons_succ, List.getElem_cons_zero, Act.put, List.setIfInBounds_toArray, List.set]
  refine up_last 10 _ rfl (by kernel_rfl) (by decide) (by rfl) (fun K hK => ?_)
  go_simp
  refine hK _ _ ?_
  clear hK K
  try simp only [List.getElem_toArray, List.getElem_cons_succ, List.getElem_cons_zero, Act.put, List.setIfInBounds_toArray, List.set]
  refine up_done (by kernel_rfl) ?_ _
  have Hfin := Lib.hid (show TqP P (.returned v) w3 from ⟨v, rfl, hP⟩)
  clear hP
  go_wp2
  first | exact Hfin.out | (go_ret; exact Hfin.out) | refine bodyPost_ret (v := v) (by simp [results, Tryz.results68, go_sem]) rfl Hfin.out
/-- New: what fits. -/
def NewRP (g first n : Nat) (w : World) (e : Ending) (w' : World) : Prop := ∃ x, e = .returned (.tuple #[.pointer (some ⟨x, 0, none⟩), .nilIface]) ∧ w' = w.alloc (foO g first n) ∧ x = w.heap.size
theorem rNew_ok {g P : Nat} (hp : Calls Tryz.prog 48 #[.pointer (some ⟨g, 0, none⟩)] w fun e w' => e = .returned (.int .i64 P) ∧ w = w') (hP : P ≤ 2048) (first n : Nat) (h1 : 1 ≤ n) (h3 : first + n < P) :
    Calls Tryz.prog 24 #[.pointer (some ⟨g, 0, none⟩), .int .i64 first, .int .i64 n] w (NewRP g first n w) := by
  have Hp := Lib.hid hp
  have k1 : ¬ ((first : Int) < 0) := by omega
  have k2 : ¬ ((n : Int) < 1) := by omega
  have k3 : ¬ (4095 < (n : Int)) := by omega
  have k4 : ¬ ((P : Int) - 1 - n < first) := by omega
  have w1 : IntKind.i64.wrap ((P : Int) - 1) = (P : Int) - 1 := IntWalk.i64_in _ (by omega)
  have w2 : IntKind.i64.wrap ((P : Int) - 1 - n) = (P : Int) - 1 - n := IntWalk.i64_in _ (by omega)
  have Hfin := Lib.hid (show NewRP g first n w (.returned (.tuple #[.pointer (some ⟨w.heap.size, 0, none⟩), .nilIface])) (w.alloc (.cells #[.pointer (some ⟨g, 0, none⟩), .int .i64 first, .int .i64 n] 94)) from ⟨_, rfl, rfl, rfl⟩)
  clear hp
  go_enter Tryz.func24, Tryz.ntmps24
  go_wp2_with (first
    | (go_at_call 48; refine Hp.out.mono ?_; rintro e w' ⟨rfl, rfl⟩))
  refine bodyPost_ret (v := .tuple #[.pointer (some ⟨w.heap.size, 0, none⟩), .nilIface]) (by simp [results, Tryz.results24, go_sem]) rfl ?_
  exact Hfin.out
def NoRad (n : Int) (w : World) (e : Ending) (w' : World) : Prop := ∃ v, e = .returned (.tuple #[.pointer none, v]) ∧ ErrV w' n v ∧ Below w.heap.size w w'
set_option maxHeartbeats 2000000 in
/-- New: what is refused. -/
theorem rNew_bad {g P : Nat} (hp : Calls Tryz.prog 48 #[.pointer (some ⟨g, 0, none⟩)] w fun e w' => e = .returned (.int .i64 P) ∧ w = w') (hP : P ≤ 2048) (first n : Int) (hf : -9223372036854775808 ≤ first ∧ first ≤ 9223372036854775807) (hbad : first < 0 ∨ n < 1 ∨ 4095 < n ∨ (P : Int) - 1 - n < first) :
    Calls Tryz.prog 24 #[.pointer (some ⟨g, 0, none⟩), .int .i64 first, .int .i64 n] w (NoRad 1 w) := by
  have Hp := Lib.hid hp
  have Hi := Lib.hid (in_err ⟨#[114, 97, 100, 105, 120, 46, 78, 101, 119]⟩ 1 (.iface 85 (.int .i64 1)) w (.inr ⟨by decide, [], rfl⟩))
  clear hp
  by_cases h1 : first < 0
  · clear hbad
    go_enter Tryz.func24, Tryz.ntmps24
    go_wp2_with (first
      | (go_at_call 40; refine Hi.out.mono ?_))
    rintro e w2 ⟨v2, rfl, hE2, hb2⟩
    have Hfin := Lib.hid (show NoRad 1 w (.returned (.tuple #[.pointer none, v2])) w2 from ⟨v2, rfl, hE2, hb2⟩)
    clear hE2 hb2 Hi
    go_wp2
    refine bodyPost_ret (v := .tuple #[.pointer none, v2]) (by simp [results, Tryz.results24, go_sem]) rfl Hfin.out
  by_cases h2 : n < 1
  · clear hbad
    go_enter Tryz.func24, Tryz.ntmps24
    go_wp2_with (first
      | (go_at_call 40; refine Hi.out.mono ?_))
    rintro e w2 ⟨v2, rfl, hE2, hb2⟩
    have Hfin := Lib.hid (show NoRad 1 w (.returned (.tuple #[.pointer none, v2])) w2 from ⟨v2, rfl, hE2, hb2⟩)
    clear hE2 hb2 Hi
    go_wp2
    refine bodyPost_ret (v := .tuple #[.pointer none, v2]) (by simp [results, Tryz.results24, go_sem]) rfl Hfin.out
  by_cases h3 : 4095 < n
  · clear hbad
    go_enter Tryz.func24, Tryz.ntmps24
    go_wp2_with (first
      | (go_at_call 40; refine Hi.out.mono ?_))
    rintro e w2 ⟨v2, rfl, hE2, hb2⟩
    have Hfin := Lib.hid (show NoRad 1 w (.returned (.tuple #[.pointer none, v2])) w2 from ⟨v2, rfl, hE2, hb2⟩)
    clear hE2 hb2 Hi
    go_wp2
    refine bodyPost_ret (v := .tuple #[.pointer none, v2]) (by simp [results, Tryz.results24, go_sem]) rfl Hfin.out
  have h4 : (P : Int) - 1 - n < first := by omega
  have w1 : IntKind.i64.wrap ((P : Int) - 1) = (P : Int) - 1 := IntWalk.i64_in _ (by omega)
  have w2 : IntKind.i64.wrap ((P : Int) - 1 - n) = (P : Int) - 1 - n := IntWalk.i64_in _ (by omega)
  clear hbad
  go_enter Tryz.func24, Tryz.ntmps24
  go_wp2_with (first
    | (go_at_call 48; refine Hp.out.mono ?_; rintro e w' ⟨rfl, rfl⟩)
    | (go_at_call 40; refine Hi.out.mono ?_))
  rintro e w2 ⟨v2, rfl, hE2, hb2⟩
  have Hfin := Lib.hid (show NoRad 1 w (.returned (.tuple #[.pointer none, v2])) w2 from ⟨v2, rfl, hE2, hb2⟩)
  clear hE2 hb2 Hi
  go_wp2
  refine bodyPost_ret (v := .tuple #[.pointer none, v2]) (by simp [results, Tryz.results24, go_sem]) rfl Hfin.out
end
section
variable {b : Bk} {gd g first n k : Nat} {o : Obj} {T : List (Nat × Obj)} {w0 w w' : World} {v : Nat → Nat}
/-- A block that was made since, beside a book. -/
theorem OwnX.hold (h : OwnX b gd g T w0 w) (hb : Below w.heap.size w w') (hk : w.heap.size ≤ k) (ho : w'.heap[k]? = some o) : OwnX b gd g ((k, o) :: T) w0 w' := by
  obtain ⟨Fd, gr, bn, bt, hi, hF⟩ := h.ex
  have hx := h.below hb
  refine ⟨⟨Fd, gr, bn, bt, hi.below hb, fun j hj => ⟨(hF j hj).1, fun y hy => ?_⟩⟩, hx.bel, fun y hy => ?_⟩
  · rcases List.mem_cons.1 hy with rfl | hy
    · have := hi.foot_lt hj
      show j ≠ k
      omega
    · exact (hF j hj).2 y hy
  · rcases List.mem_cons.1 hy with rfl | hy
    · exact ⟨ho, by have := h.bel.size; show w0.heap.size ≤ k; omega⟩
    · exact hx.arr y hy
theorem OwnX.reads (h : OwnX b gd g T w0 w) (hF : Fo b first n v) : Reads w g first n (contB b) := fun i hi W hW => by
  refine ((h.below hW).read hF.ok ((first + i : Nat) : Int)).mono ?_
  rintro e w' ⟨u, rfl, hE, _, hb⟩
  rw [hF.reads hi] at hE ⊢
  obtain rfl := ErrV.zero hE
  exact ⟨rfl, hb⟩
theorem OwnX.fo {x : Nat} (h : OwnX b gd g T w0 w) (hT : (x, foO g first n) ∈ T) : FoAt x g first n w := h.at_ hT
/-- One page is written. -/
theorem Fo.one (h : Fo b first n v) (ht : b.txn.length < 60) {p : List UInt8} (hp : p.length = 64) :
    ∃ t, bwriteOf b ((first : Nat) : Int) p = ({ b with txn := t }, 0) ∧ t.length ≤ b.txn.length + 1 ∧ ∀ v', Rep (upd (contB b) first p) first n v' → Fo { b with txn := t } first n v' := by
  obtain ⟨m0, rs, hd⟩ := h.ex
  have hr := h.room
  obtain ⟨t, e, d, l, c⟩ := hd.puts (i := first) (by omega) hp ht
  exact ⟨t, e, l, fun v' hv => ⟨⟨_, _, d⟩, hv.congr (fun i hi => c _ (by omega)), h.room⟩⟩
/-- Two are. -/
theorem Fo.two (h : Fo b first n v) (ht : b.txn.length < 59) {i : Nat} (hi : i ≤ n) {p q : List UInt8} (hp : p.length = 64) (hq : q.length = 64) :
    ∃ t1 t2, bwriteOf b ((first + i : Nat) : Int) p = ({ b with txn := t1 }, 0) ∧ ({ b with txn := t1 } : Bk).Ok ∧ bwriteOf { b with txn := t1 } ((first : Nat) : Int) q = ({ b with txn := t2 }, 0) ∧ t2.length ≤ b.txn.length + 2 ∧
      ∀ v', Rep (upd (upd (contB b) (first + i) p) first q) first n v' → Fo { b with txn := t2 } first n v' := by
  obtain ⟨m0, rs, hd⟩ := h.ex
  have hr := h.room
  obtain ⟨t1, e1, d1, l1, c1⟩ := hd.puts (i := first + i) (by omega) hp (by omega)
  obtain ⟨t2, e2, d2, l2, c2⟩ := d1.puts (i := first) (by show first < b.pages; omega) hq (by show t1.length < 60; omega)
  refine ⟨t1, t2, e1, d1.ok, e2, by have : t2.length ≤ t1.length + 1 := l2; omega, fun v' hv => ⟨⟨_, _, d2⟩, hv.congr (fun j hj => ?_), h.room⟩⟩
  rw [c2 _ (by show first + j < b.pages; omega)]
  unfold upd
  split
  · rfl
  · have := c1 (first + j) (by omega)
    unfold upd at this
    exact this
end
end Go.Proofs.YtfagnbjjffjcbaaGreatDoor
