/-
  Package prints: set, Set.
-/
import Derived.Test.YtopjhgpgompenaaGreatDoorPnGet
set_option linter.unusedSimpArgs false
set_option linter.unusedVariables false
namespace Go.Proofs.YtopjhgpgompenaaGreatDoor
open Go.RowKit Sh Go.Maps Go.Extern.Stop Go.Stop Go.Extern

def PSetP (k : Int) (Q : World → Prop) (e : Ending) (w' : World) : Prop := ∃ v, e = .returned v ∧ ErrV w' k v ∧ Q w'
theorem wpList_load_ent {ops : Array Oper} {Q : Exit → Act → World → Prop} {a : Act} {w : World} {o : Oper} {rest : List Oper} (x : Operand) (ho : o.op = .load 73 x) (b off : Nat) (hx : a.eval x = .pointer (some ⟨b, off, none⟩)) (p : Array Value)
    (hr : (Instr.loadAt 73 (.pointer (some ⟨b, off, none⟩))).run Tryz.prog w = .ok (.agg p) w) (hw : Region.wanted o (yielded ops a.tmps) = true) (h : wpList Tryz.prog ops Q rest (a.put o.dst (.agg p)) w) : wpList Tryz.prog ops Q (o :: rest) a w :=
  wpList_val hw (exec_load _ _ 73 x ho b off hx p hr) h
section
variable {b : Bk} {gd g first n x : Nat} {T : List (Nat × Obj)} {w0 w : World} {es : List Ent}
set_option maxRecDepth 100000 in
set_option maxHeartbeats 8000000 in
theorem OwnX.pset1 (h : OwnX b gd g T w0 w) (hT : (x, tabO g first n) ∈ T) (hTa : Ta b first n es) (hf : first ≤ 2000) (hn : n ≤ 2000) {i : Nat} (hi : i < n) {E : Ent} (hE : EntOk E) {t : List Chg}
    (ew : bwriteOf b ((first + i : Nat) : Int) (pgE E) = ({ b with txn := t }, 0)) :
    Calls Tryz.prog 83 #[.pointer (some ⟨x, 0, none⟩), .int .i64 i, entV E] w (PSetP 0 (fun w' => OwnX { b with txn := t } gd g T w0 w')) := by
  obtain ⟨ev, Hev⟩ : ∃ ev : List Value, Hid (ev = entC E) := ⟨_, rfl⟩
  have hV : entV E = .agg ev.toArray := by rw [Hev.out]; rfl
  have hel : ev.length = 34 := by rw [Hev.out]; exact entC_len hE.dg
  have hei2 : Hid ((Tryz.prog.info? 73).map (·.size) = some ev.length) := by rw [hel]; exact infoEnt
  rw [hV]
  have hb1 : Below w.heap.size w (w.alloc (.cells ev.toArray 73)) := (Below.refl _ _).alloc (Nat.le_refl _) _
  have hy1 : (w.alloc (.cells ev.toArray 73)).heap[w.heap.size]? = some (.cells ev.toArray 73 (0, 0)) := heap_alloc_new w _
  have hX1 := h.below hb1
  have Hhas := Lib.hid (phas_yes (hX1.tab hT) hi)
  have hrt := fun W => pright_yes E hE W
  rw [hV] at hrt
  have Hrt := Lib.hid hrt
  have hpg := fun W => ppage_any E hE W
  obtain ⟨P, hP⟩ : ∃ P, pgE E = P := ⟨_, rfl⟩
  obtain ⟨pv, Hpv⟩ : ∃ pv : List Value, Hid (pv = P.map cu8) := ⟨_, rfl⟩
  have hpV : pageV P = .agg pv.toArray := by rw [Hpv.out]; rfl
  rw [hP, hpV, hV] at hpg
  have Hpg := Lib.hid hpg
  have hl1 := Lib.hid (run_loadAt_mid (P := Tryz.prog) (w.alloc (.cells ev.toArray 73)) w.heap.size 0 73 ev _ (fun j v hj => by rw [Nat.zero_add, cell_of_row _ w.heap.size j _ _ _ hy1]; simpa using hj) Tryz.underlying73 rfl hei2.out)
  obtain ⟨A, hA⟩ : ∃ A, first + i = A := ⟨_, rfl⟩
  have hAI : (first : Int) + (i : Int) = (A : Int) := by omega
  have wA : IntKind.i64.wrap ((first : Int) + (i : Int)) = (A : Int) := by rw [IntWalk.i64_in _ (by omega)]; exact hAI
  have wA3 : IntKind.i64.wrap (A : Int) = (A : Int) := IntWalk.i64_in _ (by omega)
  have HX1 := Lib.hid hX1; have HA := Lib.hid hA; have HP := Lib.hid hP; have HpV := Lib.hid hpV
  clear h hX1 hrt hpg hP hpV hV hel hA
  go_enter Tryz.func83, Tryz.ntmps83
  go_wp2_with (first
    | (go_at_call 103; refine Hhas.out.mono ?_; rintro e w' ⟨rfl, rfl⟩)
    | (have _t := hl1; refine wpList_load_ent _ rfl w.heap.size 0 rfl _ hl1.out (by rfl) ?_; clear hl1)
    | (go_at_call 105; refine (Hrt.out _).mono ?_))
  rintro e w2 ⟨rfl, hb2⟩
  have hy2 := (hb2.block w.heap.size (Array.getElem?_eq_some_iff.1 hy1).1).trans hy1
  have hX2 := HX1.out.below hb2
  clear hb1 hb2 hy1 HX1 Hhas Hrt
  go_upto_region 3 with (fail)
  obtain ⟨y, hy⟩ : ∃ y, w.heap.size = y := ⟨_, rfl⟩
  rw [hy] at hy2 ⊢
  clear hy
  have hyl := (Array.getElem?_eq_some_iff.1 hy2).1
  have HL := Lib.hid (fun W (hW : Below w2.heap.size w2 W) => run_loadAt_mid (P := Tryz.prog) W y 0 73 ev _ (fun j v hj => by rw [Nat.zero_add, cell_of_row W y j _ _ _ ((hW.block y hyl).trans hy2)]; simpa using hj) Tryz.underlying73 rfl hei2.out)
  have Hwr := Lib.hid (fun W (hW : Below w2.heap.size w2 W) => (show Calls Tryz.prog 85 #[.pointer (some ⟨g, 0, none⟩), .int .i64 (A : Nat), .agg pv.toArray] W (OwnXP { b with txn := t } 0 gd g T w0) by
    have := hX2.pwrite hTa hE ew W hW
    rw [HA.out, HP.out, HpV.out] at this; exact this))
  have HS := Lib.hid (hX2.tab hT)
  clear hX2 hy2 hyl
  refine wp_region_up 12 (fun w' => Below w2.heap.size w2 w') (by kernel_rfl) ?_
  have hb5 : Below w2.heap.size w2 { w2 with drawn := w2.drawn + 1 } := ⟨rfl, rfl, rfl, Nat.le_refl _, fun _ _ => rfl⟩
  obtain ⟨wd, hdr⟩ : ∃ wd : World, ({ w2 with drawn := w2.drawn + 1 } : World) = wd := ⟨_, rfl⟩
  rw [hdr] at hb5 ⊢
  clear hdr
  refine up_take (i := 0) (v := .pointer (some ⟨x, 0, none⟩)) rfl (by kernel_rfl) (by kernel_rfl) (fun _ _ _ h => h) (Or.inl ⟨by rfl, ?_⟩) hb5 ?_
  · intro w' _; go_simp
  try simp only [List.getElem_toArray, List.getElem_cons_succ, List.getElem_cons_zero, Act.put, List.setIfInBounds_toArray, List.set]
  refine up_take (i := 1) (v := .pointer (some ⟨x, 0, none⟩)) rfl (by kernel_rfl) (by kernel_rfl) (fun _ _ _ h => h) (Or.inl ⟨by rfl, ?_⟩) hb5 ?_
  · intro w' _; go_simp
  try simp only [List.getElem_toArray, List.getElem_cons_succ, List.getElem_cons_zero, Act.put, List.setIfInBounds_toArray, List.set]
  refine up_take (i := 2) (v := .pointer (some ⟨x, 0, none⟩)) rfl (by kernel_rfl) (by kernel_rfl) (fun _ _ _ h => h) (Or.inl ⟨by rfl, ?_⟩) hb5 ?_
  · intro w' _; go_simp
  try simp only [List.getElem_toArray, List.getElem_cons_succ, List.getElem_cons_zero, Act.put, List.setIfInBounds_toArray, List.set]
  refine up_take (i := 3) (v := .pointer (some ⟨g, 0, none⟩)) rfl (by kernel_rfl) (by kernel_rfl) (fun _ _ _ h => h) (Or.inl ⟨by rfl, ?_⟩) hb5 ?_
  · intro w' hS'
    obtain ⟨c0, c1, _⟩ := TabAt.cells (HS.out.below hS')
    clear hS'
    go_simp
  try simp only [List.getElem_toArray, List.getElem_cons_succ, List.getElem_cons_zero, Act.put, List.setIfInBounds_toArray, List.set]
  refine up_take (i := 4) (v := .pointer (some ⟨x, 0, none⟩)) rfl (by kernel_rfl) (by kernel_rfl) (fun _ _ _ h => h) (Or.inl ⟨by rfl, ?_⟩) hb5 ?_
  · intro w' _; go_simp
  try simp only [List.getElem_toArray, List.getElem_cons_succ, List.getElem_cons_zero, Act.put, List.setIfInBounds_toArray, List.set]
  refine up_take (i := 5) (v := .pointer (some ⟨x, 0, none⟩)) rfl (by kernel_rfl) (by kernel_rfl) (fun _ _ _ h => h) (Or.inl ⟨by rfl, ?_⟩) hb5 ?_
  · intro w' _; go_simp
  try simp only [List.getElem_toArray, List.getElem_cons_succ, List.getElem_cons_zero, Act.put, List.setIfInBounds_toArray, List.set]
  refine up_take (i := 6) (v := .pointer (some ⟨x, 1, none⟩)) rfl (by kernel_rfl) (by kernel_rfl) (fun _ _ _ h => h) (Or.inl ⟨by rfl, ?_⟩) hb5 ?_
  · intro w' _; go_simp
  try simp only [List.getElem_toArray, List.getElem_cons_succ, List.getElem_cons_zero, Act.put, List.setIfInBounds_toArray, List.set]
  refine up_take (i := 7) (v := .int .i64 first) rfl (by kernel_rfl) (by kernel_rfl) (fun _ _ _ h => h) (Or.inl ⟨by rfl, ?_⟩) hb5 ?_
  · intro w' hS'
    obtain ⟨c0, c1, _⟩ := TabAt.cells (HS.out.below hS')
    clear hS'
    go_simp
  try simp only [List.getElem_toArray, List.getElem_cons_succ, List.getElem_cons_zero, Act.put, List.setIfInBounds_toArray, List.set]
  refine up_take (i := 8) (v := .int .i64 i) rfl (by kernel_rfl) (by kernel_rfl) (fun _ _ _ h => h) (Or.inl ⟨by rfl, ?_⟩) hb5 ?_
  · intro w' _; go_simp
  try simp only [List.getElem_toArray, List.getElem_cons_succ, List.getElem_cons_zero, Act.put, List.setIfInBounds_toArray, List.set]
  refine up_take (i := 9) (v := .int .i64 A) rfl (by kernel_rfl) (by kernel_rfl) (fun _ _ _ h => h) (Or.inl ⟨by rfl, ?_⟩) hb5 ?_
  · intro w' _; go_simp
  try simp only [List.getElem_toArray, List.getElem_cons_succ, List.getElem_cons_zero, Act.put, List.setIfInBounds_toArray, List.set]
  refine up_take (i := 10) (v := .agg ev.toArray) rfl (by kernel_rfl) (by kernel_rfl) (fun _ _ _ h => h) (Or.inl ⟨by rfl, ?_⟩) hb5 ?_
  · intro w' hS'; exact exec_load _ _ 73 _ rfl y 0 rfl _ (HL.out w' hS')
  try simp only [List.getElem_toArray, List.getElem_cons_succ, List.getElem_cons_zero, Act.put, List.setIfInBounds_toArray, List.set]
  refine up_one 11 _ rfl (by kernel_rfl) (by decide) (by rfl) (fun K hK => ?_)
  go_simp
  refine (Hpg.out _).mono ?_
  rintro e w6 ⟨rfl, hq6⟩
  have hb6 := hb5.trans (hq6.mono hb5.size)
  refine hK _ _ hb6 ?_
  clear hK K
  try simp only [List.getElem_toArray, List.getElem_cons_succ, List.getElem_cons_zero, Act.put, List.setIfInBounds_toArray, List.set]
  refine up_tail ?_
  refine up_last 12 _ rfl (by kernel_rfl) (by decide) (by rfl) (fun K hK => ?_)
  go_simp
  refine (Hwr.out _ hb6).mono ?_
  rintro e w7 ⟨v7, rfl, hE7, hX7⟩
  refine hK _ _ ?_
  clear hK K
  try simp only [List.getElem_toArray, List.getElem_cons_succ, List.getElem_cons_zero, Act.put, List.setIfInBounds_toArray, List.set]
  refine up_last 13 _ rfl (by kernel_rfl) (by decide) (by rfl) (fun K hK => ?_)
  go_simp
  refine hK _ _ ?_
  clear hK K
  try simp only [List.getElem_toArray, List.getElem_cons_succ, List.getElem_cons_zero, Act.put, List.setIfInBounds_toArray, List.set]
  refine up_done (by kernel_rfl) ?_ _
  have Hfin := Lib.hid (show PSetP 0 (fun w' => OwnX { b with txn := t } gd g T w0 w') (.returned v7) w7 from ⟨_, rfl, hE7, hX7⟩)
  clear hE7 hX7 Hwr HL HS Hpg
  go_wp2
  first | exact Hfin.out | (go_ret; exact Hfin.out) | refine bodyPost_ret (v := v7) (by simp [results, Tryz.results83, go_sem]) rfl Hfin.out
set_option maxRecDepth 100000 in
theorem pset_nil (i : Int) (E : Ent) (w : World) : Calls Tryz.prog 83 #[.pointer none, .int .i64 i, entV E] w (PSetP 1 (fun w' => Below w.heap.size w w')) := by
  obtain ⟨ev, Hev⟩ : ∃ ev : List Value, Hid (ev = entC E) := ⟨_, rfl⟩
  have hV : entV E = .agg ev.toArray := by rw [Hev.out]; rfl
  rw [hV]
  have hb1 : Below w.heap.size w (w.alloc (.cells ev.toArray 73)) := (Below.refl _ _).alloc (Nat.le_refl _) _
  have Hfin := Lib.hid (show PSetP 1 (fun w' => Below w.heap.size w w') (.returned (.iface 108 (.int .i64 1))) (w.alloc (.cells ev.toArray 73)) from ⟨_, rfl, .inr ⟨by decide, [], rfl⟩, hb1⟩)
  clear hb1 hV
  go_enter Tryz.func83, Tryz.ntmps83
  go_wp2_with (first
    | (go_at_call 103; refine (phas_nil _ _).mono ?_; rintro e w' ⟨rfl, rfl⟩))
  first | exact Hfin.out | (go_ret; exact Hfin.out) | refine bodyPost_ret (v := .iface 108 (.int .i64 1)) (by simp [results, Tryz.results83, go_sem]) rfl Hfin.out
def KeepsP (Q : World → Prop) : Prop := ∀ w1 w2, Q w1 → Below w1.heap.size w1 w2 → Q w2
set_option maxRecDepth 100000 in
/-- Set, where set answers. -/
theorem pSet_of {k : Int} {Q : World → Prop} {bp : Value} {i : Int} {E : Ent} (hE : E.dg.length = 32) (hQ : KeepsP Q)
    (h : Calls Tryz.prog 83 #[bp, .int .i64 i, entV E] (w.alloc (.cells (entC E).toArray 73)) (PSetP k Q)) :
    Calls Tryz.prog 42 #[bp, .int .i64 i, entV E] w (PSetP k Q) := by
  obtain ⟨ev, Hev⟩ : ∃ ev : List Value, Hid (ev = entC E) := ⟨_, rfl⟩
  have hV : entV E = .agg ev.toArray := by rw [Hev.out]; rfl
  have hel : ev.length = 34 := by rw [Hev.out]; exact entC_len hE
  have hei : Hid ((Tryz.prog.info? 73).map (·.size) = some ev.toArray.size) := by rw [List.size_toArray, hel]; exact infoEnt
  rw [hV] at h ⊢
  rw [← Hev.out] at h
  have hx1 : (w.alloc (.cells ev.toArray 73)).heap[w.heap.size]? = some (.cells ev.toArray 73 (0, 0)) := heap_alloc_new w _
  have Hc := Lib.hid h
  clear h hV hel
  go_enter Tryz.func42, Tryz.ntmps42
  go_wp2_with (first
    | (refine wpList_load_row rfl 73 _ rfl w.heap.size rfl 73 ev.toArray (0, 0) _ hx1 Tryz.underlying73 rfl hei.out ?_)
    | (go_at_call 83; refine Hc.out.mono ?_))
  rintro e w1 ⟨v, rfl, hEr, hq⟩
  have Hi := Lib.hid (in_err ⟨#[112, 114, 105, 110, 116, 115, 46, 83, 101, 116]⟩ _ v w1 hEr)
  clear hEr Hc hx1
  go_wp2_with (first | (go_at_call 49; refine Hi.out.mono ?_))
  rintro e w2 ⟨v2, rfl, hE2, hb2⟩
  have Hfin := Lib.hid (show PSetP k Q (.returned v2) w2 from ⟨v2, rfl, hE2, hQ _ _ hq hb2⟩)
  clear hE2 hb2 Hi
  go_wp2
  first | exact Hfin.out | (go_ret; exact Hfin.out) | refine bodyPost_ret (v := v2) (by simp [results, Tryz.results42, go_sem]) rfl Hfin.out
theorem pSet_nil (i : Int) (E : Ent) (hE : E.dg.length = 32) (w : World) : Calls Tryz.prog 42 #[.pointer none, .int .i64 i, entV E] w (PSetP 1 (fun w' => Below w.heap.size w w')) := by
  have hb : Below w.heap.size w (w.alloc (.cells (entC E).toArray 73)) := (Below.refl _ _).alloc (Nat.le_refl _) _
  exact pSet_of hE (fun _ _ h hb => h.trans (hb.mono h.size)) ((pset_nil i E _).mono fun e w' ⟨v, h1, h2, h3⟩ => ⟨v, h1, h2, hb.trans (h3.mono hb.size)⟩)
/-- What Set leaves. -/
structure SetD (b : Bk) (first n : Nat) (es : List Ent) (i : Nat) (E : Ent) (t : List Chg) : Prop where
  ta : Ta { b with txn := t } first n (es.set i (normE E))
  tx : Tx b t first (first + n) 1
/-- Set. -/
theorem OwnX.pSet (h : OwnX b gd g T w0 w) (hT : (x, tabO g first n) ∈ T) (hTa : Ta b first n es) (hf : first ≤ 2000) (hn : n ≤ 2000) {i : Nat} (hi : i < n) {E : Ent} (hE : EntOk E) (ht : b.txn.length < 60) :
    ∃ t, SetD b first n es i E t ∧ Calls Tryz.prog 42 #[.pointer (some ⟨x, 0, none⟩), .int .i64 i, entV E] w (PSetP 0 (fun w' => OwnX { b with txn := t } gd g T w0 w')) := by
  obtain ⟨t, ew, hTa', tx⟩ := hTa.sets hi hE ht
  exact ⟨t, ⟨hTa', tx⟩, pSet_of hE.dg (fun _ _ h hb => h.below hb) ((h.below ((Below.refl _ _).alloc (Nat.le_refl _) _)).pset1 hT hTa hf hn hi hE ew)⟩
end
end Go.Proofs.YtopjhgpgompenaaGreatDoor
