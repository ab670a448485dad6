/-
  A map from bytes to numbers beside a book; a range over it.
-/
import Derived.Test.YtmkkooccokifnaaGreatDoorDpMovM
import Derived.Test.YtmkkooccokifnaaGreatDoorDpLaw
import Derived.Maps.OwnSet
import Derived.Maps.RangeWalk
set_option linter.unusedSimpArgs false
set_option linter.unusedVariables false
namespace Go.Proofs.YtmkkooccokifnaaGreatDoor
open Go.RowKit Sh Go.Maps Go.Extern.Stop Go.Stop Go.Extern

def bkl (j : Nat) : Go.Lit := .int .u8 (j + 1 : Nat)
theorem keyB : Keyed Tryz.prog 5 := int_keyed Tryz.underlying5
theorem wfB {j : Nat} (h : j < 255) : (Go.Lit.int .u8 (j + 1 : Nat)).wf = true := by
  simp [Go.Lit.wf, IntKind.min, IntKind.max, IntKind.bits, IntKind.signed]; omega
theorem wfI {k : Nat} (h : k < 9223372036854775807) : (Go.Lit.int .i64 (k : Nat)).wf = true := by
  simp [Go.Lit.wf, IntKind.min, IntKind.max, IntKind.bits, IntKind.signed]; omega
theorem key_b {j : Nat} (h : j < 255) : keyOf Tryz.prog 5 (.int .u8 (j + 1 : Nat)) = some (bkl j) := keyOf_int_mk Tryz.underlying5 (wfB h)
theorem bkl_inj {j k : Nat} (h : bkl j = bkl k) : j = k := by
  unfold bkl at h
  simp only [Go.Lit.int.injEq, true_and] at h
  omega
theorem zero_i (w : World) : (zeroValue 3).run Tryz.prog w = .ok (.int .i64 0) w := by kernel_rfl
def MapB (w : World) (mb nn : Nat) (D : DataW Unit) : Prop := w.ownsMap Tryz.prog 5 (plainElem Tryz.prog 3) mb nn D
theorem MapB.block {w w' : World} {mb nn : Nat} {D : DataW Unit} {o : Obj} (h : MapB w mb nn D) (h1 : w.heap[mb]? = some o) (h2 : w'.heap[mb]? = some o) : MapB w' mb nn D := by
  obtain ⟨es, clock, h3, h4⟩ := h
  exact ⟨es, clock, h2.trans (h1.symm.trans h3), h4⟩
/-- The map D lies in the first block of T. -/
def MB (x : Nat × Obj) (mb : Nat) (T : List (Nat × Obj)) (nn : Nat) (D : DataW Unit) : Prop := ∃ o, T = [(mb, o), x] ∧ mb ≠ x.1 ∧ ∀ w : World, w.heap[mb]? = some o → MapB w mb nn D
/-- The map has just the keys 1 to i, with what f tells. -/
structure HasB (D : DataW Unit) (f : Nat → Nat) (i : Nat) : Prop where
  at_ : ∀ j, j < i → ∀ z, D.atKey (bkl j) z = .lit (.int .i64 (f j : Nat))
  only : ∀ kl, has D kl = true → ∃ j, j < i ∧ kl = bkl j
section
variable {b : Bk} {gd g mb nn : Nat} {x : Nat × Obj} {T : List (Nat × Obj)} {D : DataW Unit} {w0 w : World}
/-- What turns one of the blocks beside the book. -/
theorem OwnX.turnK {k : Nat} {o o' : Obj} {T' : List (Nat × Obj)} (hX : OwnX b gd g ((k, o) :: T') w0 w) {w' : World} (hgr : w.grownBy w' (some k)) (ho' : w'.heap[k]? = some o') (hk : ∀ y ∈ T', y.1 ≠ k) : OwnX b gd g ((k, o') :: T') w0 w' := by
  obtain ⟨Fd, gr, bn, bt, hi, hF⟩ := hX.ex
  have ho := Only.of_grown (F := fun j => j = k) hgr (fun j e => by simpa using e.symm)
  have hbase := (hX.arr (k, o) (by simp)).2
  refine ⟨⟨Fd, gr, bn, bt, hi.only ho (fun j hj e => (hF j hj).2 (k, o) (by simp) e), fun j hj => ⟨(hF j hj).1, fun y hy => ?_⟩⟩,
    hX.bel.trans (ho.base hX.bel.size (fun j hj => by have e : j = k := hj; rw [e]; exact hbase)), fun y hy => ?_⟩
  · rcases List.mem_cons.1 hy with rfl | hy
    · exact (hF j hj).2 (k, o) (by simp)
    · exact (hF j hj).2 y (by simp [hy])
  · rcases List.mem_cons.1 hy with rfl | hy
    · exact ⟨ho', hbase⟩
    · obtain ⟨h1, h2⟩ := hX.arr y (by simp [hy])
      exact ⟨(hgr.block y.1 (Array.getElem?_eq_some_iff.1 h1).1 (by simp; exact hk y hy)).trans h1, h2⟩
theorem OwnX.sub {T' : List (Nat × Obj)} (hX : OwnX b gd g T w0 w) (hs : ∀ y ∈ T', y ∈ T) : OwnX b gd g T' w0 w := by
  obtain ⟨Fd, gr, bn, bt, hi, hF⟩ := hX.ex
  exact ⟨⟨Fd, gr, bn, bt, hi, fun j hj => ⟨(hF j hj).1, fun y hy => (hF j hj).2 y (hs y hy)⟩⟩, hX.bel, fun y hy => hX.arr y (hs y hy)⟩
theorem MB.mem (h : MB x mb T nn D) : x ∈ T := by obtain ⟨o, rfl, _⟩ := h; simp
theorem MB.map (h : MB x mb T nn D) (hX : OwnX b gd g T w0 w) : MapB w mb nn D := by
  obtain ⟨o, rfl, _, h⟩ := h
  exact h w (hX.at_ (x := (mb, o)) (by simp))
theorem MB.isMap (h : MB x mb T nn D) (hX : OwnX b gd g T w0 w) : IsMap D := World.ownsMap.isMap (h.map hX)
/-- What is looked up. -/
theorem MB.look (h : MB x mb T nn D) (hX : OwnX b gd g T w0 w) {f : Nat → Nat} {i j : Nat} (hH : HasB D f i) (hj : j < i) (hj2 : j < 255) :
    (Instr.lookup 28 (.map (some mb)) (.int .u8 (j + 1 : Nat)) false).run Tryz.prog w = .ok (.int .i64 (f j : Nat)) w := by
  obtain ⟨c, hrun, hat, _⟩ := World.ownsMap.lookup_int (h.map hX) keyB Tryz.underlying28 Tryz.underlying3 (zero_i w) (key_b hj2)
  rw [hH.at_ j hj] at hat
  simp only [DataW.lit.injEq, Go.Lit.int.injEq, true_and] at hat
  rw [hat]; exact hrun
/-- A map is made. -/
theorem MB.made (hX : OwnX b gd g [x] w0 w) : OwnX b gd g [(w.heap.size, .map #[] 0), x] w0 (w.alloc (.map #[] 0)) ∧ MB x w.heap.size [(w.heap.size, .map #[] 0), x] 0 (.map []) := by
  have hb : Below w.heap.size w (w.alloc (.map #[] 0)) := (Below.refl _ _).alloc (Nat.le_refl _) _
  have hn := heap_alloc_new w (.map #[] 0)
  have hlt := hX.arr.lt (x := x) (by simp)
  refine ⟨hX.holds hb (Nat.le_refl _) hn, _, rfl, by omega, fun w' hw' => ?_⟩
  exact MapB.block (World.ownsMap_made w _ _ _) hn hw'
/-- A number is put. -/
theorem MB.put (h : MB x mb T nn D) (hX : OwnX b gd g T w0 w) (hnn : nn < maxLen) {k v : Nat} (hk : k < 255) (hv : v < 9223372036854775807) :
    ∃ w' T', (Instr.mapUpdate 28 (.map (some mb)) (.int .u8 (k + 1 : Nat)) (.int .i64 (v : Nat))).run Tryz.prog w = .ok () w' ∧ OwnX b gd g T' w0 w' ∧ MB x mb T' (nn + 1) (D.put (bkl k) (.lit (.int .i64 (v : Nat)))) := by
  obtain ⟨w', hrun, hm, hgr⟩ := World.ownsMap.update (h.map hX) keyB Tryz.underlying28 hnn (key_b hk) (plainElem_int Tryz.underlying3 (wfI hv))
  obtain ⟨o, rfl, hne, _⟩ := h
  obtain ⟨o4, ho4⟩ : ∃ o4, w'.heap[mb]? = some o4 := by obtain ⟨es, clock, h1, _⟩ := hm; exact ⟨_, h1⟩
  exact ⟨w', [(mb, o4), x], hrun, hX.turnK hgr ho4 (fun y hy => by rw [show y = x by simpa using hy]; exact fun e => hne e.symm), o4, rfl, hne, fun W hW => MapB.block hm ho4 hW⟩
end
theorem HasB.zero (f : Nat → Nat) : HasB (.map []) f 0 := ⟨fun j h => by omega, fun kl h => by simp [has] at h⟩
theorem HasB.put {D : DataW Unit} {f : Nat → Nat} {i p : Nat} (h : HasB D f i) (hD : IsMap D) (hi : i < 255) : HasB (D.put (bkl i) (.lit (.int .i64 (p : Nat)))) (updG f i p) (i + 1) := by
  refine ⟨fun j hj z => ?_, fun kl hk => ?_⟩
  · unfold updG
    by_cases e : j = i
    · subst e; rw [if_pos rfl]; exact atKey_put_same hD (keyB.key (key_b hi)) _ z
    · rw [if_neg e, atKey_put_other (fun e2 => e (bkl_inj e2))]; exact h.at_ j (by omega) z
  · by_cases e : kl = bkl i
    · exact ⟨i, by omega, e⟩
    · rw [has_put_other e] at hk
      obtain ⟨j, hj, e2⟩ := h.only kl hk
      exact ⟨j, by omega, e2⟩
theorem HasB.set {D : DataW Unit} {f : Nat → Nat} {i k p : Nat} (h : HasB D f i) (hD : IsMap D) (hk : k < i) (hi : i ≤ 255) : HasB (D.put (bkl k) (.lit (.int .i64 (p : Nat)))) (updG f k p) i := by
  refine ⟨fun j hj z => ?_, fun kl hl => ?_⟩
  · unfold updG
    by_cases e : j = k
    · subst e; rw [if_pos rfl]; exact atKey_put_same hD (keyB.key (key_b (by omega))) _ z
    · rw [if_neg e, atKey_put_other (fun e2 => e (bkl_inj e2))]; exact h.at_ j hj z
  · by_cases e : kl = bkl k
    · exact ⟨k, hk, e⟩
    · rw [has_put_other e] at hl
      exact h.only kl hl
/-- The map's block and the range's. -/
def RgB (w : World) (mb r nn : Nat) (D : DataW Unit) (left : Go.Lit → Bool) (cnt : Nat) : Prop := w.ranges Tryz.prog 5 (plainElem Tryz.prog 3) mb r nn D left cnt
theorem RgB.block {w w' : World} {mb r nn cnt : Nat} {D : DataW Unit} {left : Go.Lit → Bool} (h : RgB w mb r nn D left cnt) (h1 : w'.heap[mb]? = w.heap[mb]?) (h2 : w'.heap[r]? = w.heap[r]?) : RgB w' mb r nn D left cnt := by
  obtain ⟨es, clock, since, seen, c0, h3, h4, h5, h6, h7, h8⟩ := h
  exact ⟨es, clock, since, seen, c0, h1.trans h3, h4, h5, h6, h2.trans h7, h8⟩
theorem RgB.iter {w : World} {mb r nn cnt : Nat} {D : DataW Unit} {left : Go.Lit → Bool} (h : RgB w mb r nn D left cnt) : ∃ o, w.heap[r]? = some o := by
  obtain ⟨es, clock, since, seen, c0, h3, h4, h5, h6, h7, h8⟩ := h
  exact ⟨_, h7⟩
/-- The step of the range. -/
theorem wpList_next_b {w : World} {f : Nat → Nat} {i : Nat} {ops : Array Oper} {rest : List Oper} {o : Oper} {a : Act} {Q : Exit → Act → World → Prop} (hg : o.guard = none) (it : Operand) (hop : o.op = Op.next it false) (mb r nn : Nat) (D : DataW Unit) (hH : HasB D f i) (left : Go.Lit → Bool) (cnt : Nat)
    (hit : a.eval it = .pointer (some ⟨r, 0, none⟩)) (h : RgB w mb r nn D left cnt)
    (hDone : Later (wpList Tryz.prog ops Q rest (a.put o.dst (.tuple #[.bool false])) w))
    (hMore : Later (∀ (j : Nat) (left' : Go.Lit → Bool) (w' : World) (cnt' : Nat), j < i → RgB w' mb r nn D left' cnt' → cnt' < cnt → w.grownBy w' (some r) →
      (Instr.entry (.pointer (some ⟨r, 0, none⟩))).run Tryz.prog w' = .ok (.tuple #[.int .u8 (j + 1 : Nat), .int .i64 (f j : Nat)]) w' → wpList Tryz.prog ops Q rest (a.put o.dst (.tuple #[.bool true, .int .u8 (j + 1 : Nat), .int .i64 (f j : Nat)])) w')) :
    wpList Tryz.prog ops Q (o :: rest) a w := by
  refine wpList_next_ranges_ii _ hg it hop 5 3 .u8 .i64 keyB Tryz.underlying5 Tryz.underlying3 mb r nn D left cnt hit h (fun _ _ => hDone) ?_
  intro x c w' cnt' hx hc hl hat hrg hlt hgr hsz hen
  obtain ⟨j, hj, e⟩ := hH.only _ (has_true_of_atKey hat)
  have hx' : x = ((j + 1 : Nat) : Int) := by
    unfold bkl at e
    simpa only [Go.Lit.int.injEq, true_and] using e
  subst hx'
  have hc' := (hat (.lit (.int .i64 0))).symm.trans (hH.at_ j hj (.lit (.int .i64 0)))
  simp only [DataW.lit.injEq, Go.Lit.int.injEq, true_and] at hc'
  subst hc'
  exact hMore j _ w' cnt' hj hrg hlt hgr hen
end Go.Proofs.YtmkkooccokifnaaGreatDoor
