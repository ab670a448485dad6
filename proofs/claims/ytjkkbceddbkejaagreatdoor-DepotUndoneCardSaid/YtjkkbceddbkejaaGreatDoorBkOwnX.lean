/-
  A book of the call's own, with blocks beside it that no call of the book turns.
-/
import Derived.Test.YtjkkbceddbkejaaGreatDoorBkOwn
set_option linter.unusedSimpArgs false
set_option linter.unusedVariables false
namespace Go.Proofs.YtjkkbceddbkejaaGreatDoor
open Go.RowKit Sh Go.Maps Go.Extern.Stop Go.Stop Go.Extern

/-- Blocks that are none of a book's. -/
def Apart (T : List (Nat × Obj)) (B k : Nat) : Prop := B ≤ k ∧ ∀ x ∈ T, k ≠ x.1
def Held (T : List (Nat × Obj)) (B : Nat) (w : World) : Prop := ∀ x ∈ T, w.heap[x.1]? = some x.2 ∧ B ≤ x.1
theorem Held.keep {T : List (Nat × Obj)} {B : Nat} {w w' : World} (h : Held T B w) {F : Nat → Prop} (ho : Only F w w') (hF : ∀ k, F k → Apart T B k) : Held T B w' := fun x hx => by
  obtain ⟨h1, h2⟩ := h x hx
  exact ⟨(ho.block x.1 (Array.getElem?_eq_some_iff.1 h1).1 (fun hf => (hF _ hf).2 x hx rfl)).trans h1, h2⟩
theorem Held.lt {T : List (Nat × Obj)} {B : Nat} {w : World} (h : Held T B w) {x : Nat × Obj} (hx : x ∈ T) : x.1 < w.heap.size := (Array.getElem?_eq_some_iff.1 (h x hx).1).1
theorem Held.below {T : List (Nat × Obj)} {B : Nat} {w w' : World} (h : Held T B w) (hb : Below w.heap.size w w') : Held T B w' := h.keep (F := fun _ => False) (Only.of_below hb) (fun _ h => h.elim)
/-- A disk of the call's own, and blocks beside it. -/
structure DskX (S : St) (gd : Nat) (T : List (Nat × Obj)) (w0 w : World) : Prop where
  ex : ∃ F, PD S F gd w ∧ ∀ k, F k → Apart T w0.heap.size k
  bel : Below w0.heap.size w0 w
  arr : Held T w0.heap.size w
/-- A book of the call's own, and blocks beside it. -/
structure OwnX (b : Bk) (gd g : Nat) (T : List (Nat × Obj)) (w0 w : World) : Prop where
  ex : ∃ Fd gr bn bt, BkIn b Fd gd gr bn bt g w ∧ ∀ k, BFoot Fd gr bn bt g k → Apart T w0.heap.size k
  bel : Below w0.heap.size w0 w
  arr : Held T w0.heap.size w
section
variable {S : St} {gd g nb : Nat} {o : Obj} {T : List (Nat × Obj)} {w0 w w' : World} {b : Bk}
theorem OwnX.below (h : OwnX b gd g T w0 w) (hb : Below w.heap.size w w') : OwnX b gd g T w0 w' := by
  obtain ⟨Fd, gr, bn, bt, hB, hF⟩ := h.ex
  exact ⟨⟨Fd, gr, bn, bt, hB.below hb, hF⟩, h.bel.trans (hb.mono h.bel.size), h.arr.below hb⟩
theorem apart_new {k : Nat} (h : Held T w0.heap.size w) (hb : Below w0.heap.size w0 w) (hk : w.heap.size ≤ k) : Apart T w0.heap.size k :=
  ⟨by have := hb.size; omega, fun x hx => by have := h.lt hx; omega⟩
theorem OwnX.turn (h : OwnX b gd g T w0 w) {Fd : Nat → Prop} {gr bn bt : Nat} (hF : ∀ k, BFoot Fd gr bn bt g k → Apart T w0.heap.size k) {b' : Bk} {Fd' : Nat → Prop} (hB : Br Fd gd gr bn bt g w b' Fd' w') : OwnX b' gd g T w0 w' :=
  ⟨⟨Fd', gr, bn, bt, hB.inn, fun k hk => (hB.foot hk).elim (hF k) (fun e => apart_new h.arr h.bel e)⟩, h.bel.trans (hB.only.base h.bel.size (fun k hk => (hF k hk).1)), h.arr.keep hB.only hF⟩
theorem OwnX.start {B : Nat} (h : OwnB b gd g B w0 w) (hB : B = w0.heap.size) : OwnX b gd g [] w0 w := by
  obtain ⟨Fd, gr, bn, bt, hi, hF⟩ := h.ex
  subst hB
  exact ⟨⟨Fd, gr, bn, bt, hi, fun k hk => ⟨hF k hk, fun x hx => by simp at hx⟩⟩, h.bel, fun x hx => by simp at hx⟩
/-- A block is made. -/
theorem OwnX.add (h : OwnX b gd g T w0 w) (o : Obj) : OwnX b gd g ((w.heap.size, o) :: T) w0 (w.alloc o) := by
  obtain ⟨Fd, gr, bn, bt, hi, hF⟩ := h.ex
  have hb : Below w.heap.size w (w.alloc o) := (Below.refl _ _).alloc (Nat.le_refl _) _
  have hx := h.below hb
  refine ⟨⟨Fd, gr, bn, bt, hi.below hb, fun k hk => ⟨(hF k hk).1, fun x hx => ?_⟩⟩, hx.bel, fun x hx' => ?_⟩
  · rcases List.mem_cons.1 hx with rfl | hx
    · have := hi.foot_lt hk
      show k ≠ w.heap.size
      omega
    · exact (hF k hk).2 x hx
  · rcases List.mem_cons.1 hx' with rfl | hx'
    · exact ⟨heap_alloc_new w o, h.bel.size⟩
    · exact hx.arr x hx'
theorem OwnX.drop {x : Nat × Obj} (h : OwnX b gd g (x :: T) w0 w) : OwnX b gd g T w0 w := by
  obtain ⟨Fd, gr, bn, bt, hi, hF⟩ := h.ex
  exact ⟨⟨Fd, gr, bn, bt, hi, fun k hk => ⟨(hF k hk).1, fun y hy => (hF k hk).2 y (by simp [hy])⟩⟩, h.bel, fun y hy => h.arr y (by simp [hy])⟩
theorem OwnX.at_ (h : OwnX b gd g T w0 w) {x : Nat × Obj} (hx : x ∈ T) : w.heap[x.1]? = some x.2 := (h.arr x hx).1
/-- The first block is stored to. -/
theorem OwnX.set (h : OwnX b gd g [(nb, o)] w0 w) {o' : Obj} (hg : w.grownBy w' (some nb)) (ha : w'.heap[nb]? = some o') : OwnX b gd g [(nb, o')] w0 w' := by
  obtain ⟨Fd, gr, bn, bt, hi, hF⟩ := h.ex
  have ho := Only.of_grown (F := fun k => k = nb) hg (fun k e => by simpa using e.symm)
  have hbase := (h.arr (nb, o) (by simp)).2
  exact ⟨⟨Fd, gr, bn, bt, hi.only ho (fun k hk e => (hF k hk).2 (nb, o) (by simp) e), fun k hk => ⟨(hF k hk).1, fun x hx => by rw [List.mem_singleton.1 hx]; exact (hF k hk).2 (nb, o) (by simp)⟩⟩,
    h.bel.trans (ho.base h.bel.size (fun k hk => by have e : k = nb := hk; rw [e]; exact hbase)), fun x hx => by rw [List.mem_singleton.1 hx]; exact ⟨ha, hbase⟩⟩
def OwnXP (b' : Bk) (n : Int) (gd g : Nat) (T : List (Nat × Obj)) (w0 : World) (e : Ending) (w' : World) : Prop := ∃ v, e = .returned v ∧ ErrV w' n v ∧ OwnX b' gd g T w0 w'
theorem OwnX.write (h : OwnX b gd g T w0 w) (hO : b.Ok) (i : Int) (p : List UInt8) (hp : p.length = 64) :
    Calls Tryz.prog 70 #[.pointer (some ⟨g, 0, none⟩), .int .i64 i, pageV p] w (OwnXP (bwriteOf b i p).1 (bwriteOf b i p).2 gd g T w0) := by
  obtain ⟨Fd, gr, bn, bt, hB, hF⟩ := h.ex
  refine (Write_in hB hO i p hp).mono ?_
  rintro e w' ⟨v, Fd', rfl, hE, hB'⟩
  exact ⟨v, rfl, hE, h.turn hF hB'⟩
theorem OwnX.commit (h : OwnX b gd g T w0 w) (hO : b.Ok) (hp : b.S.ats.length ≤ 10000) :
    Calls Tryz.prog 20 #[.pointer (some ⟨g, 0, none⟩)] w (OwnXP (commitOf b).1 (commitOf b).2 gd g T w0) := by
  obtain ⟨Fd, gr, bn, bt, hB, hF⟩ := h.ex
  refine (Commit_in hB hO (fun _ => hp)).mono ?_
  rintro e w' ⟨v, Fd', rfl, hE, hB'⟩
  exact ⟨v, rfl, hE, h.turn hF hB'⟩
theorem OwnX.sync (h : OwnX b gd g T w0 w) (hO : b.Ok) (hp : b.S.ats.length ≤ 10000) :
    Calls Tryz.prog 21 #[.pointer (some ⟨g, 0, none⟩)] w (OwnXP (syncOf b).1 (syncOf b).2 gd g T w0) := by
  obtain ⟨Fd, gr, bn, bt, hB, hF⟩ := h.ex
  refine (Sync_in hB hO (fun _ => hp)).mono ?_
  rintro e w' ⟨v, Fd', rfl, hE, hB'⟩
  exact ⟨v, rfl, hE, h.turn hF hB'⟩
def OwnXR (b : Bk) (q : Value) (n : Int) (gd g : Nat) (T : List (Nat × Obj)) (w0 w : World) (e : Ending) (w' : World) : Prop := ∃ v, e = .returned (.tuple #[q, v]) ∧ ErrV w' n v ∧ OwnX b gd g T w0 w' ∧ Below w.heap.size w w'
theorem OwnX.read (h : OwnX b gd g T w0 w) (hO : b.Ok) (i : Int) :
    Calls Tryz.prog 78 #[.pointer (some ⟨g, 0, none⟩), .int .i64 i] w (OwnXR b (pageV (pageOf b i).1) (pageOf b i).2 gd g T w0 w) := by
  obtain ⟨Fd, gr, bn, bt, hB, hF⟩ := h.ex
  refine (Read_in hB hO i).mono ?_
  rintro e w' ⟨v, rfl, hE, hb⟩
  exact ⟨v, rfl, hE, h.below hb, hb⟩
def DskXP (S : St) (T : List (Nat × Obj)) (w0 : World) (e : Ending) (w' : World) : Prop := ∃ gd, e = .returned (.pointer (some ⟨gd, 0, none⟩)) ∧ DskX S gd T w0 w'
theorem OwnX.crash (h : OwnX b gd g T w0 w) (hG : Good b.S) (hn : b.S.ats.length ≤ 1048576) : Calls Tryz.prog 25 #[.pointer (some ⟨gd, 0, none⟩), .slice none 0 0] w (DskXP (crashOf b.S []) T w0) := by
  obtain ⟨Fd, gr, bn, bt, hB, hF⟩ := h.ex
  refine (pd_crash hB.disk hG hn none 0 [] (.inl rfl) (by simp)).mono ?_
  rintro e w' ⟨v, rfl, gd', F', rfl, hP', hb, hF'⟩
  exact ⟨gd', rfl, ⟨F', hP', fun k hk => apart_new h.arr h.bel (hF' k hk)⟩, h.bel.trans (hb.mono h.bel.size), h.arr.below hb⟩
def OwnXU (b : Bk) (gd g : Nat) (T : List (Nat × Obj)) (w0 : World) (e : Ending) (w' : World) : Prop := e = .returned (.tuple #[]) ∧ OwnX b gd g T w0 w'
theorem OwnX.undo (h : OwnX b gd g T w0 w) : Calls Tryz.prog 24 #[.pointer (some ⟨g, 0, none⟩)] w (OwnXU { b with txn := [] } gd g T w0) := by
  obtain ⟨Fd, gr, bn, bt, hB, hF⟩ := h.ex
  refine (Undo_in hB).mono ?_
  rintro e w' ⟨rfl, hB'⟩
  exact ⟨rfl, h.turn hF hB'⟩
theorem OwnX.pages (h : OwnX b gd g T w0 w) : Calls Tryz.prog 47 #[.pointer (some ⟨g, 0, none⟩)] w fun e w' => e = .returned (.int .i64 b.pages) ∧ w = w' := by
  obtain ⟨Fd, gr, bn, bt, hB, hF⟩ := h.ex
  exact pages_any hB
end
def pageO (p : List UInt8) : Obj := .cells (p.map cu8).toArray 33 (0, 0)
end Go.Proofs.YtjkkbceddbkejaaGreatDoor
