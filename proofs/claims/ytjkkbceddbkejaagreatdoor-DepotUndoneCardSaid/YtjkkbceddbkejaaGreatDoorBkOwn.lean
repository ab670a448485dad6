/-
  A book that a call made itself: its calls.
-/
import Derived.Test.YtjkkbceddbkejaaGreatDoorBkFresh
import Derived.Test.YtjkkbceddbkejaaGreatDoorBkNil
set_option linter.unusedSimpArgs false
set_option linter.unusedVariables false
namespace Go.Proofs.YtjkkbceddbkejaaGreatDoor
open Go.RowKit Sh Go.Maps Go.Extern.Stop Go.Stop Go.Extern

/-- A disk of the call's own (w0: where the call began). -/
structure OwnD (S : St) (gd B : Nat) (w0 w : World) : Prop where
  ex : ∃ F, PD S F gd w ∧ ∀ k, F k → B ≤ k
  bel : Below B w0 w
  low : B ≤ w0.heap.size
/-- A book of the call's own, on the disk in gd. -/
structure OwnB (b : Bk) (gd g B : Nat) (w0 w : World) : Prop where
  ex : ∃ Fd gr bn bt, BkIn b Fd gd gr bn bt g w ∧ ∀ k, BFoot Fd gr bn bt g k → B ≤ k
  bel : Below B w0 w
  low : B ≤ w0.heap.size
section
variable {S : St} {gd g B : Nat} {w0 w w' : World} {b : Bk}
theorem OwnD.below (h : OwnD S gd B w0 w) {N : Nat} (hb : Below N w w') (hN : w.heap.size ≤ N) : OwnD S gd B w0 w' := by
  obtain ⟨F, hP, hF⟩ := h.ex
  have s := h.bel.size
  have l := h.low
  exact ⟨⟨F, hP.keep (G := fun k => w.heap.size ≤ k ∧ False) ⟨hb.os, hb.tape, hb.output, hb.size, fun k hk _ => hb.block k (by omega)⟩ (fun _ _ h => h.2), hF⟩, h.bel.trans (hb.mono (by omega)), h.low⟩
theorem OwnB.below (h : OwnB b gd g B w0 w) (hb : Below w.heap.size w w') : OwnB b gd g B w0 w' := by
  obtain ⟨Fd, gr, bn, bt, hB, hF⟩ := h.ex
  have s := h.bel.size
  have l := h.low
  exact ⟨⟨Fd, gr, bn, bt, hB.below hb, hF⟩, h.bel.trans (hb.mono (by omega)), h.low⟩
theorem OwnB.disk (h : OwnB b gd g B w0 w) : OwnD b.S gd B w0 w := by
  obtain ⟨Fd, gr, bn, bt, hB, hF⟩ := h.ex
  exact ⟨⟨Fd, hB.disk, fun k hk => hF k (.inr (.inr (.inr (.inr hk))))⟩, h.bel, h.low⟩
theorem OwnB.turn (h : OwnB b gd g B w0 w) {Fd : Nat → Prop} {gr bn bt : Nat} (hF : ∀ k, BFoot Fd gr bn bt g k → B ≤ k) {b' : Bk} {Fd' : Nat → Prop} (hB : Br Fd gd gr bn bt g w b' Fd' w') : OwnB b' gd g B w0 w' := by
  have s := h.bel.size
  have l := h.low
  refine ⟨⟨Fd', gr, bn, bt, hB.inn, fun k hk => ?_⟩, h.bel.trans (hB.only.base (by omega) hF), h.low⟩
  exact (hB.foot hk).elim (hF k) (fun e => by omega)
/-- An error's number, and the book behind the call. -/
def OwnTP (b' : Bk) (n : Int) (gd g B : Nat) (w0 : World) (e : Ending) (w' : World) : Prop := ∃ v, e = .returned v ∧ ErrV w' n v ∧ OwnB b' gd g B w0 w'
theorem OwnB.write (h : OwnB b gd g B w0 w) (hO : b.Ok) (i : Int) (p : List UInt8) (hp : p.length = 64) :
    Calls Tryz.prog 70 #[.pointer (some ⟨g, 0, none⟩), .int .i64 i, pageV p] w (OwnTP (bwriteOf b i p).1 (bwriteOf b i p).2 gd g B w0) := by
  obtain ⟨Fd, gr, bn, bt, hB, hF⟩ := h.ex
  refine (Write_in hB hO i p hp).mono ?_
  rintro e w' ⟨v, Fd', rfl, hE, hB'⟩
  exact ⟨v, rfl, hE, h.turn hF hB'⟩
theorem OwnB.commit (h : OwnB b gd g B w0 w) (hO : b.Ok) (hp : b.S.ats.length ≤ 10000) :
    Calls Tryz.prog 20 #[.pointer (some ⟨g, 0, none⟩)] w (OwnTP (commitOf b).1 (commitOf b).2 gd g B w0) := by
  obtain ⟨Fd, gr, bn, bt, hB, hF⟩ := h.ex
  refine (Commit_in hB hO (fun _ => hp)).mono ?_
  rintro e w' ⟨v, Fd', rfl, hE, hB'⟩
  exact ⟨v, rfl, hE, h.turn hF hB'⟩
theorem OwnB.sync (h : OwnB b gd g B w0 w) (hO : b.Ok) (hp : b.S.ats.length ≤ 10000) :
    Calls Tryz.prog 21 #[.pointer (some ⟨g, 0, none⟩)] w (OwnTP (syncOf b).1 (syncOf b).2 gd g B w0) := by
  obtain ⟨Fd, gr, bn, bt, hB, hF⟩ := h.ex
  refine (Sync_in hB hO (fun _ => hp)).mono ?_
  rintro e w' ⟨v, Fd', rfl, hE, hB'⟩
  exact ⟨v, rfl, hE, h.turn hF hB'⟩
def OwnRd (b : Bk) (q : List UInt8) (n : Int) (gd g B : Nat) (w0 w : World) (e : Ending) (w' : World) : Prop := ∃ v, e = .returned (.tuple #[pageV q, v]) ∧ ErrV w' n v ∧ OwnB b gd g B w0 w' ∧ Below w.heap.size w w'
theorem OwnB.read (h : OwnB b gd g B w0 w) (hO : b.Ok) (i : Int) :
    Calls Tryz.prog 78 #[.pointer (some ⟨g, 0, none⟩), .int .i64 i] w (OwnRd b (pageOf b i).1 (pageOf b i).2 gd g B w0 w) := by
  obtain ⟨Fd, gr, bn, bt, hB, hF⟩ := h.ex
  refine (Read_in hB hO i).mono ?_
  rintro e w' ⟨v, rfl, hE, hb⟩
  exact ⟨v, rfl, hE, h.below hb, hb⟩
theorem OwnB.pages (h : OwnB b gd g B w0 w) : Calls Tryz.prog 47 #[.pointer (some ⟨g, 0, none⟩)] w fun e w' => e = .returned (.int .i64 b.pages) ∧ w = w' := by
  obtain ⟨Fd, gr, bn, bt, hB, hF⟩ := h.ex
  exact pages_any hB
def OwnDP (S : St) (B : Nat) (w0 : World) (e : Ending) (w' : World) : Prop := ∃ gd, e = .returned (.pointer (some ⟨gd, 0, none⟩)) ∧ OwnD S gd B w0 w'
theorem OwnD.crash (h : OwnD S gd B w0 w) (hG : Good S) (hn : S.ats.length ≤ 1048576) : Calls Tryz.prog 25 #[.pointer (some ⟨gd, 0, none⟩), .slice none 0 0] w (OwnDP (crashOf S []) B w0) := by
  obtain ⟨F, hP, hF⟩ := h.ex
  have s := h.bel.size
  have l := h.low
  refine (pd_crash hP hG hn none 0 [] (.inl rfl) (by simp)).mono ?_
  rintro e w' ⟨v, rfl, gd', F', rfl, hP', hb, hF'⟩
  exact ⟨gd', rfl, ⟨F', hP', fun k hk => by have := hF' k hk; omega⟩, h.bel.trans (hb.mono (by omega)), h.low⟩
def OwnD2P (S : St) (B : Nat) (w0 : World) (e : Ending) (w' : World) : Prop := ∃ gd, e = .returned (.tuple #[.pointer (some ⟨gd, 0, none⟩), .nilIface]) ∧ OwnD S gd B w0 w'
theorem own_new (D : Nat) (h1 : 1 ≤ D) (h2 : D ≤ 4096) (hb : Below B w0 w) (hl : B ≤ w0.heap.size) : Calls Tryz.prog 16 #[.int .i64 D] w (OwnD2P (newS D) B w0) := by
  have s := hb.size
  refine (pd_new D h1 h2 w).mono ?_
  rintro e w' ⟨v, rfl, gd', F', rfl, hP', hb', hF'⟩
  exact ⟨gd', rfl, ⟨F', hP', fun k hk => by have := hF' k hk; omega⟩, hb.trans (hb'.mono (by omega)), hl⟩
def OwnMP (b : Bk) (gd B : Nat) (w0 : World) (e : Ending) (w' : World) : Prop := ∃ g, e = .returned (.tuple #[.pointer (some ⟨g, 0, none⟩), .nilIface]) ∧ OwnB b gd g B w0 w'
theorem own_mount {b0 : Bk} {n : Nat} {F : Nat → Prop} (h : OwnD S gd B w0 w) (hF : ∀ k, F k → B ≤ k) (hm : Calls Tryz.prog 17 #[.pointer (some ⟨gd, 0, none⟩), .int .i64 n] w (MntP b0 gd F w)) :
    Calls Tryz.prog 17 #[.pointer (some ⟨gd, 0, none⟩), .int .i64 n] w (OwnMP b0 gd B w0) := by
  have s := h.bel.size
  have l := h.low
  refine hm.mono ?_
  rintro e w' ⟨g, Fd', gr, bn, bt, rfl, hB, ho, hf⟩
  exact ⟨g, rfl, ⟨Fd', gr, bn, bt, hB, fun k hk => (hf k hk).elim (hF k) (fun e => by omega)⟩, h.bel.trans (ho.base (by omega) hF), h.low⟩
/-- A new disk is mounted. -/
theorem OwnD.mountNew {D n : Nat} (h : OwnD (newS D) gd B w0 w) (h1 : 96 ≤ n) (h2 : n ≤ 4096) (h3 : 3 + n ≤ D) (h4 : D ≤ 4096) :
    Calls Tryz.prog 17 #[.pointer (some ⟨gd, 0, none⟩), .int .i64 n] w (OwnMP (bk1 D n) gd B w0) := by
  obtain ⟨F, hP, hF⟩ := h.ex
  have hfr := fr h1 h2 h3 h4
  have hm := mount_on hP (good_new D (by omega) h4) (byt_new D) rfl (by simp [newS]) n h1 h2 (by rw [dnew_len]; exact h3) (latest_new D (by omega)) (by show 0 < n; omega) (open_new (D := D) (first := 2) (n := n) m00 (by omega) (by omega)) (used := 0) (by omega) (by omega) (fun l hl => by simp at hl) (by simp)
  exact own_mount h hF (Mount_of hm hfr.err)
/-- A book is mounted again behind a crash. -/
theorem OwnD.mountAgain {m0 : Mk} {rs : List (List Chg)} {b : Bk} (h : OwnD S gd B w0 w) (ha : Again b m0 rs S) (hn : 96 ≤ b.n ∧ b.n ≤ 4096 ∧ 3 + b.n ≤ b.S.firm.length) (hg : b.gen + 1 < 18446744073709551616) :
    Calls Tryz.prog 17 #[.pointer (some ⟨gd, 0, none⟩), .int .i64 b.n] w (OwnMP (bringOf (newBk S b.n b.gen b.m b.used rs)).1 gd B w0) := by
  obtain ⟨F, hP, hF⟩ := h.ex
  have hm := mount_on hP ha.good ha.byt ha.lit.on (by rw [ha.ats]; simp) b.n hn.1 hn.2.1 (by rw [ha.firm]; exact hn.2.2) ha.title ha.place ha.found (used := b.used) rfl ha.used ha.with_ ha.few
  exact own_mount h hF (Mount_of hm (ha.dur.bring hg).1)
end
end Go.Proofs.YtjkkbceddbkejaaGreatDoor
