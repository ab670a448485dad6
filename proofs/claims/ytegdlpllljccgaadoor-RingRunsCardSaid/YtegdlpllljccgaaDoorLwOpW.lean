/-
  Two disks in one state, the program's and the reference's, and what both find in opening a ring there: the same.
-/
import Derived.Test.YtegdlpllljccgaaDoorRrAdd
import Derived.Test.YtegdlpllljccgaaDoorLwAddE
import Derived.Test.YtegdlpllljccgaaDoorLwTriples
import Derived.Test.YtegdlpllljccgaaDoorLwSame
set_option linter.unusedSimpArgs false
set_option linter.unusedVariables false
namespace Go.Proofs.YtegdlpllljccgaaDoor
open Go.RowKit Sh Go.Extern.Stop Go.Stop Go.Extern

theorem allocTwo (w : World) : (Instr.alloc 27 true (.tuple #[])).run Tryd.prog w = .ok (.pointer (some ⟨w.heap.size, 0, none⟩)) (w.alloc (.cells #[.int .i64 0, .int .i64 0] 27)) := by kernel_rfl
theorem infoTwo : (Tryd.prog.info? 27).map (·.size) = some 2 := by kernel_rfl
/-- A goal that several ways come to, each with numbers and a world of its own: the first one names it. -/
theorem cut8 {K R : Nat → Nat → Nat → Nat → Nat → Nat → Nat → World → Prop} {G : Prop} (walk : (∀ a b c d e f g w, R a b c d e f g w → K a b c d e f g w) → G) (pf : ∀ a b c d e f g w, R a b c d e f g w → K a b c d e f g w) : G := walk pf
theorem cut1 {K R : World → Prop} {G : Prop} (walk : (∀ w, R w → K w) → G) (pf : ∀ w, R w → K w) : G := walk pf
theorem setRow_other {w : World} {g k : Nat} (r : Array Value) (h : k ≠ g) : (w.setRow g r).heap[k]? = w.heap[k]? := by
  have h2 : g ≠ k := fun e => h e.symm
  simp [World.setRow, Array.getElem?_modify, h2]
theorem markI_one (pl : Int) (num : Nat) (last : List UInt8) : ∀ v ∈ markI pl num last, v.oneCell' = true := fun v hv => by
  simp only [markI, List.mem_cons, List.mem_map] at hv
  rcases hv with rfl | rfl | ⟨x, _, rfl⟩ <;> rfl
theorem mod_in (a m : Int) (hm : 0 < m) : -m < a.tmod m ∧ a.tmod m < m ∧ 0 ≤ (a.tmod m + m).tmod m ∧ (a.tmod m + m).tmod m < m := by
  have h1 := Int.tmod_lt_of_pos (a.tmod m + m) hm
  have h2 : -m < a.tmod m := Int.lt_tmod_of_pos a hm
  have h3 := Int.tmod_lt_of_pos a hm
  have h4 : 0 ≤ (a.tmod m + m).tmod m := Int.tmod_nonneg m (by omega)
  exact ⟨h2, h3, h4, h1⟩
structure OpS (D : Nat) (S : St) (c : Nat) : Prop where
  good : Good S
  byt : Byt S
  lit : Lit S
  firm : S.firm.length = D
  cnt : S.ats.length ≤ c
theorem OpS.new {D : Nat} (h1 : 1 ≤ D) (h2 : D ≤ 4096) : OpS D (newS D) 0 := ⟨good_new D h1 h2, byt_new D, lit_new D, newS_len D, Nat.le_refl _⟩
theorem OpS.write {D : Nat} {S : St} {c : Nat} (h : OpS D S c) {i : Nat} (hi : i < D) {p : List UInt8} (hp : p.length = 64) : OpS D (writeOf S (i : Int) (p.map cu8)).1 (c + 1) :=
  ⟨good_write h.good _ _, byt_write h.byt _ ⟨p, hp, rfl⟩, (Lit.write h.lit (by rw [h.firm]; exact hi) _).2, by rw [write_firm]; exact h.firm, by have := write_count S (i : Int) (p.map cu8); have := h.cnt; omega⟩
theorem OpS.mono {D : Nat} {S : St} {c c' : Nat} (h : OpS D S c) (hc : c ≤ c') : OpS D S c' := ⟨h.good, h.byt, h.lit, h.firm, Nat.le_trans h.cnt hc⟩

/-- The world: B: what was there before; gd: the program's disk; gk: the reference's; x: the mark's box. -/
structure OpW (B gd gk x : Nat) (F G : Nat → Prop) (Sp Sr : St) (mv : List Value) (w : World) : Prop where
  pd : PD Sp F gd w
  rd : RD Sr G gk w
  box : w.heap[x]? = some (.cells mv.toArray 46 (0, 0))
  sep : ∀ j, F j → ¬ G j
  fx : ¬ F x
  gx : ¬ G x
  lowF : ∀ j, F j → B ≤ j
  lowG : ∀ j, G j → B ≤ j
  lowx : B ≤ x
section
variable {B gd gk x : Nat} {F G : Nat → Prop} {Sp Sr : St} {mv : List Value} {w w' : World}
theorem OpW.xlt (h : OpW B gd gk x F G Sp Sr mv w) : x < w.heap.size := (Array.getElem?_eq_some_iff.1 h.box).1
theorem OpW.le (h : OpW B gd gk x F G Sp Sr mv w) : B ≤ w.heap.size := by have := h.xlt; have := h.lowx; omega
theorem OpW.below (h : OpW B gd gk x F G Sp Sr mv w) (hb : Below w.heap.size w w') : OpW B gd gk x F G Sp Sr mv w' :=
  ⟨h.pd.below hb, h.rd.below hb, (hb.block x h.xlt).trans h.box, h.sep, h.fx, h.gx, h.lowF, h.lowG, h.lowx⟩
theorem OpW.wrote (h : OpW B gd gk x F G Sp Sr mv w) {S' : St} {F' : Nat → Prop} (hP : PD S' F' gd w') (ho : Only F w w') (hn : ∀ j, F' j → F j ∨ w.heap.size ≤ j) : OpW B gd gk x F' G S' Sr mv w' where
  pd := hP
  rd := h.rd.keep ho (fun k hk hf => h.sep k hf hk)
  box := (ho.block x h.xlt h.fx).trans h.box
  sep := fun j hj hg => (hn j hj).elim (fun hf => h.sep j hf hg) (fun hle => by have := h.rd.lt hg; omega)
  fx := fun hf => (hn x hf).elim h.fx (fun hle => by have := h.xlt; omega)
  gx := h.gx
  lowF := fun j hj => (hn j hj).elim (h.lowF j) (fun hle => by have := h.le; omega)
  lowG := h.lowG
  lowx := h.lowx
theorem OpW.rwrote (h : OpW B gd gk x F G Sp Sr mv w) {S' : St} {G' : Nat → Prop} (hP : RD S' G' gk w') (ho : Only G w w') (hn : ∀ j, G' j → G j ∨ w.heap.size ≤ j) : OpW B gd gk x F G' Sp S' mv w' where
  pd := h.pd.keep ho (fun k hk hf => h.sep k hk hf)
  rd := hP
  box := (ho.block x h.xlt h.gx).trans h.box
  sep := fun j hj hg => (hn j hg).elim (fun hf => h.sep j hj hf) (fun hle => by have := h.pd.lt hj; omega)
  fx := h.fx
  gx := fun hf => (hn x hf).elim h.gx (fun hle => by have := h.xlt; omega)
  lowF := h.lowF
  lowG := fun j hj => (hn j hj).elim (h.lowG j) (fun hle => by have := h.le; omega)
  lowx := h.lowx
theorem OpW.boxed (h : OpW B gd gk x F G Sp Sr mv w) {mv' : List Value} (hx : w'.heap[x]? = some (.cells mv'.toArray 46 (0, 0))) (hg : w.grownBy w' (some x)) : OpW B gd gk x F G Sp Sr mv' w' where
  pd := h.pd.keep (Only.of_grown (F := fun j => j = x) hg (fun k e => by simpa using e.symm)) (fun k hk e => h.fx (by have e' : k = x := e; rw [← e']; exact hk))
  rd := h.rd.keep (Only.of_grown (F := fun j => j = x) hg (fun k e => by simpa using e.symm)) (fun k hk e => h.gx (by have e' : k = x := e; rw [← e']; exact hk))
  box := hx
  sep := h.sep
  fx := h.fx
  gx := h.gx
  lowF := h.lowF
  lowG := h.lowG
  lowx := h.lowx
/-- Another block turned. -/
theorem OpW.other (h : OpW B gd gk x F G Sp Sr mv w) {p : Nat} (hg : w.grownBy w' (some p)) (h1 : ¬ F p) (h2 : ¬ G p) (h3 : p ≠ x) : OpW B gd gk x F G Sp Sr mv w' :=
  ⟨h.pd.keep (Only.of_grown (F := fun j => j = p) hg (fun k e => by simpa using e.symm)) (fun k hk e => h1 (by have e' : k = p := e; rw [← e']; exact hk)),
    h.rd.keep (Only.of_grown (F := fun j => j = p) hg (fun k e => by simpa using e.symm)) (fun k hk e => h2 (by have e' : k = p := e; rw [← e']; exact hk)),
    (hg.block x h.xlt (fun e => h3 (by simpa using e.symm))).trans h.box, h.sep, h.fx, h.gx, h.lowF, h.lowG, h.lowx⟩
/-- One cell of the box set. -/
theorem OpW.set (h : OpW B gd gk x F G Sp Sr mv w) (j : Nat) (v : Value) : OpW B gd gk x F G Sp Sr (mv.set j v) (w.setCell ⟨x, j, none⟩ v) :=
  h.boxed (setCell_row h.box j v) (PgAt.turned j v)
theorem OpW.setBase {w0 : World} (h : OpW B gd gk x F G Sp Sr mv w) (hb : Below B w0 w) (j : Nat) (v : Value) : Below B w0 (w.setCell ⟨x, j, none⟩ v) := below_of_grown hb (PgAt.turned j v) h.le h.lowx
theorem OpW.cell (h : OpW B gd gk x F G Sp Sr mv w) {j : Nat} {v : Value} (hj : mv[j]? = some v) : w.cell? ⟨x, j, none⟩ = some v := by rw [cell_of_row w x j _ _ _ h.box, List.getElem?_toArray, hj]
theorem OpW.thawed (h : OpW B gd gk x F G Sp Sr mv w) (j : Nat) : w.frozen? ⟨x, j, none⟩ = false := thawed_row h.box j
theorem OpW.wroteBase {w0 : World} (h : OpW B gd gk x F G Sp Sr mv w) (hb : Below B w0 w) (ho : Only F w w') : Below B w0 w' := hb.trans (ho.base h.le h.lowF)
theorem OpW.rwroteBase {w0 : World} (h : OpW B gd gk x F G Sp Sr mv w) (hb : Below B w0 w) (ho : Only G w w') : Below B w0 w' := hb.trans (ho.base h.le h.lowG)
end

/-- What the reference's Open found. -/
theorem recsR_of {w : World} {B C : Nat} {ap : Option Addr} {cp : Nat} {vs : List Value} {rs : List (List Chg)} (hw : ∀ l ∈ rs, ∀ c ∈ l, c.what.length = 64) (hl : ∀ l ∈ rs, l.length ≤ 4096)
    (ho : w.ownsRow B 58 1 (.slice ap rs.length cp) rs.length vs) (hr : RecsRf C w vs rs) : RecsV w.heap.size w ap rs := by
  refine ⟨hw, hl, ?_⟩
  rcases ho.2 with ⟨hv, h0⟩ | ⟨g, cap, cur, hv, _, hg, _⟩
  · left; exact List.length_eq_zero_iff.1 h0
  · simp only [Value.slice.injEq] at hv
    obtain ⟨rfl, _, rfl⟩ := hv
    refine .inr ⟨g, rfl, (Array.getElem?_eq_some_iff.1 hg).1, fun i l hi => ?_⟩
    obtain ⟨b, _, hvi, hb⟩ := hr.2 i l hi
    have hin : i < rs.length := (List.getElem?_eq_some_iff.1 hi).1
    refine ⟨some ⟨b, 0, none⟩, l.length, ?_, chgs_of_row (hw l (List.mem_of_getElem? hi)) hb⟩
    rw [ho.cellAt i (by omega), hvi]
theorem openAll_len (n : Nat) (pg : Nat → List UInt8) : ∀ (f free : Nat) (m : Mk), (openAll n pg f free m).1.length ≤ f
  | 0, _, _ => by simp [openAll]
  | f + 1, free, m => by
    unfold openAll
    split
    · have := openAll_len n pg f (free - takes (kOf pg m)) (behind n m (kOf pg m) (dig (rawText pg m)))
      simp only [List.length_cons]; omega
    · simp
def OpenB (a : List (List Chg)) (E : Int) (w : World) (e : Ending) (w' : World) : Prop :=
  ∃ rv ap cp v, e = .returned (.tuple #[rv, .slice ap a.length cp, v]) ∧ ErrV w' E v ∧ RecsV w'.heap.size w' ap a ∧ Below w.heap.size w w'
def ROpenB (a : List (List Chg)) (E : Int) (w : World) (e : Ending) (w' : World) : Prop :=
  ∃ rv ap cp, e = .returned (.tuple #[rv, .slice ap a.length cp, .int .i64 E]) ∧ RecsV w'.heap.size w' ap a ∧ Below w.heap.size w w'
/-- What both Opens answer of disks in one state. -/
theorem open_both {D : Nat} {S : St} {c : Nat} (hS : OpS D S c) (hc : c ≤ 1000000) (first : Nat) (hf : first ≤ 4096) (n pl : Int) (num : Nat) (last : List UInt8) (hnum : num < 18446744073709551616) (hlast : last.length = 32) :
    ∃ (a : List (List Chg)) (E : Int), a.length ≤ 4096 ∧
      (∀ (W : World) (F : Nat → Prop) (gd : Nat), PD S F gd W → Calls Tryd.prog 14 #[.pointer (some ⟨gd, 0, none⟩), .int .i64 first, .int .i64 n, .agg (markI pl num last).toArray] W (OpenB a E W)) ∧
      (∀ (W : World) (G : Nat → Prop) (gk : Nat), RD S G gk W → Calls Tryd.prog 15 #[.pointer (some ⟨gk, 0, none⟩), .int .i64 first, .int .i64 n, .agg (markI pl num last).toArray] W (ROpenB a E W)) := by
  have hD4 := hS.good.le
  have hcn := hS.cnt
  rw [hS.firm] at hD4
  by_cases hbad : n < 96 ∨ 4096 < n ∨ (D : Int) - n < first ∨ pl < 0 ∨ n ≤ pl
  · refine ⟨[], 1, by simp, fun W F gd hP => ?_, fun W G gk hR => ?_⟩
    · have hb2 : n < 96 ∨ 4096 < n ∨ (first : Int) < 0 ∨ (D : Int) - n < first ∨ pl < 0 ∨ n ≤ pl := by omega
      refine (open_bad (.pointer (some ⟨gd, 0, none⟩)) D hD4 (fun W' hW' => ((pd_size (hP.below hW')).mono fun e w' h => ⟨by rw [h.1, hS.firm], h.2.symm⟩)) first n pl num last (by omega) hb2).mono ?_
      rintro e w' ⟨v, rfl, hE, hb⟩
      exact ⟨_, none, 0, v, rfl, hE, RecsV.nil _ _ _, hb⟩
    · refine (ropen_bad hR hS.good (first : Int) n pl num last (by omega) (by rw [hS.firm]; exact hbad)).mono ?_
      rintro e w' ⟨rfl, hb⟩
      exact ⟨_, none, 0, rfl, RecsV.nil _ _ _, hb⟩
  · obtain ⟨N, rfl⟩ : ∃ N : Nat, n = (N : Int) := ⟨n.toNat, by omega⟩
    obtain ⟨p, rfl⟩ : ∃ p : Nat, pl = (p : Int) := ⟨pl.toNat, by omega⟩
    have hin : first + N ≤ S.firm.length := by rw [hS.firm]; omega
    obtain ⟨m, hm⟩ : ∃ m : Mk, m = ⟨p, num, last⟩ := ⟨_, rfl⟩
    have hmc : markI (p : Int) num last = markCells m := by rw [hm]; rfl
    have hpl : m.place < N := by rw [hm]; show p < N; omega
    have hnm : m.num < 18446744073709551616 := by rw [hm]; exact hnum
    have hla : m.last.length = 32 := by rw [hm]; exact hlast
    have hpg : ∀ i, (pgOf (imgB S) first N i).length = 64 := fun i => pg_len hS.byt hin (by omega) i
    rw [hmc]
    refine ⟨(openAll N (pgOf (imgB S) first N) N N m).1, 0, Nat.le_trans (openAll_len _ _ _ _ _) (by omega), fun W F gd hP => ?_, fun W G gk hR => ?_⟩
    · refine (open_any hP hS.good hS.byt hS.lit.on hin (by omega) (by omega) hpl hnm hla).mono ?_
      rintro e w' ⟨g, v, vs, used', rfl, hg, hring, hok, hfr, hown, hrecs, hbel⟩
      obtain ⟨ap, cp, rfl⟩ := row_form hown
      exact ⟨_, ap, cp, _, rfl, ErrV.nil, recsV_found hpg hown hrecs, hbel⟩
    · refine (ropen_any hR hS.good hS.byt hS.lit.on (by omega) hin (by omega) (by omega) hpl hnm hla).mono ?_
      rintro e w' ⟨g, ap, cp, vs, used, rfl, hg, hring, _, hfr, hown, hrecs, hbel⟩
      exact ⟨_, ap, cp, rfl, recsR_of (fun l hl => (fit_found hpg _ _ _ l hl).1) (fun l hl => by have := (fit_found hpg _ _ _ l hl).2; omega) hown hrecs, hbel⟩

/-- A row of changes that a call made. -/
def ChgP (cg : List Chg) (n : Nat) (w : World) (e : Ending) (w' : World) : Prop :=
  ∃ b cp, e = .returned (.slice (some ⟨b, 0, none⟩) n cp) ∧ Chgs w'.heap.size w' (some ⟨b, 0, none⟩) cg ∧ Below w.heap.size w w'
theorem chgP_of {T : TypeId} {cg : List Chg} {n : Nat} (hn : cg.length = n) (h1 : 0 < n) (hw : ∀ c ∈ cg, c.what.length = 64) {w : World} {e : Ending} {w' : World} (h : OwnP T cg w e w') : ChgP cg n w e w' := by
  obtain ⟨ap, cp, rfl, hown, hb⟩ := h
  rw [hn] at hown ⊢
  have hC := chgs_of_own hw hn hown
  obtain ⟨b, rfl, _, _, _⟩ := own_ranges hw hn h1 hown
  exact ⟨b, cp, rfl, hC, hb⟩
def SecP (pgs : List (List UInt8)) (T : Nat) (dv : List Value) (w : World) (e : Ending) (w' : World) : Prop :=
  ∃ b cap, e = .returned (.tuple #[.slice (some ⟨b, 0, none⟩) T cap, .agg dv.toArray]) ∧ w.heap.size ≤ b ∧ ImgAt b pgs w' ∧ Below w.heap.size w w'
end Go.Proofs.YtegdlpllljccgaaDoor
