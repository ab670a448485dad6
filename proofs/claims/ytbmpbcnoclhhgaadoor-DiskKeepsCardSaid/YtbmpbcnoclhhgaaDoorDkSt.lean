/-
  A disk as a state, the program's and the reference's: each call's contract in the same words.
-/
import Derived.Test.YtbmpbcnoclhhgaaDoorDkCrash
namespace Go.Proofs.YtbmpbcnoclhhgaaDoor
open Go.RowKit Sh Go.Extern.Stop Go.Stop Go.Extern

structure St where
  firm : List (List Value)
  ats : List Int
  what : List (List Value)
  fuel : Int
  off : Bool
def St.newest (S : St) : List (List Value) := flushS S.firm S.ats S.what
structure Good (S : St) : Prop where
  same : S.what.length = S.ats.length
  pos : 0 < S.firm.length
  le : S.firm.length ≤ 4096
  inr : ∀ a ∈ S.ats, 0 ≤ a ∧ a < (S.firm.length : Int)
  fuel : S.fuel ≤ 9223372036854775807

def newS (n : Nat) : St := ⟨List.replicate n zeroPage, [], [], -1, false⟩
def readOf (S : St) (i : Int) : List Value × Int := readN S.newest S.off i
def writeOf (S : St) (i : Int) (p : List Value) : St × Int :=
  match noWrite S.firm S.fuel S.off i with
  | some r => ({ S with fuel := r.1, off := r.2.1 }, r.2.2)
  | none => ({ S with ats := S.ats ++ [i], what := S.what ++ [p], fuel := (stepS S.fuel false).1, off := false }, 0)
def flushOf (S : St) : St × Int :=
  if S.off = true ∨ S.fuel = 0 then ({ S with off := true }, 10) else (⟨flushS S.firm S.ats S.what, [], [], (stepS S.fuel false).1, false⟩, 0)
def crashOf (S : St) (pick : List Int) : St := ⟨crashS 0 S.firm S.ats S.what pick, [], [], -1, false⟩
def fuelOf (S : St) (n : Int) : St := { S with fuel := n }

theorem St.newest_length (S : St) : S.newest.length = S.firm.length := flushS_length _ _ _

/-- What is the newest is what was written last, or firm. -/
theorem flushS_get : ∀ (ats : List Int) (what : List (List Value)) (firm : List (List Value)) (i : Nat), what.length = ats.length → (∀ a ∈ ats, 0 ≤ a ∧ a < (firm.length : Int)) →
    (flushS firm ats what)[i]? = match seen ats what i with | some p => some p | none => firm[i]?
  | [], [], firm, i, _, _ => by simp [flushS, seen]
  | [], _ :: _, _, _, h, _ => by simp at h
  | _ :: _, [], _, _, h, _ => by simp at h
  | a :: xs, p :: ys, firm, i, h, hin => by
    have ha := hin a (by simp)
    simp only [flushS, seen]
    rw [flushS_get xs ys (firm.set a.toNat p) i (by simpa using h) (fun x hx => by rw [List.length_set]; exact hin x (by simp [hx]))]
    cases hs : seen xs ys (i : Int) with
    | some q => rfl
    | none =>
      simp only
      by_cases e : a = (i : Int)
      · subst e
        rw [if_pos rfl, Int.toNat_natCast, List.getElem?_set_self (by omega)]
      · rw [if_neg e, List.getElem?_set_ne (by omega)]
theorem read_seen {S : St} (h : Good S) (i : Int) : readS S.firm S.ats S.what S.off i = readOf S i := by
  unfold readS readOf readN reachN
  rw [S.newest_length]
  by_cases ho : S.off = true
  · simp [ho]
  · by_cases hb : i < 0 ∨ (S.firm.length : Int) ≤ i
    · simp [ho, hb]
    · simp only [ho, hb, if_false]
      obtain ⟨j, rfl⟩ : ∃ j : Nat, i = (j : Int) := ⟨i.toNat, by omega⟩
      have hg := flushS_get S.ats S.what S.firm j h.same h.inr
      simp only [Bool.false_eq_true, if_false, if_true, Int.toNat_natCast, List.getD_eq_getElem?_getD, St.newest, hg]
      cases seen S.ats S.what (j : Int) <;> simp

theorem step_le {f : Int} (h : f ≤ 9223372036854775807) : (stepS f false).1 ≤ 9223372036854775807 := by
  unfold stepS
  split
  · exact h
  · split
    · exact h
    · split
      · show f - 1 ≤ _; omega
      · exact h
theorem good_new (n : Nat) (h1 : 1 ≤ n) (h2 : n ≤ 4096) : Good (newS n) := ⟨rfl, by simp [newS]; omega, by simp [newS]; omega, fun a ha => by simp [newS] at ha, by simp [newS]⟩
theorem noWrite_in {firm : List (List Value)} {fuel : Int} {off : Bool} {i : Int} (h : noWrite firm fuel off i = none) : off = false ∧ (0 ≤ i ∧ i < (firm.length : Int)) ∧ fuel ≠ 0 := by
  unfold noWrite at h
  split at h
  · cases h
  · split at h
    · cases h
    · split at h
      · cases h
      · exact ⟨by simpa using ‹¬ off = true›, by omega, by assumption⟩
theorem noWrite_fuel {firm : List (List Value)} {fuel : Int} {off : Bool} {i : Int} {r : Int × Bool × Int} (h : noWrite firm fuel off i = some r) : r.1 = fuel := by
  unfold noWrite at h
  split at h
  · cases h; rfl
  · split at h
    · cases h; rfl
    · split at h
      · cases h; rfl
      · cases h
theorem good_write {S : St} (h : Good S) (i : Int) (p : List Value) : Good (writeOf S i p).1 := by
  unfold writeOf
  cases hn : noWrite S.firm S.fuel S.off i with
  | some r => exact ⟨h.same, h.pos, h.le, h.inr, by rw [show ({ S with fuel := r.1, off := r.2.1 } : St).fuel = r.1 from rfl, noWrite_fuel hn]; exact h.fuel⟩
  | none =>
    obtain ⟨_, hi, _⟩ := noWrite_in hn
    refine ⟨by simp [h.same], h.pos, h.le, fun a ha => ?_, step_le h.fuel⟩
    rcases List.mem_append.1 ha with ha | ha
    · exact h.inr a ha
    · rw [List.mem_singleton.1 ha]; exact hi
theorem good_flush {S : St} (h : Good S) : Good (flushOf S).1 := by
  unfold flushOf
  split
  · exact ⟨h.same, h.pos, h.le, h.inr, h.fuel⟩
  · exact ⟨rfl, by simp only [flushS_length]; exact h.pos, by simp only [flushS_length]; exact h.le, fun a ha => by simp at ha, step_le h.fuel⟩
theorem good_crash {S : St} (h : Good S) (pick : List Int) : Good (crashOf S pick) :=
  ⟨rfl, by simp only [crashOf, crashS_length]; exact h.pos, by simp only [crashOf, crashS_length]; exact h.le, fun a ha => by simp [crashOf] at ha, by simp [crashOf]⟩
theorem good_fuel {S : St} (h : Good S) (n : Int) (hn : n ≤ 9223372036854775807) : Good (fuelOf S n) := ⟨h.same, h.pos, h.le, h.inr, hn⟩
theorem write_firm (S : St) (i : Int) (p : List Value) : (writeOf S i p).1.firm = S.firm := by unfold writeOf; cases noWrite S.firm S.fuel S.off i <;> rfl
theorem flush_firm (S : St) : (flushOf S).1.firm.length = S.firm.length := by unfold flushOf; split; rfl; exact flushS_length _ _ _
theorem crash_firm (S : St) (pick : List Int) : (crashOf S pick).firm.length = S.firm.length := crashS_length _ _ _ _ _
theorem write_count (S : St) (i : Int) (p : List Value) : (writeOf S i p).1.ats.length ≤ S.ats.length + 1 := by unfold writeOf; cases noWrite S.firm S.fuel S.off i <;> simp
theorem flush_count (S : St) : (flushOf S).1.ats.length ≤ S.ats.length := by unfold flushOf; split <;> simp

/-- The program's disk in that state, in block g; its blocks are those of F. -/
def PD (S : St) (F : Nat → Prop) (g : Nat) (w : World) : Prop := ∃ vf vn vp, DiskAt g vf vn vp S.firm S.newest S.ats S.what S.fuel S.off w ∧ ∀ k, F k ↔ Foot g vf vn vp k
/-- The reference's. -/
def RD (S : St) (F : Nat → Prop) (g : Nat) (w : World) : Prop := ∃ vf va vw, RefAt g vf va vw S.firm S.ats S.what S.fuel S.off w ∧ ∀ k, F k ↔ Foot g vf va vw k

section
variable {S : St} {F G : Nat → Prop} {g : Nat} {w w' : World}
theorem PD.lt (h : PD S F g w) {k : Nat} (hk : F k) : k < w.heap.size := by obtain ⟨_, _, _, hD, hF⟩ := h; exact hD.foot_lt ((hF k).1 hk)
theorem PD.keep (h : PD S F g w) (ho : Only G w w') (hG : ∀ k, F k → ¬ G k) : PD S F g w' := by obtain ⟨vf, vn, vp, hD, hF⟩ := h; exact ⟨vf, vn, vp, hD.only ho (fun k hk => hG k ((hF k).2 hk)), hF⟩
theorem PD.below (h : PD S F g w) (hb : Below w.heap.size w w') : PD S F g w' := h.keep (G := fun _ => False) (Only.of_below hb) (fun _ _ => id)
theorem RefAt.only {g : Nat} {vf va vw : Value} {firm what : List (List Value)} {ats : List Int} {fuel : Int} {off : Bool} (h : RefAt g vf va vw firm ats what fuel off w) (ho : Only G w w') (hF : ∀ k, Foot g vf va vw k → ¬ G k) : RefAt g vf va vw firm ats what fuel off w' := by
  have row : ∀ {e : TypeId} {s n : Nat} {v : Value} {xs : List Value}, w.ownsRow 0 e s v n xs → (∀ k, v.ownBlock = some k → ¬ G k) → w'.ownsRow 0 e s v n xs := by
    intro e s n v xs hr hk
    refine ⟨hr.1, hr.2.imp id ?_⟩
    rintro ⟨b, cap, cur, hv, hb, hg, rest⟩
    exact ⟨b, cap, cur, hv, hb, (ho.block b (Array.getElem?_eq_some_iff.1 hg).1 (hk b (by rw [hv]; rfl))).trans hg, rest⟩
  exact ⟨(ho.block g h.lt (hF g (.inl rfl))).trans h.at_, row h.rowF (fun k e => hF k (.inr (.inl e))), row h.rowA (fun k e => hF k (.inr (.inr (.inl e)))), row h.rowW (fun k e => hF k (.inr (.inr (.inr e)))), h.firmOk, h.whatOk, h.apart⟩
theorem RefAt.foot_lt {g : Nat} {vf va vw : Value} {firm what : List (List Value)} {ats : List Int} {fuel : Int} {off : Bool} (h : RefAt g vf va vw firm ats what fuel off w) {k : Nat} (hk : Foot g vf va vw k) : k < w.heap.size := by
  rcases hk with rfl | e | e | e
  · exact h.lt
  · exact (h.rowF.lt _ e).2
  · exact (h.rowA.lt _ e).2
  · exact (h.rowW.lt _ e).2
theorem RD.lt (h : RD S F g w) {k : Nat} (hk : F k) : k < w.heap.size := by obtain ⟨_, _, _, hD, hF⟩ := h; exact hD.foot_lt ((hF k).1 hk)
theorem RD.keep (h : RD S F g w) (ho : Only G w w') (hG : ∀ k, F k → ¬ G k) : RD S F g w' := by obtain ⟨vf, vn, vp, hD, hF⟩ := h; exact ⟨vf, vn, vp, hD.only ho (fun k hk => hG k ((hF k).2 hk)), hF⟩
theorem RD.below (h : RD S F g w) (hb : Below w.heap.size w w') : RD S F g w' := h.keep (G := fun _ => False) (Only.of_below hb) (fun _ _ => id)
theorem Only.base {B : Nat} (h : Only F w w') (hB : B ≤ w.heap.size) (hF : ∀ k, F k → B ≤ k) : Below B w w' := ⟨h.os, h.tape, h.output, h.size, fun k hk => h.block k (by omega) (fun hf => by have := hF k hf; omega)⟩
theorem PD.pages (h : PD S F g w) : Pages S.firm ∧ Pages S.what ∧ Pages S.newest := by obtain ⟨_, _, _, hD, _⟩ := h; exact ⟨hD.firmOk, hD.whatOk, hD.newOk⟩
theorem RD.pages (h : RD S F g w) : Pages S.firm ∧ Pages S.what := by obtain ⟨_, _, _, hD, _⟩ := h; exact ⟨hD.firmOk, hD.whatOk⟩

/-! The program's calls. -/
def PDNew (S : St) (w : World) (v : Value) (w' : World) : Prop := ∃ g F, v = .pointer (some ⟨g, 0, none⟩) ∧ PD S F g w' ∧ Below w.heap.size w w' ∧ ∀ k, F k → w.heap.size ≤ k
def PDTurn (S : St) (n : Int) (F : Nat → Prop) (g : Nat) (w : World) (v : Value) (w' : World) : Prop := ∃ F', ErrV w' n v ∧ PD S F' g w' ∧ Only F w w' ∧ ∀ k, F' k → F k ∨ w.heap.size ≤ k

def PDN (S : St) (w : World) (e : Ending) (w' : World) : Prop := ∃ v, e = .returned v ∧ PDNew S w v w'
def PDN2 (S : St) (w : World) (e : Ending) (w' : World) : Prop := ∃ v, e = .returned (.tuple #[v, .nilIface]) ∧ PDNew S w v w'
def PDT (S : St) (n : Int) (F : Nat → Prop) (g : Nat) (w : World) (e : Ending) (w' : World) : Prop := ∃ v, e = .returned v ∧ PDTurn S n F g w v w'
theorem pd_new (n : Nat) (h1 : 1 ≤ n) (h2 : n ≤ 4096) (w : World) : Calls Tryd.prog 10 #[.int .i64 n] w (PDN2 (newS n) w) := by
  refine (pnew_any n h1 h2 w).mono ?_
  rintro e w' ⟨g, vf, vn, rfl, hD, hb, hF⟩
  exact ⟨_, rfl, g, _, rfl, ⟨vf, vn, _, hD, fun _ => Iff.rfl⟩, hb, hF⟩
theorem pd_read (h : PD S F g w) (i : Int) : Calls Tryd.prog 17 #[.pointer (some ⟨g, 0, none⟩), .int .i64 i] w (PReadPost (readOf S i).1 (readOf S i).2 w) := by
  obtain ⟨vf, vn, vp, hD, _⟩ := h
  exact pread_any hD S.newest_length i
theorem pd_write (h : PD S F g w) (hG : Good S) (hn : S.ats.length ≤ 1048576) (i : Int) (p : List Value) (hp : IsPage p) :
    Calls Tryd.prog 19 #[.pointer (some ⟨g, 0, none⟩), .int .i64 i, .agg p.toArray] w (PDT (writeOf S i p).1 (writeOf S i p).2 F g w) := by
  obtain ⟨vf, vn, vp, hD, hF⟩ := h
  unfold writeOf
  cases hw : noWrite S.firm S.fuel S.off i with
  | some r =>
    refine (pwrite_no hD hG.fuel i p r hw).mono ?_
    rintro e w' ⟨v, rfl, hE, hD', ho⟩
    exact ⟨v, rfl, F, hE, ⟨vf, vn, vp, hD', hF⟩, ⟨ho.os, ho.tape, ho.output, ho.size, fun k hk hn => ho.block k hk (fun e => hn ((hF k).2 (.inl e)))⟩, fun k hk => .inl hk⟩
  | none =>
    obtain ⟨hoff, hi, hf⟩ := noWrite_in hw
    rw [hoff] at hD
    refine (pwrite_ok hD S.newest_length hn hG.fuel i hi hG.le hf p hp).mono ?_
    rintro e w' ⟨rfl, vp', hD', ho, hfo⟩
    have hnew : S.newest.set i.toNat p = St.newest { S with ats := S.ats ++ [i], what := S.what ++ [p], fuel := (stepS S.fuel false).1, off := false } := by
      show (flushS S.firm S.ats S.what).set i.toNat p = flushS S.firm (S.ats ++ [i]) (S.what ++ [p])
      have : ∀ (xs : List Int) (ys firm : List (List Value)), ys.length = xs.length → (flushS firm xs ys).set i.toNat p = flushS firm (xs ++ [i]) (ys ++ [p]) := by
        intro xs
        induction xs with
        | nil => intro ys firm h; cases ys with
          | nil => rfl
          | cons => simp at h
        | cons a xs ih => intro ys firm h; cases ys with
          | nil => simp at h
          | cons q ys => simp only [List.cons_append, flushS]; exact ih ys _ (by simpa using h)
      exact this _ _ _ hG.same
    rw [hnew] at hD'
    exact ⟨_, rfl, Foot g vf vn vp', ErrV.nil, ⟨vf, vn, vp', hD', fun _ => Iff.rfl⟩, ⟨ho.os, ho.tape, ho.output, ho.size, fun k hk hn => ho.block k hk (fun e => hn ((hF k).2 e))⟩, fun k hk => (hfo k hk).imp (hF k).2 id⟩
theorem pd_flush (h : PD S F g w) (hG : Good S) (hn : S.ats.length ≤ 1048576) :
    Calls Tryd.prog 20 #[.pointer (some ⟨g, 0, none⟩)] w (PDT (flushOf S).1 (flushOf S).2 F g w) := by
  obtain ⟨vf, vn, vp, hD, hF⟩ := h
  unfold flushOf
  by_cases hno : S.off = true ∨ S.fuel = 0
  · rw [if_pos hno]
    refine (pflush_no hD hG.fuel hno).mono ?_
    rintro e w' ⟨v, rfl, hE, hD', ho⟩
    exact ⟨v, rfl, F, hE, ⟨vf, vn, vp, hD', hF⟩, ⟨ho.os, ho.tape, ho.output, ho.size, fun k hk hn => ho.block k hk (fun e => hn ((hF k).2 (.inl e)))⟩, fun k hk => .inl hk⟩
  · rw [if_neg hno]
    have hoff : S.off = false := by simpa using (fun e => hno (.inl e) : ¬ S.off = true)
    rw [hoff] at hD
    refine (pflush_ok hD hn hG.fuel (fun e => hno (.inr e)) hG.le hG.inr).mono ?_
    rintro e w' ⟨rfl, hD', ho⟩
    refine ⟨_, rfl, Foot g vf vn (.slice none 0 0), ErrV.nil, ⟨vf, vn, _, ?_, fun _ => Iff.rfl⟩, ⟨ho.os, ho.tape, ho.output, ho.size, fun k hk hn => ho.block k hk (fun e => hn ((hF k).2 e))⟩, fun k hk => .inl ((hF k).2 ?_)⟩
    · exact hD'
    · rcases hk with e | e | e | e
      · exact .inl e
      · exact .inr (.inl e)
      · exact .inr (.inr (.inl e))
      · simp [Value.ownBlock] at e
theorem pd_crash (h : PD S F g w) (hG : Good S) (hn : S.ats.length ≤ 1048576) (ap : Option Addr) (cp : Nat) (pick : List Int) (hp : Nums w.heap.size w ap pick) (hpn : pick.length ≤ 9223372036854775807) :
    Calls Tryd.prog 21 #[.pointer (some ⟨g, 0, none⟩), .slice ap pick.length cp] w (PDN (crashOf S pick) w) := by
  obtain ⟨vf, vn, vp, hD, hF⟩ := h
  refine (pcrash_any hD hn ⟨hG.pos, hG.le⟩ hG.inr ap cp hp hpn).mono ?_
  rintro e w' ⟨g', vf', vn', rfl, hD', hb, hF'⟩
  exact ⟨_, rfl, g', _, rfl, ⟨vf', vn', _, hD', fun _ => Iff.rfl⟩, hb, hF'⟩
theorem pd_fuel (h : PD S F g w) (n : Int) :
    Calls Tryd.prog 22 #[.pointer (some ⟨g, 0, none⟩), .int .i64 n] w fun e w' => e = .returned (.tuple #[]) ∧ PD (fuelOf S n) F g w' ∧ Only F w w' := by
  obtain ⟨vf, vn, vp, hD, hF⟩ := h
  refine (fuel_any hD n).mono ?_
  rintro e w' ⟨rfl, hD', hg⟩
  exact ⟨rfl, ⟨vf, vn, vp, hD', hF⟩, Only.of_grown hg (fun k e => (hF k).2 (.inl (by simpa using e.symm)))⟩
theorem pd_off (h : PD S F g w) : Calls Tryd.prog 14 #[.pointer (some ⟨g, 0, none⟩)] w fun e w' => e = .returned (.bool S.off) ∧ w' = w := by
  obtain ⟨vf, vn, vp, hD, hF⟩ := h
  exact off_any hD
theorem pd_pending (h : PD S F g w) : Calls Tryd.prog 15 #[.pointer (some ⟨g, 0, none⟩)] w fun e w' => e = .returned (.int .i64 S.ats.length) ∧ w' = w := by
  obtain ⟨vf, vn, vp, hD, hF⟩ := h
  exact pending_any hD
theorem pd_size (h : PD S F g w) : Calls Tryd.prog 16 #[.pointer (some ⟨g, 0, none⟩)] w fun e w' => e = .returned (.int .i64 S.firm.length) ∧ w' = w := by
  obtain ⟨vf, vn, vp, hD, hF⟩ := h
  exact size_any hD

/-! The reference's. -/
def RDNew (S : St) (w : World) (v : Value) (w' : World) : Prop := ∃ g F, v = .pointer (some ⟨g, 0, none⟩) ∧ RD S F g w' ∧ Below w.heap.size w w' ∧ ∀ k, F k → w.heap.size ≤ k
def RDTurn (S : St) (F : Nat → Prop) (g : Nat) (w w' : World) : Prop := ∃ F', RD S F' g w' ∧ Only F w w' ∧ ∀ k, F' k → F k ∨ w.heap.size ≤ k
def RDN (S : St) (w : World) (e : Ending) (w' : World) : Prop := ∃ v, e = .returned v ∧ RDNew S w v w'
def RDN2 (S : St) (w : World) (e : Ending) (w' : World) : Prop := ∃ v, e = .returned (.tuple #[v, .int .i64 0]) ∧ RDNew S w v w'
def RDT (S : St) (n : Int) (F : Nat → Prop) (g : Nat) (w : World) (e : Ending) (w' : World) : Prop := e = .returned (.int .i64 n) ∧ RDTurn S F g w w'
theorem rd_new (n : Nat) (h1 : 1 ≤ n) (h2 : n ≤ 4096) (w : World) : Calls Tryd.prog 11 #[.int .i64 n] w (RDN2 (newS n) w) := by
  refine (rnew_any n h1 h2 w).mono ?_
  rintro e w' ⟨g, vf, rfl, hD, hb, hF⟩
  exact ⟨_, rfl, g, _, rfl, ⟨vf, _, _, hD, fun _ => Iff.rfl⟩, hb, hF⟩
theorem rd_read (h : RD S F g w) (hG : Good S) (hn : S.ats.length ≤ 1048576) (i : Int) : Calls Tryd.prog 18 #[.pointer (some ⟨g, 0, none⟩), .int .i64 i] w (ReadPost (readOf S i).1 (readOf S i).2 w) := by
  obtain ⟨vf, vn, vp, hD, _⟩ := h
  have := rread_any hD hG.same (by omega) i
  rw [read_seen hG] at this
  exact this
theorem rd_write (h : RD S F g w) (hG : Good S) (hn : S.ats.length ≤ 1048576) (i : Int) (p : List Value) (hp : IsPage p) :
    Calls Tryd.prog 26 #[.pointer (some ⟨g, 0, none⟩), .int .i64 i, .agg p.toArray] w (RDT (writeOf S i p).1 (writeOf S i p).2 F g w) := by
  obtain ⟨vf, va, vw, hD, hF⟩ := h
  unfold writeOf
  cases hw : noWrite S.firm S.fuel S.off i with
  | some r =>
    refine (rwrite_no hD hG.fuel i p r hw).mono ?_
    rintro e w' ⟨rfl, hD', ho⟩
    exact ⟨rfl, F, ⟨vf, va, vw, hD', hF⟩, ⟨ho.os, ho.tape, ho.output, ho.size, fun k hk hn => ho.block k hk (fun e => hn ((hF k).2 (.inl e)))⟩, fun k hk => .inl hk⟩
  | none =>
    obtain ⟨hoff, hi, hf⟩ := noWrite_in hw
    rw [hoff] at hD
    refine (rwrite_ok hD hG.same hn hG.fuel i hi hf p hp).mono ?_
    rintro e w' ⟨rfl, va', vw', hD', ho, hfo⟩
    exact ⟨rfl, Foot g vf va' vw', ⟨vf, va', vw', hD', fun _ => Iff.rfl⟩, ⟨ho.os, ho.tape, ho.output, ho.size, fun k hk hn => ho.block k hk (fun e => hn ((hF k).2 e))⟩, fun k hk => (hfo k hk).imp (hF k).2 id⟩
theorem rd_flush (h : RD S F g w) (hG : Good S) (hn : S.ats.length ≤ 1048576) :
    Calls Tryd.prog 27 #[.pointer (some ⟨g, 0, none⟩)] w (RDT (flushOf S).1 (flushOf S).2 F g w) := by
  obtain ⟨vf, va, vw, hD, hF⟩ := h
  unfold flushOf
  by_cases hno : S.off = true ∨ S.fuel = 0
  · rw [if_pos hno]
    refine (rflush_no hD hG.fuel hno).mono ?_
    rintro e w' ⟨rfl, hD', ho⟩
    exact ⟨rfl, F, ⟨vf, va, vw, hD', hF⟩, ⟨ho.os, ho.tape, ho.output, ho.size, fun k hk hn => ho.block k hk (fun e => hn ((hF k).2 (.inl e)))⟩, fun k hk => .inl hk⟩
  · rw [if_neg hno]
    have hoff : S.off = false := by simpa using (fun e => hno (.inl e) : ¬ S.off = true)
    rw [hoff] at hD
    refine (rflush_ok hD hG.same hn hG.fuel (fun e => hno (.inr e)) hG.le hG.inr).mono ?_
    rintro e w' ⟨rfl, hD', ho⟩
    refine ⟨rfl, Foot g vf (.slice none 0 0) (.slice none 0 0), ⟨vf, _, _, hD', fun _ => Iff.rfl⟩, ⟨ho.os, ho.tape, ho.output, ho.size, fun k hk hn => ho.block k hk (fun e => hn ((hF k).2 e))⟩, fun k hk => .inl ((hF k).2 ?_)⟩
    rcases hk with e | e | e | e
    · exact .inl e
    · exact .inr (.inl e)
    · simp [Value.ownBlock] at e
    · simp [Value.ownBlock] at e
theorem rd_crash (h : RD S F g w) (hG : Good S) (hn : S.ats.length ≤ 1048576) (ap : Option Addr) (cp : Nat) (pick : List Int) (hp : Nums w.heap.size w ap pick) (hpn : pick.length ≤ 9223372036854775807) :
    Calls Tryd.prog 28 #[.pointer (some ⟨g, 0, none⟩), .slice ap pick.length cp] w (RDN (crashOf S pick) w) := by
  obtain ⟨vf, va, vw, hD, hF⟩ := h
  refine (rcrash_any hD hG.same hn ⟨hG.pos, hG.le⟩ hG.inr ap cp hp hpn).mono ?_
  rintro e w' ⟨g', vf', rfl, hD', hb, hg', hF'⟩
  refine ⟨_, rfl, g', Foot g' vf' (.slice none 0 0) (.slice none 0 0), rfl, ⟨vf', _, _, hD', fun _ => Iff.rfl⟩, hb, fun k hk => ?_⟩
  rcases hk with e | e | e | e
  · omega
  · exact hF' k e
  · simp [Value.ownBlock] at e
  · simp [Value.ownBlock] at e
end
end Go.Proofs.YtbmpbcnoclhhgaaDoor
