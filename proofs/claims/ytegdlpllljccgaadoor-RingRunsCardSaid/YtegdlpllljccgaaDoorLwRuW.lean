/-
  The world of 'RingRuns': two disks in one state, two rings over them, and what Add does to both.
-/
import Derived.Test.YtegdlpllljccgaaDoorLwOpW
import Derived.Test.YtegdlpllljccgaaDoorPrLast
set_option linter.unusedSimpArgs false
set_option linter.unusedVariables false
namespace Go.Proofs.YtegdlpllljccgaaDoor
open Go.RowKit Sh Go.Extern.Stop Go.Stop Go.Extern

/-! A region that draws, walked in phases: behind some first operations others may ask for another condition on worlds. -/
section
variable {P : Program} {ops : Array Oper} {Q : Exit → Act → World → Prop} {md : Region.Mode} {S S' : World → Prop} {z z' : Nat}

/-- Each operation behind number n waits for one from number n on. -/
def barB (md : Region.Mode) (ops : Array Oper) (n : Nat) : Bool :=
  (List.range ops.size).all fun t => decide (t ≤ n) || (List.range t).any fun j => decide (n ≤ j) && Region.waitsFor md ops t j
theorem bar_waits {n : Nat} {listed : Array Bool} (hs : Region.sinkB md ops n = true) (hb : barB md ops n = true) (inv : HeadInv md ops n listed) :
    ∀ (d i : Nat), n - i = d → i < n → listed.getD i true = false → ∀ t, n ≤ t → t ∉ Region.ready md ops listed := by
  intro d
  induction d using Nat.strongRecOn with
  | _ d ih =>
    intro i hd hi hun t ht hr
    obtain ⟨_, ot, hot, hall⟩ := mem_ready.1 hr
    have htlt : t < ops.size := (Array.getElem?_eq_some_iff.1 hot).1
    by_cases htn : t = n
    · subst htn
      have h1 := List.all_eq_true.1 hs i (List.mem_range.2 hi)
      obtain ⟨j, hj, hj2⟩ := List.any_eq_true.1 h1
      simp only [Bool.and_eq_true, decide_eq_true_eq] at hj2
      obtain ⟨oj, hoj, e, he, hb', hon⟩ := Region.waitsFor_spec hj2.2
      have hjle : j ≤ t := by have := List.mem_range.1 hj; omega
      by_cases hjt : j = t
      · subst hjt
        have : oj = ot := Option.some.inj (hoj.symm.trans hot)
        subst this
        have h2 := hall e he hb'
        rw [hon, getD_both hun] at h2
        cases h2
      · cases hl : listed.getD j false with
        | true =>
          have h2 := inv.closed j oj hoj hl e he hb'
          rw [hon, getD_both hun] at h2
          cases h2
        | false =>
          have hjs : j < listed.size := by rw [inv.size]; omega
          exact ih (t - j) (by omega) j rfl (by omega) (getD_in hjs hl) t (Nat.le_refl _) hr
    · have h1 := List.all_eq_true.1 hb t (List.mem_range.2 htlt)
      simp only [Bool.or_eq_true, decide_eq_true_eq] at h1
      rcases h1 with h1 | h1
      · omega
      · obtain ⟨j, hj, hj2⟩ := List.any_eq_true.1 h1
        simp only [Bool.and_eq_true, decide_eq_true_eq] at hj2
        obtain ⟨o', ho', e, he, hb', hon⟩ := Region.waitsFor_spec hj2.2
        have : o' = ot := Option.some.inj (ho'.symm.trans hot)
        subst this
        have h2 := hall e he hb'
        have hjt : j < t := List.mem_range.1 hj
        rw [hon, getD_both (inv.tail j hj2.1 (by omega))] at h2
        cases h2

theorem upb_first {i : Nat} {oi : Oper} {x : Value} (hi : ops[i]? = some oi) (hsel : ∀ (j : Nat) (o : Oper) cs b, ops[j]? = some o → o.op ≠ .select cs b) (hQ : ∀ c a w, Q (.panic c) (a.put oi.dst x) w → Q (.panic c) a w)
    (hs : Region.sinkB md ops z = true) (hc : barB md ops z = true) (hiz : i < z) :
    ∀ (n : Nat) (l : Array Bool) (a : Act) (w : World), HeadInv md ops z l → (∀ j oj, ops[j]? = some oj → j ≠ i → l.getD j true = false → (∀ e ∈ oj.after, Region.binds md e = true → e.on ≠ i) → oi.apart ops oj = true) →
      i ∈ Region.ready md ops l → YieldsIf P ops S oi x a → S w → upAny P md ops Q S z n (l.setIfInBounds i true) (a.put oi.dst x) w → upAny P md ops Q S z (n + 1) l a w
  | 0, l, a, w => fun _ _ hr hy hS H => ⟨(fun h => by rw [h] at hr; cases hr), fun j hj => by
      by_cases e : j = i
      · rw [e]; exact hy.wpOp hi hS ⟨.inr hS, H⟩
      · have := ready_mono hj e
        rw [H.1] at this; cases this⟩
  | n + 1, l, a, w => fun hV hfree hr hy hS H => ⟨(fun h => by rw [h] at hr; cases hr), fun j hj => by
      by_cases e : j = i
      · rw [e]; exact hy.wpOp hi hS ⟨.inr hS, H⟩
      · have hiu := (mem_ready.1 hr).1
        have hjz : j < z := Nat.lt_of_not_le fun hge => bar_waits hs hc hV _ i rfl hiz hiu j hge hj
        have hstep := H.2 j (ready_mono hj e)
        obtain ⟨hun, oj, hoj, hall⟩ := mem_ready.1 hj
        have hno : ∀ d ∈ oj.after, Region.binds md d = true → d.on ≠ i := fun d hd hb hq => by
          have u1 := hall d hd hb
          rw [hq, getD_both hiu] at u1
          cases u1
        refine wpOp_mono (fun b v hb => ?_) (wpOp_putIf hoj (hfree j oj hoj e hun hno) (fun cs b => hsel i oi cs b hi) (fun cs b => hsel j oj cs b hoj) hQ hy hstep)
        have hSv : S v := hb.2.1.resolve_left (Nat.not_le_of_lt hjz)
        exact ⟨.inr hSv, upb_first hi hsel hQ hs hc hiz n _ b v (hV.set hj hjz) (fun k ok hk hki hku hkn => hfree k ok hk hki (by
            by_cases q : j = k
            · rw [← q]; exact hun
            · rwa [getD_set_ne true q] at hku) hkn) (ready_mono hr (Ne.symm e)) hb.1 hSv (by rw [Array.setIfInBounds_comm _ _ e]; exact hb.2.2)⟩⟩

/-- An operation that only yields, taken first; number z is a bar. -/
theorem upb_take {i : Nat} {oi : Oper} {v : Value} {fuel : Nat} {listed : Array Bool} {a : Act} {w : World} (hi : ops[i]? = some oi)
    (hs : Region.noSelect ops = true) (hb : (Region.sinkB md ops z && barB md ops z) = true) (hf : (Region.free md ops listed i && (Region.ready md ops listed).contains i && decide (i < z)) = true)
    (hQ : ∀ c a w, Q (.panic c) (a.put oi.dst v) w → Q (.panic c) a w) (hy : YieldsIf P ops S oi v a) (hS : S w)
    (h : upHead P md ops Q S z fuel (listed.setIfInBounds i true) (a.put oi.dst v) w) : upHead P md ops Q S z (fuel + 1) listed a w := fun hV => by
  simp only [Bool.and_eq_true, decide_eq_true_eq] at hf hb
  obtain ⟨⟨f1, f2⟩, f6⟩ := hf
  have hr : i ∈ Region.ready md ops listed := by simpa using f2
  exact upb_first hi (Region.noSelect_spec hs) hQ hb.1 hb.2 f6 fuel listed a w hV (Region.free_spec hi f1) hr hy hS (h (hV.set hr f6))

/-- The conditions of a bar, once for all that is taken ahead of it. -/
theorem up_bar {fuel : Nat} {listed : Array Bool} {a : Act} {w : World} (hs : Region.noSelect ops = true) (hb : (Region.sinkB md ops z && barB md ops z) = true)
    (h : Hid (Region.noSelect ops = true ∧ (Region.sinkB md ops z && barB md ops z) = true) → upHead P md ops Q S z fuel listed a w) : upHead P md ops Q S z fuel listed a w := h (Lib.hid ⟨hs, hb⟩)
theorem upb_takeH {i : Nat} {oi : Oper} {v : Value} {fuel : Nat} {listed : Array Bool} {a : Act} {w : World} (hbar : Hid (Region.noSelect ops = true ∧ (Region.sinkB md ops z && barB md ops z) = true)) (hi : ops[i]? = some oi)
    (hf : (Region.free md ops listed i && (Region.ready md ops listed).contains i && decide (i < z)) = true)
    (hQ : ∀ c a w, Q (.panic c) (a.put oi.dst v) w → Q (.panic c) a w) (hy : YieldsIf P ops S oi v a) (hS : S w)
    (h : upHead P md ops Q S z fuel (listed.setIfInBounds i true) (a.put oi.dst v) w) : upHead P md ops Q S z (fuel + 1) listed a w := upb_take hi hbar.out.1 hbar.out.2 hf hQ hy hS h
theorem set_own {α : Type} (u : α) (t : Array α) (i : Nat) : t.setIfInBounds i (t.getD i u) = t := by
  apply Array.ext
  · simp
  · intro j h1 h2
    rw [Array.getElem_setIfInBounds]
    split
    · rename_i h; subst h; simp [Array.getD, h2]
    · rfl
theorem fold_own {α : Type} (u : α) (t : Array α) : ∀ is : List Nat, is.foldl (fun s i => s.setIfInBounds i (t.getD i u)) t = t
  | [] => rfl
  | i :: is => by rw [List.foldl_cons, set_own]; exact fold_own u t is
/-- What stands in some slots is forgotten. -/
theorem up_forget (is : List Nat) {n : Nat} {l : Array Bool} {a : Act} {w : World} (h : ∀ f : Nat → Value, upHead P md ops Q S z n l ⟨is.foldl (fun s i => s.setIfInBounds i (f i)) a.tmps, a.defers⟩ w) : upHead P md ops Q S z n l a w := by
  have h2 := h (fun i => a.tmps.getD i undef)
  rw [fold_own] at h2
  exact h2
/-- A goal that several ways come to, each with slots and a world of its own: the first one names it. -/
theorem cutF {K R : (Nat → Value) → World → Prop} {G : Prop} (walk : (∀ f w, R f w → K f w) → G) (pf : ∀ f w, R f w → K f w) : G := walk pf
theorem up_change : ∀ (n : Nat) (l : Array Bool) (a : Act) (w : World), (∀ j, j < z → l.getD j true = true) → upAny P md ops Q S' z' n l a w → upAny P md ops Q S z n l a w
  | 0, _, _, _, _, h => h
  | n + 1, l, a, w, hl, h => ⟨h.1, fun k hk => by
      have hun := (mem_ready.1 hk).1
      have hkz : z ≤ k := Nat.le_of_not_lt fun hlt => by rw [hl k hlt] at hun; cases hun
      refine wpOp_mono (fun b v hb => ⟨.inl hkz, up_change n _ b v (fun j hj => ?_) hb.2⟩) (h.2 k hk)
      rw [getD_set_ne true (by omega)]
      exact hl j hj⟩
/-- Another phase: all ahead of number z are done. -/
theorem up_phase (z' : Nat) (S' : World → Prop) {n : Nat} {l : Array Bool} {a : Act} {w : World} (hz : decide (z ≤ z') = true) (hl : ((List.range z).all fun j => l.getD j true) = true)
    (h : upHead P md ops Q S' z' n l a w) : upHead P md ops Q S z n l a w := fun hV =>
  up_change n l a w (fun j hj => List.all_eq_true.1 hl j (List.mem_range.2 hj)) (h ⟨hV.size, hV.closed, fun t ht ht' => hV.tail t (by have := of_decide_eq_true hz; omega) ht'⟩)
end

structure RuW (B gd gk g q n : Nat) (F G : Nat → Prop) (Sp Sr : St) (m : Mk) (used : Nat) (m2 : Mk) (used2 : Nat) (w : World) : Prop where
  pd : PD Sp F gd w
  rd : RD Sr G gk w
  ring : PrAt g gd 3 n m used w
  ref : RgAt q gk 3 n m2 used2 w
  sep : ∀ j, F j → ¬ G j
  ng : ¬ F g ∧ ¬ G g ∧ g ≠ q
  nq : ¬ F q ∧ ¬ G q
  lowF : ∀ j, F j → B ≤ j
  lowG : ∀ j, G j → B ≤ j
  low : B ≤ g ∧ B ≤ q
section
variable {B gd gk g q n : Nat} {F G : Nat → Prop} {Sp Sr : St} {m m2 : Mk} {used used2 : Nat} {w w' w0 : World}
theorem RuW.le (h : RuW B gd gk g q n F G Sp Sr m used m2 used2 w) : B ≤ w.heap.size := by have := h.ring.lt; have := h.low.1; omega
theorem RuW.below (h : RuW B gd gk g q n F G Sp Sr m used m2 used2 w) (hb : Below w.heap.size w w') : RuW B gd gk g q n F G Sp Sr m used m2 used2 w' :=
  ⟨h.pd.below hb, h.rd.below hb, h.ring.below hb, h.ref.below hb, h.sep, h.ng, h.nq, h.lowF, h.lowG, h.low⟩
/-- The program's ring and disk turned. -/
theorem RuW.added (h : RuW B gd gk g q n F G Sp Sr m used m2 used2 w) {S' : St} {F' : Nat → Prop} {m' : Mk} {used' : Nat} (hP : PD S' F' gd w') (hr : PrAt g gd 3 n m' used' w') (ho : Only (fun j => j = g ∨ F j) w w') (hn : ∀ j, F' j → F j ∨ w.heap.size ≤ j) :
    RuW B gd gk g q n F' G S' Sr m' used' m2 used2 w' where
  pd := hP
  rd := h.rd.keep ho (fun k hk e => e.elim (fun e => h.ng.2.1 (by rw [← e]; exact hk)) (fun e => h.sep k e hk))
  ring := hr
  ref := ⟨(ho.block q h.ref.lt (fun e => e.elim (fun e => h.ng.2.2 e.symm) h.nq.1)).trans h.ref.at_, h.ref.last⟩
  sep := fun j hj hg => (hn j hj).elim (fun hf => h.sep j hf hg) (fun hle => by have := h.rd.lt hg; omega)
  ng := ⟨fun e => (hn g e).elim h.ng.1 (fun hle => by have := h.ring.lt; omega), h.ng.2⟩
  nq := ⟨fun e => (hn q e).elim h.nq.1 (fun hle => by have := h.ref.lt; omega), h.nq.2⟩
  lowF := fun j hj => (hn j hj).elim (h.lowF j) (fun hle => by have := h.le; omega)
  lowG := h.lowG
  low := h.low
theorem RuW.addedBase (h : RuW B gd gk g q n F G Sp Sr m used m2 used2 w) (ho : Only (fun j => j = g ∨ F j) w w') : Below B w w' := ho.base h.le (fun j hj => hj.elim (fun e => by rw [e]; exact h.low.1) (h.lowF j))
/-- The reference's ring and disk turned. -/
theorem RuW.radded (h : RuW B gd gk g q n F G Sp Sr m used m2 used2 w) {S' : St} {G' : Nat → Prop} {m' : Mk} {used' : Nat} (hP : RD S' G' gk w') (hr : RgAt q gk 3 n m' used' w') (ho : Only (fun j => j = q ∨ G j) w w') (hn : ∀ j, G' j → G j ∨ w.heap.size ≤ j) :
    RuW B gd gk g q n F G' Sp S' m used m' used' w' where
  pd := h.pd.keep ho (fun k hk e => e.elim (fun e => h.nq.1 (by rw [← e]; exact hk)) (fun e => h.sep k hk e))
  rd := hP
  ring := h.ring.of_block (ho.block g h.ring.lt (fun e => e.elim h.ng.2.2 h.ng.2.1))
  ref := hr
  sep := fun j hj hg => (hn j hg).elim (fun hf => h.sep j hj hf) (fun hle => by have := h.pd.lt hj; omega)
  ng := ⟨h.ng.1, fun e => (hn g e).elim h.ng.2.1 (fun hle => by have := h.ring.lt; omega), h.ng.2.2⟩
  nq := ⟨h.nq.1, fun e => (hn q e).elim h.nq.2 (fun hle => by have := h.ref.lt; omega)⟩
  lowF := h.lowF
  lowG := fun j hj => (hn j hj).elim (h.lowG j) (fun hle => by have := h.le; omega)
  low := h.low
theorem RuW.raddedBase (h : RuW B gd gk g q n F G Sp Sr m used m2 used2 w) (ho : Only (fun j => j = q ∨ G j) w w') : Below B w w' := ho.base h.le (fun j hj => hj.elim (fun e => by rw [e]; exact h.low.2) (h.lowG j))
/-- The program's ring turned, and nothing else. -/
theorem RuW.cut (h : RuW B gd gk g q n F G Sp Sr m used m2 used2 w) {m' : Mk} {used' : Nat} (hr : PrAt g gd 3 n m' used' w') (ho : Only (fun j => j = g) w w') : RuW B gd gk g q n F G Sp Sr m' used' m2 used2 w' where
  pd := h.pd.keep ho (fun k hk e => h.ng.1 (by have e' : k = g := e; rw [← e']; exact hk))
  rd := h.rd.keep ho (fun k hk e => h.ng.2.1 (by have e' : k = g := e; rw [← e']; exact hk))
  ring := hr
  ref := ⟨(ho.block q h.ref.lt (fun e => h.ng.2.2 e.symm)).trans h.ref.at_, h.ref.last⟩
  sep := h.sep
  ng := h.ng
  nq := h.nq
  lowF := h.lowF
  lowG := h.lowG
  low := h.low
/-- The reference's ring turned, and nothing else. -/
theorem RuW.rcut (h : RuW B gd gk g q n F G Sp Sr m used m2 used2 w) {m' : Mk} {used' : Nat} (hr : RgAt q gk 3 n m' used' w') (ho : w.grownBy w' (some q)) : RuW B gd gk g q n F G Sp Sr m used m' used' w' where
  pd := h.pd.keep (Only.of_grown (F := fun j => j = q) ho (fun k e => by simpa using e.symm)) (fun k hk e => h.nq.1 (by have e' : k = q := e; rw [← e']; exact hk))
  rd := h.rd.keep (Only.of_grown (F := fun j => j = q) ho (fun k e => by simpa using e.symm)) (fun k hk e => h.nq.2 (by have e' : k = q := e; rw [← e']; exact hk))
  ring := h.ring.of_block (ho.block g h.ring.lt (fun e => h.ng.2.2 (by simpa using e)))
  ref := hr
  sep := h.sep
  ng := h.ng
  nq := h.nq
  lowF := h.lowF
  lowG := h.lowG
  low := h.low
end
theorem chgs_what (n x : Nat) : ∀ c ∈ chgs n x, c.what.length = 64 := fun c hc => by
  obtain ⟨i, hi, rfl⟩ := List.mem_map.1 hc
  simp
theorem sectors_each {m : Mk} {l : List Chg} (hf : Fit l) : ∀ p ∈ sectors m l, p.length = 64 := fun p hp => by
  rcases List.mem_cons.1 hp with rfl | hp
  · simp [firstOf, head10_length, dig_len]
  · exact body_pages hf p hp
theorem openAll_free (n : Nat) (pg : Nat → List UInt8) : ∀ (f free : Nat) (m : Mk), (openAll n pg f free m).2.2 ≤ free
  | 0, _, _ => Nat.le_refl _
  | f + 1, free, m => by
    unfold openAll
    split
    · have := openAll_free n pg f (free - takes (kOf pg m)) (behind n m (kOf pg m) (dig (rawText pg m)))
      show (openAll n pg f (free - takes (kOf pg m)) (behind n m (kOf pg m) (dig (rawText pg m)))).2.2 ≤ free
      omega
    · exact Nat.le_refl _
theorem openAll_last {n : Nat} {pg : Nat → List UInt8} : ∀ (f free : Nat) (m : Mk), m.last.length = 32 → (openAll n pg f free m).2.1.last.length = 32
  | 0, _, _, h => h
  | f + 1, free, m, h => by
    unfold openAll
    split
    · exact openAll_last f _ _ (dig_len _)
    · exact h
theorem openAll_ok {first n : Nat} {pg : Nat → List UInt8} (h0 : 96 ≤ n) (h1 : n ≤ 4096) (hf : first ≤ 4096) : ∀ (f free : Nat) (m : Mk), m.place < n → m.num < 18446744073709551616 → free ≤ n → RingOk first n (openAll n pg f free m).2.1 (n - (openAll n pg f free m).2.2)
  | 0, free, m, hp, hn, _ => ⟨h0, h1, hf, hp, hn, Nat.sub_le _ _⟩
  | f + 1, free, m, hp, hn, hfr => by
    unfold openAll
    split
    · exact openAll_ok h0 h1 hf f _ _ (Nat.mod_lt _ (by omega)) (Nat.mod_lt _ (by omega)) (by omega)
    · exact ⟨h0, h1, hf, hp, hn, Nat.sub_le _ _⟩
theorem behind_ok {first n : Nat} {m : Mk} {used k : Nat} {d : List UInt8} (h : RingOk first n m used) (hk : used + takes k ≤ n) : RingOk first n (behind n m k d) (used + takes k) :=
  ⟨h.n0, h.n1, h.first, Nat.mod_lt _ (by have := h.n0; omega), Nat.mod_lt _ (by omega), hk⟩
def AddB (B gd gk g q n : Nat) (F G : Nat → Prop) (Sp Sr : St) (m : Mk) (used : Nat) (m2 : Mk) (used2 : Nat) (E : Int) (w : World) (e : Ending) (w' : World) : Prop :=
  ∃ v F', e = .returned v ∧ ErrV w' E v ∧ RuW B gd gk g q n F' G Sp Sr m used m2 used2 w' ∧ Only (fun j => j = g ∨ F j) w w' ∧ Below B w w'
def RAddB (B gd gk g q n : Nat) (F : Nat → Prop) (Sp Sr : St) (m : Mk) (used : Nat) (m2 : Mk) (used2 : Nat) (E : Int) (w : World) (e : Ending) (w' : World) : Prop :=
  ∃ G', e = .returned (.int .i64 E) ∧ RuW B gd gk g q n F G' Sp Sr m used m2 used2 w' ∧ Below B w w'
/-- What both Adds do. -/
theorem add_both {n : Nat} {S : St} {m : Mk} {used c : Nat} (hS : OpS 300 S c) (hc : c ≤ 900000) (hO : RingOk 3 n m used) (hin : 3 + n ≤ 300) (hla : m.last.length = 32) (N X : Nat) (hN : N ≤ 63) (hX : X < 16777216) :
    ∃ (E : Int) (S' : St) (m' : Mk) (used' : Nat), OpS 300 S' (c + 65) ∧ RingOk 3 n m' used' ∧ m'.last.length = 32 ∧
      (∀ (B gd gk g q : Nat) (F G : Nat → Prop) (W : World) (bp : Option Addr) (cap : Nat), RuW B gd gk g q n F G S S m used m used W → Chgs W.heap.size W bp (chgs N X) →
        Calls Tryd.prog 22 #[.pointer (some ⟨g, 0, none⟩), .slice bp N cap] W (AddB B gd gk g q n F G S' S m' used' m used E W)) ∧
      (∀ (B gd gk g q : Nat) (F G : Nat → Prop) (W : World) (bp : Option Addr) (cap : Nat), RuW B gd gk g q n F G S' S m' used' m used W → Chgs W.heap.size W bp (chgs N X) →
        Calls Tryd.prog 23 #[.pointer (some ⟨q, 0, none⟩), .slice bp N cap] W (RAddB B gd gk g q n F S' S' m' used' m' used' E W)) := by
  have hu := hO.used; have hn1 := hO.n1; have hn0 := hO.n0; have hcn := hS.cnt
  by_cases hfit : 1 ≤ N ∧ N ≤ 60 ∧ takes N ≤ n - used
  · have hf := chgs_fit N X hfit.1 hfit.2.1 hX
    have h64 := sectors_each (m := m) hf
    obtain ⟨hz, hlit, _, _⟩ := writes_lit (first := 3) (n := n) (by omega) (sectors m (chgs N X)) S m.place hS.lit hS.good (by rw [hS.firm]; exact hin)
    have hlen := chgs_length N X
    have hT : takes N ≤ 65 := by have := hfit.2.1; unfold takes; omega
    have hcnt2 := writesOf_count 3 n (sectors m (chgs N X)) S m.place
    rw [sectors_length, hlen] at hcnt2
    have hS' : OpS 300 (writesOf 3 n S m.place (sectors m (chgs N X))).1 (c + 65) := ⟨writesOf_good 3 n _ _ _ hS.good, writesOf_byt 3 n _ _ _ h64 hS.byt, hlit, by rw [writesOf_firm]; exact hS.firm, by omega⟩
    have hO' : RingOk 3 n (endM n m (chgs N X)) (used + takes N) := by
      have := behind_ok (k := N) (d := dig (textOf m (chgs N X))) hO (by omega)
      unfold endM; rw [hlen]; exact this
    obtain ⟨r, hr⟩ : ∃ r, writesOf 3 n S m.place (sectors m (chgs N X)) = r := ⟨_, rfl⟩
    rw [hr] at hS' hz
    refine ⟨0, r.1, endM n m (chgs N X), used + takes N, hS', hO', dig_len _, fun B gd gk g q F G W bp cap hW hC => ?_, fun B gd gk g q F G W bp cap hW hC => ?_⟩
    · have := padd_any hW.ring hO hW.pd hW.ng.1 hS.good (by rw [hS.firm]; exact hin) (by omega) (chgs N X) bp cap hf hC (by rw [hlen]; exact hfit.2.2)
      rw [hr, hlen] at this
      refine this.mono ?_
      rintro e w' ⟨v, F', rfl, hE, hP, hrg, ho, hn⟩
      rw [hz] at hE
      exact ⟨v, F', rfl, hE, hW.added hP (hrg.elim (·.2) (fun h => absurd hz h.1)) ho hn, ho, hW.addedBase ho⟩
    · have := radd_any hW.ref (by omega) hn1 (by omega) hO.place hO.num hu hW.rd hW.nq.2 hS.good (by omega) (chgs N X) bp cap hf hC (by rw [hlen]; exact hfit.2.2)
      rw [hr, hlen] at this
      refine this.mono ?_
      rintro e w' ⟨G', rfl, hP, hrg, ho, hn⟩
      rw [hz]
      exact ⟨G', rfl, hW.radded hP (hrg.elim (·.2) (fun h => absurd hz h.1)) ho hn, hW.raddedBase ho⟩
  · refine ⟨if 1 ≤ N ∧ N ≤ 60 then 20 else 11, S, m, used, hS.mono (by omega), hO, hla, fun B gd gk g q F G W bp cap hW hC => ?_, fun B gd gk g q F G W bp cap hW hC => ?_⟩
    · refine (padd_no hW.ring hO bp N cap hfit (by omega) _ rfl).mono ?_
      rintro e w' ⟨v, rfl, hE, hb⟩
      exact ⟨v, F, rfl, hE, hW.below hb, Only.of_below hb, hb.mono hW.le⟩
    · refine (radd_no hW.ref hn1 hu bp N cap hfit (by omega)).mono ?_
      rintro e w' ⟨rfl, hb⟩
      exact ⟨G, rfl, hW.below hb, hb.mono hW.le⟩
theorem Chgs.only {w w' : World} {bp : Option Addr} {l : List Chg} {G : Nat → Prop} (h : Chgs w.heap.size w bp l) (ho : Only G w w') (hk : ∀ b, bp = some ⟨b, 0, none⟩ → ¬ G b) : Chgs w'.heap.size w' bp l :=
  h.imp id fun ⟨b, e, hb, hr⟩ => ⟨b, e, Nat.lt_of_lt_of_le hb ho.size, fun i c hi => range_keep (hr i c hi) (ho.block b hb (hk b e))⟩
/-- A row of changes that a call made, maybe none. -/
def ChgA (cg : List Chg) (n : Nat) (w : World) (e : Ending) (w' : World) : Prop :=
  ∃ ap cp, e = .returned (.slice ap n cp) ∧ Chgs w'.heap.size w' ap cg ∧ (∀ b, ap = some ⟨b, 0, none⟩ → w.heap.size ≤ b) ∧ Below w.heap.size w w'
theorem chgA_of {T : TypeId} {cg : List Chg} {n : Nat} (hn : cg.length = n) (hw : ∀ c ∈ cg, c.what.length = 64) {w : World} {e : Ending} {w' : World} (h : OwnP T cg w e w') : ChgA cg n w e w' := by
  obtain ⟨ap, cp, rfl, hown, hb⟩ := h
  rw [hn] at hown ⊢
  exact ⟨ap, cp, rfl, chgs_of_own hw hn hown, fun b e => (own_block_lt hown (by rw [e]; rfl)).1, hb⟩
def keyOf (b : UInt8) : List UInt8 := b :: 7 :: List.replicate 30 0
theorem built_keyOf (b : UInt8) : Tryd.prog.built 23 [(0, cu8 b), (1, .int .u8 7)] = some ((keyOf b).map cu8).toArray := by kernel_rfl
theorem splice_lastR (gd first n : Nat) (m : Mk) (used : Nat) (d : List UInt8) (h : m.last.length = 32) (h2 : d.length = 32) :
    (splice (ringCells gd first n m used).toList 5 (d.map cu8)).toArray = ringCells gd first n ⟨m.place, m.num, d⟩ used := by
  have e : (m.last.map cu8).length = 32 := by simp [h]
  have e2 : (d.map cu8).length = 32 := by simp [h2]
  simp only [splice, ringCells, markCells]
  simp [h2, List.drop_append, h]
/-- What both Opens answer of disks in one state, where they aren't refused: rings, too. -/
theorem open_rings {D : Nat} {S : St} {c : Nat} (hS : OpS D S c) (hc : c ≤ 1000000) (first n : Nat) (m : Mk) (hin : first + n ≤ D) (hn0 : 96 ≤ n) (hn1 : n ≤ 4096) (hpl : m.place < n) (hnum : m.num < 18446744073709551616) (hlast : m.last.length = 32) :
    ∃ (a : List (List Chg)) (m' : Mk) (used : Nat), a.length ≤ 4096 ∧ RingOk first n m' used ∧ m'.last.length = 32 ∧
      (∀ (W : World) (F : Nat → Prop) (gd : Nat), PD S F gd W → Calls Tryd.prog 14 #[.pointer (some ⟨gd, 0, none⟩), .int .i64 first, .int .i64 n, .agg (markCells m).toArray] W
        fun e W' => ∃ g ap cp, e = .returned (.tuple #[.pointer (some ⟨g, 0, none⟩), .slice ap a.length cp, .nilIface]) ∧ W.heap.size ≤ g ∧ PrAt g gd first n m' used W' ∧ RecsV W'.heap.size W' ap a ∧ Below W.heap.size W W') ∧
      (∀ (W : World) (G : Nat → Prop) (gk : Nat), RD S G gk W → Calls Tryd.prog 15 #[.pointer (some ⟨gk, 0, none⟩), .int .i64 first, .int .i64 n, .agg (markCells m).toArray] W
        fun e W' => ∃ g ap cp, e = .returned (.tuple #[.pointer (some ⟨g, 0, none⟩), .slice ap a.length cp, .int .i64 0]) ∧ W.heap.size ≤ g ∧ RgAt g gk first n m' used W' ∧ RecsV W'.heap.size W' ap a ∧ Below W.heap.size W W') := by
  have hin2 : first + n ≤ S.firm.length := by rw [hS.firm]; exact hin
  have hD4 := hS.good.le
  have hcn := hS.cnt
  have hpg : ∀ i, (pgOf (imgB S) first n i).length = 64 := fun i => pg_len hS.byt hin2 (by omega) i
  have hfree : (openAll n (pgOf (imgB S) first n) n n m).2.2 ≤ n := openAll_free _ _ _ _ _
  have hml := openAll_last (n := n) (pg := pgOf (imgB S) first n) n n m hlast
  obtain ⟨used, hused⟩ : ∃ used, n - (openAll n (pgOf (imgB S) first n) n n m).2.2 = used := ⟨_, rfl⟩
  have hok := openAll_ok (first := first) (pg := pgOf (imgB S) first n) hn0 hn1 (by omega) n n m hpl hnum (Nat.le_refl _)
  refine ⟨(openAll n (pgOf (imgB S) first n) n n m).1, (openAll n (pgOf (imgB S) first n) n n m).2.1, used, Nat.le_trans (openAll_len _ _ _ _ _) (by omega), by rw [← hused]; exact hok, hml, fun W F gd hP => ?_, fun W G gk hR => ?_⟩
  · refine (open_any hP hS.good hS.byt hS.lit.on hin2 hn0 hn1 hpl hnum hlast).mono ?_
    rintro e w' ⟨g, v, vs, used', rfl, hg, hring, hok2, hfr, hown, hrecs, hbel⟩
    obtain ⟨ap, cp, rfl⟩ := row_form hown
    have hu2 := hok2.used
    obtain rfl : used' = used := by omega
    exact ⟨g, ap, cp, rfl, hg, hring, recsV_found hpg hown hrecs, hbel⟩
  · refine (ropen_any hR hS.good hS.byt hS.lit.on (by omega) hin2 hn0 hn1 hpl hnum hlast).mono ?_
    rintro e w' ⟨g, ap, cp, vs, used', rfl, hg, hring, hu2, hfr, hown, hrecs, hbel⟩
    obtain rfl : used' = used := by omega
    exact ⟨g, ap, cp, rfl, hg, hring, recsR_of (fun l hl => (fit_found hpg _ _ _ l hl).1) (fun l hl => by have := (fit_found hpg _ _ _ l hl).2; omega) hown hrecs, hbel⟩
end Go.Proofs.YtegdlpllljccgaaDoor
