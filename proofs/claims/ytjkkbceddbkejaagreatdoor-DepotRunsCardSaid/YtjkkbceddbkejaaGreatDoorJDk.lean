import Derived.Test.YtjkkbceddbkejaaGreatDoorJDisk
import Derived.Lib.SliceRun
import Derived.StillTail
import Derived.DeepKeys
import Derived.Laws.StructEq
set_option linter.unusedSimpArgs false
set_option linter.unusedVariables false
/-
  The program's disk in memory; its small calls.
-/
namespace Go.Proofs.YtjkkbceddbkejaaGreatDoor
open Go.RowKit Sh Go.Extern.Stop Go.Stop Go.Extern

/-- A pending write's cells. -/
def wcell (a : Int) (p : List Value) : List Value := .int .i64 a :: p
def pendC : List Int → List (List Value) → List (List Value)
  | a :: xs, p :: ys => wcell a p :: pendC xs ys
  | _, _ => []
theorem pendC_length : ∀ {xs : List Int} {ys : List (List Value)}, ys.length = xs.length → (pendC xs ys).length = xs.length
  | [], _, _ => by cases ‹List (List Value)› <;> rfl
  | _ :: _, [], h => by simp at h
  | _ :: xs, _ :: ys, h => by simp only [pendC, List.length_cons]; rw [pendC_length (by simpa using h)]
theorem pendC_get : ∀ {xs : List Int} {ys : List (List Value)} (k : Nat) (a : Int) (p : List Value), xs[k]? = some a → ys[k]? = some p → (pendC xs ys)[k]? = some (wcell a p)
  | [], _, _, _, _, h, _ => by simp at h
  | _ :: _, [], _, _, _, _, h => by simp at h
  | _ :: _, _ :: _, 0, _, _, h, h2 => by simp_all [pendC]
  | _ :: xs, _ :: ys, k + 1, a, p, h, h2 => by simp only [pendC, List.getElem?_cons_succ]; exact pendC_get k a p (by simpa using h) (by simpa using h2)
theorem pendC_append : ∀ {xs : List Int} {ys : List (List Value)} (_ : ys.length = xs.length) (a : Int) (p : List Value), pendC (xs ++ [a]) (ys ++ [p]) = pendC xs ys ++ [wcell a p]
  | [], [], _, _, _ => rfl
  | [], _ :: _, h, _, _ => by simp at h
  | _ :: _, [], h, _, _ => by simp at h
  | _ :: xs, _ :: ys, h, a, p => by simp only [List.cons_append, pendC]; rw [pendC_append (by simpa using h) a p]
theorem pendC_flat : ∀ {xs : List Int} {ys : List (List Value)} (_ : Pages ys) (_ : ys.length = xs.length), (pendC xs ys).flatten.length = xs.length * 65
  | [], [], _, _ => rfl
  | [], _ :: _, _, h => by simp at h
  | _ :: _, [], _, h => by simp at h
  | _ :: xs, q :: ys, hp, h => by
    have := (hp q (by simp)).1
    simp only [pendC, List.flatten_cons, List.length_append, wcell, List.length_cons]
    rw [pendC_flat (fun x hx => hp x (by simp [hx])) (by simpa using h)]; omega
theorem wcell_one {a : Int} {p : List Value} (hp : IsPage p) : ∀ v ∈ wcell a p, v.oneCell' = true := fun v hv => by
  rcases List.mem_cons.1 hv with rfl | hv
  · rfl
  · exact hp.2 v hv
theorem flat_getM (m : Nat) : ∀ {pgs : List (List Value)}, (∀ p ∈ pgs, p.length = m) → ∀ (i : Nat) (p : List Value), pgs[i]? = some p → ∀ j, j < m → pgs.flatten[i * m + j]? = p[j]?
  | [], _, _, _, hi, _, _ => by simp at hi
  | q :: r, h, i, p, hi, j, hj => by
    have hq := h q (by simp)
    rw [List.flatten_cons]
    cases i with
    | zero =>
      obtain rfl : q = p := by simpa using hi
      rw [List.getElem?_append_left (by omega)]
      simp
    | succ i =>
      rw [List.getElem?_append_right (by rw [Nat.add_mul, hq]; omega), show (i + 1) * m + j - q.length = i * m + j by rw [Nat.add_mul, hq]; omega]
      exact flat_getM m (fun x hx => h x (by simp [hx])) i p (by simpa using hi) j hj
theorem pendC_65 : ∀ {xs : List Int} {ys : List (List Value)}, Pages ys → ∀ p ∈ pendC xs ys, p.length = 65
  | [], _, _, p, hp => by cases ‹List (List Value)› <;> simp [pendC] at hp
  | _ :: _, [], _, p, hp => by simp [pendC] at hp
  | _ :: xs, q :: ys, h, p, hp => by
    rcases List.mem_cons.1 hp with rfl | hp
    · simp [wcell, (h q (by simp)).1]
    · exact pendC_65 (fun x hx => h x (by simp [hx])) p hp

/-- The program's disk in block g. -/
structure DiskAt (g : Nat) (vf vn vp : Value) (firm newest : List (List Value)) (ats : List Int) (what : List (List Value)) (fuel : Int) (off : Bool) (w : World) : Prop where
  at_ : w.heap[g]? = some (.cells #[vf, vn, vp, .int .i64 fuel, .bool off] 111 (0, 0))
  rowF : w.ownsRow 0 33 64 vf firm.length firm.flatten
  rowN : w.ownsRow 0 33 64 vn newest.length newest.flatten
  rowP : w.ownsRow 0 115 65 vp ats.length (pendC ats what).flatten
  same : what.length = ats.length
  firmOk : Pages firm
  newOk : Pages newest
  whatOk : Pages what
  apart : vf.ownBlock ≠ some g ∧ vn.ownBlock ≠ some g ∧ vp.ownBlock ≠ some g ∧ (vf.ownBlock = none ∨ vf.ownBlock ≠ vn.ownBlock) ∧ (vf.ownBlock = none ∨ vf.ownBlock ≠ vp.ownBlock) ∧ (vn.ownBlock = none ∨ vn.ownBlock ≠ vp.ownBlock)

/-- An Errno, or nil (0). -/
def errVal (n : Int) : Value := if n = 0 then .nilIface else .iface 84 (.int .i64 n)
theorem errVal_nil : errVal 0 = .nilIface := rfl
theorem errVal_held {n : Int} (h : n ≠ 0) : errVal n = .iface 84 (.int .i64 n) := by simp [errVal, h]

section
variable {g : Nat} {vf vn vp : Value} {firm newest what : List (List Value)} {ats : List Int} {fuel : Int} {off : Bool} {w : World}
theorem DiskAt.cell (h : DiskAt g vf vn vp firm newest ats what fuel off w) (j : Nat) : w.cell? ⟨g, j, none⟩ = (#[vf, vn, vp, .int .i64 fuel, .bool off] : Array Value)[j]? := cell_of_row w g j _ _ _ h.at_
theorem DiskAt.thaw (h : DiskAt g vf vn vp firm newest ats what fuel off w) (j : Nat) : w.frozen? ⟨g, j, none⟩ = false := by simp [World.frozen?, h.at_]
theorem DiskAt.lt (h : DiskAt g vf vn vp firm newest ats what fuel off w) : g < w.heap.size := (Array.getElem?_eq_some_iff.1 h.at_).1
/-- What turns none of the disk's blocks leaves it. -/
theorem DiskAt.only (h : DiskAt g vf vn vp firm newest ats what fuel off w) {w' : World} {F : Nat → Prop} (ho : Only F w w') (hF : ∀ k, Foot g vf vn vp k → ¬ F k) : DiskAt g vf vn vp firm newest ats what fuel off w' := by
  have row : ∀ {e : TypeId} {s n : Nat} {v : Value} {xs : List Value}, w.ownsRow 0 e s v n xs → (∀ k, v.ownBlock = some k → ¬ F k) → w'.ownsRow 0 e s v n xs := by
    intro e s n v xs hr hk
    refine ⟨hr.1, hr.2.imp id ?_⟩
    rintro ⟨b, cap, cur, hv, hb, hg, rest⟩
    exact ⟨b, cap, cur, hv, hb, (ho.block b (Array.getElem?_eq_some_iff.1 hg).1 (hk b (by rw [hv]; rfl))).trans hg, rest⟩
  exact ⟨(ho.block g h.lt (hF g (.inl rfl))).trans h.at_, row h.rowF (fun k e => hF k (.inr (.inl e))), row h.rowN (fun k e => hF k (.inr (.inr (.inl e)))), row h.rowP (fun k e => hF k (.inr (.inr (.inr e)))), h.same, h.firmOk, h.newOk, h.whatOk, h.apart⟩
theorem DiskAt.below (h : DiskAt g vf vn vp firm newest ats what fuel off w) {w' : World} (hb : Below w.heap.size w w') : DiskAt g vf vn vp firm newest ats what fuel off w' :=
  h.only (F := fun _ => False) (Only.of_below hb) (fun _ _ => id)
theorem DiskAt.foot_lt (h : DiskAt g vf vn vp firm newest ats what fuel off w) {k : Nat} (hk : Foot g vf vn vp k) : k < w.heap.size := by
  rcases hk with rfl | e | e | e
  · exact h.lt
  · exact (h.rowF.lt _ e).2
  · exact (h.rowN.lt _ e).2
  · exact (h.rowP.lt _ e).2
theorem DiskAt.setFuel (h : DiskAt g vf vn vp firm newest ats what fuel off w) (f : Int) : DiskAt g vf vn vp firm newest ats what f off (w.setCell ⟨g, 3, none⟩ (.int .i64 f)) := by
  have hg := grown_setCell w ⟨g, 3, none⟩ (.int .i64 f)
  exact ⟨by simp [World.setCell, Array.getElem?_modify, h.at_], h.rowF.kept hg (.inr h.apart.1), h.rowN.kept hg (.inr h.apart.2.1), h.rowP.kept hg (.inr h.apart.2.2.1), h.same, h.firmOk, h.newOk, h.whatOk, h.apart⟩
theorem DiskAt.setOff (h : DiskAt g vf vn vp firm newest ats what fuel off w) (b : Bool) : DiskAt g vf vn vp firm newest ats what fuel b (w.setCell ⟨g, 4, none⟩ (.bool b)) := by
  have hg := grown_setCell w ⟨g, 4, none⟩ (.bool b)
  exact ⟨by simp [World.setCell, Array.getElem?_modify, h.at_], h.rowF.kept hg (.inr h.apart.1), h.rowN.kept hg (.inr h.apart.2.1), h.rowP.kept hg (.inr h.apart.2.2.1), h.same, h.firmOk, h.newOk, h.whatOk, h.apart⟩
theorem slice_form {w : World} {e : TypeId} {s n : Nat} {v : Value} {xs : List Value} (h : w.ownsRow 0 e s v n xs) : ∃ ao cap, v = .slice ao n cap := by
  rcases h.2 with ⟨hv, h0⟩ | ⟨g, cap, cur, hv, _⟩
  · exact ⟨none, 0, by rw [hv, h0]⟩
  · exact ⟨_, _, hv⟩

theorem off_any (h : DiskAt g vf vn vp firm newest ats what fuel off w) :
    Calls Tryz.prog 126 #[.pointer (some ⟨g, 0, none⟩)] w fun e w' => e = .returned (.bool off) ∧ w' = w := by
  have c4 : w.cell? ⟨g, 4, none⟩ = some (.bool off) := h.cell 4
  go_enter Tryz.func126, Tryz.ntmps126
  go_wp2
  go_ret
  exact ⟨rfl, rfl⟩
theorem off_nil (w : World) :
    Calls Tryz.prog 126 #[.pointer none] w fun e w' => e = .returned (.bool true) ∧ w' = w := by
  go_enter Tryz.func126, Tryz.ntmps126
  go_wp2
  go_ret
  exact ⟨rfl, rfl⟩
theorem size_any (h : DiskAt g vf vn vp firm newest ats what fuel off w) :
    Calls Tryz.prog 84 #[.pointer (some ⟨g, 0, none⟩)] w fun e w' => e = .returned (.int .i64 firm.length) ∧ w' = w := by
  have c0 : w.cell? ⟨g, 0, none⟩ = some vf := h.cell 0
  obtain ⟨ao, cap, rfl⟩ := slice_form h.rowF
  obtain ⟨L, hL⟩ : ∃ L, firm.length = L := ⟨_, rfl⟩
  rw [hL] at c0 ⊢
  go_enter Tryz.func84, Tryz.ntmps84
  go_wp2
  go_ret
  exact ⟨rfl, rfl⟩
theorem size_nil (w : World) :
    Calls Tryz.prog 84 #[.pointer none] w fun e w' => e = .returned (.int .i64 0) ∧ w' = w := by
  go_enter Tryz.func84, Tryz.ntmps84
  go_wp2
  go_ret
  exact ⟨rfl, rfl⟩
/-- reach: what keeps a sector from being read or written. -/
def reachN (n : Nat) (off : Bool) (i : Int) : Int := if off = true then 10 else if i < 0 ∨ (n : Int) ≤ i then 1 else 0
theorem reach_any (h : DiskAt g vf vn vp firm newest ats what fuel off w) (i : Int) :
    Calls Tryz.prog 128 #[.pointer (some ⟨g, 0, none⟩), .int .i64 i] w fun e w' => e = .returned (errVal (reachN firm.length off i)) ∧ w' = w := by
  have c0 : w.cell? ⟨g, 0, none⟩ = some vf := h.cell 0
  have hoff := off_any h
  obtain ⟨ao, cap, rfl⟩ := slice_form h.rowF
  obtain ⟨L, hL⟩ : ∃ L, firm.length = L := ⟨_, rfl⟩
  rw [hL] at c0 ⊢
  cases off with
  | true =>
    have e : errVal (reachN L true i) = .iface 84 (.int .i64 10) := rfl
    rw [e]
    go_enter Tryz.func128, Tryz.ntmps128
    go_wp2_with (go_at_call 126; refine hoff.mono ?_; rintro e w' ⟨rfl, rfl⟩)
    go_ret
    exact ⟨rfl, rfl⟩
  | false =>
    by_cases hbad : i < 0 ∨ (L : Int) ≤ i
    · have e : errVal (reachN L false i) = .iface 84 (.int .i64 1) := by simp [errVal, reachN, hbad]
      rw [e]
      by_cases h0 : i < 0
      · go_enter Tryz.func128, Tryz.ntmps128
        go_wp2_with (go_at_call 126; refine hoff.mono ?_; rintro e w' ⟨rfl, rfl⟩)
        go_ret
        exact ⟨rfl, rfl⟩
      · have h1 : (L : Int) ≤ i := by omega
        go_enter Tryz.func128, Tryz.ntmps128
        go_wp2_with (go_at_call 126; refine hoff.mono ?_; rintro e w' ⟨rfl, rfl⟩)
        go_ret
        exact ⟨rfl, rfl⟩
    · have e : errVal (reachN L false i) = .nilIface := by simp [errVal, reachN, hbad]
      have h0 : ¬ i < 0 := by omega
      have h1 : ¬ (L : Int) ≤ i := by omega
      rw [e]
      clear hbad
      go_enter Tryz.func128, Tryz.ntmps128
      go_wp2_with (go_at_call 126; refine hoff.mono ?_; rintro e w' ⟨rfl, rfl⟩)
      go_ret
      exact ⟨rfl, rfl⟩

theorem step_any (h : DiskAt g vf vn vp firm newest ats what fuel off w) (hf : fuel ≤ 9223372036854775807) :
    Calls Tryz.prog 92 #[.pointer (some ⟨g, 0, none⟩)] w fun e w' => e = .returned (errVal (stepS fuel off).2.2) ∧ DiskAt g vf vn vp firm newest ats what (stepS fuel off).1 (stepS fuel off).2.1 w' ∧ w.grownBy w' (some g) := by
  have c3 : w.cell? ⟨g, 3, none⟩ = some (.int .i64 fuel) := h.cell 3
  have f3 := h.thaw 3
  have f4 := h.thaw 4
  have hoff := off_any h
  have c4 : w.cell? ⟨g, 4, none⟩ = some (.bool off) := h.cell 4
  cases off with
  | true =>
    have hs : stepS fuel true = (fuel, true, 10) := by simp [stepS]
    have e : errVal 10 = .iface 84 (.int .i64 10) := rfl
    rw [hs]
    simp only [e]
    go_enter Tryz.func92, Tryz.ntmps92
    go_wp2_with (go_at_call 126; refine hoff.mono ?_; rintro e w' ⟨rfl, rfl⟩)
    go_ret
    exact ⟨rfl, h, ⟨rfl, rfl, rfl, Nat.le_refl _, fun _ _ _ => rfl⟩⟩
  | false =>
    by_cases h0 : fuel = 0
    · have hs : stepS fuel false = (fuel, true, 10) := by simp [stepS, h0]
      have e : errVal 10 = .iface 84 (.int .i64 10) := rfl
      have hr := h.setOff true
      have hgr := grown_setCell w ⟨g, 4, none⟩ (.bool true)
      rw [hs]
      simp only [e]
      subst h0
      go_enter Tryz.func92, Tryz.ntmps92
      go_wp2_with (go_at_call 126; refine hoff.mono ?_; rintro e w' ⟨rfl, rfl⟩)
      go_ret
      exact ⟨rfl, hr, hgr⟩
    · by_cases hp : 0 < fuel
      · have hs : stepS fuel false = (fuel - 1, false, 0) := by simp [stepS, h0, hp]
        have e : errVal 0 = .nilIface := rfl
        have hw : IntKind.i64.wrap (fuel - 1) = fuel - 1 := IntWalk.i64_in _ (by omega)
        have hr := h.setFuel (fuel - 1)
        have hgr := grown_setCell w ⟨g, 3, none⟩ (.int .i64 (fuel - 1))
        rw [hs]
        simp only [e]
        go_enter Tryz.func92, Tryz.ntmps92
        go_wp2_with (go_at_call 126; refine hoff.mono ?_; rintro e w' ⟨rfl, rfl⟩)
        go_ret
        exact ⟨rfl, hr, hgr⟩
      · have hs : stepS fuel false = (fuel, false, 0) := by simp [stepS, h0, hp]
        have e : errVal 0 = .nilIface := rfl
        rw [hs]
        simp only [e]
        go_enter Tryz.func92, Tryz.ntmps92
        go_wp2_with (go_at_call 126; refine hoff.mono ?_; rintro e w' ⟨rfl, rfl⟩)
        go_ret
        exact ⟨rfl, h, ⟨rfl, rfl, rfl, Nat.le_refl _, fun _ _ _ => rfl⟩⟩
end
end Go.Proofs.YtjkkbceddbkejaaGreatDoor

/-
  The program's disk: slices.Clone, holding, New.
-/
namespace Go.Proofs.YtjkkbceddbkejaaGreatDoor
open Go.RowKit Sh Go.Extern.Stop Go.Stop Go.Extern

def ClonePost (n : Nat) (xs : List Value) (w : World) (e : Ending) (w' : World) : Prop := ∃ b cap, e = .returned (.slice (some ⟨b, 0, none⟩) n cap) ∧
  w'.ownsRow 0 33 64 (.slice (some ⟨b, 0, none⟩) n cap) n xs ∧ Below w.heap.size w w' ∧ w.heap.size ≤ b

set_option maxRecDepth 100000 in
theorem clone_any (b0 n c0 : Nat) (pgs : List (List Value)) (w : World) (hn : 0 < n) (hF : n ≤ 4096) (hp : Pages pgs) (hrow : w.ownsRow 0 33 64 (.slice (some ⟨b0, 0, none⟩) n c0) n pgs.flatten) :
    Calls Tryz.prog 53 #[.slice (some ⟨b0, 0, none⟩) n c0] w (ClonePost n pgs.flatten w) := by
  obtain ⟨i0, hi0, hzz⟩ := Option.map_eq_some_iff.1 infoPage
  simp only [Prod.mk.injEq] at hzz
  have HI := Lib.hid hzz
  have hfl := hrow.1
  have hb1 := (Below.refl w.heap.size w).alloc (Nat.le_refl _) (.cells #[] 33)
  have hlt : b0 < w.heap.size := (hrow.lt b0 rfl).2
  have HN := Lib.hid (fun (j : Nat) (u : Value) (hj : pgs.flatten[j]? = some u) => show (w.alloc (.cells #[] 33)).cell? ((⟨b0, 0, none⟩ : Addr).add j) = some u from by
    have hjl : j < n * 64 := by rw [← hfl]; exact (List.getElem?_eq_some_iff.1 hj).1
    rw [show (⟨b0, 0, none⟩ : Addr).add j = ⟨b0, j, none⟩ by unfold Addr.add; split <;> simp_all, hb1.cell (p := ⟨b0, j, none⟩) hlt, hrow.cellAt j hjl, hj])
  have H1 := Lib.hid (flat_one hp)
  have HL := Lib.hid hfl
  have hown : (w.alloc (.cells #[] 33)).ownsRow 0 33 64 (.slice (some ⟨w.heap.size, 0, none⟩) 0 0) 0 [] :=
    ⟨rfl, .inr ⟨w.heap.size, 0, #[], rfl, Nat.zero_le _, heap_alloc_new w _, Nat.le_refl _, by unfold maxLen; omega, rfl, rfl⟩⟩
  clear hzz hrow hfl
  obtain ⟨hq0, hq1, hq2⟩ := HI.out
  have qT : ∀ (w : World) (a : Option Addr) (n c n' c' : Nat), (binOp .eql 73 (.slice a n c) (.slice none n' c')).run Tryz.prog w = .ok (.bool a.isNone) w := fun w a n c n' c' => Lib.run_eql_slice_nil w 73 33 a n c n' c' Tryz.underlying73
  go_enter Tryz.func53, Tryz.ntmps53
  go_wp2_with (at_builtin; refine wpList_append_lies _ rfl _ _ _ rfl 0 33 i0 _ 64 64 Tryz.underlying73 hi0 hq0 hq1 hq2 rfl (by omega) (.slice (some ⟨w.heap.size, 0, none⟩) 0 0) 0 [] rfl hown ⟨b0, 0, none⟩ n c0 pgs.flatten rfl HL.out HN.out H1.out hn (by unfold maxLen; omega) (by omega) (by omega) (w.heap.size + 1) (by simp) ?_)
  intro gg cap w3 hown3 hgr3 hat3 hlt3
  have hb3 : Below w.heap.size w w3 := ⟨hgr3.os.trans hb1.os, hgr3.tape.trans hb1.tape, hgr3.output.trans hb1.output, Nat.le_trans hb1.size hgr3.size, fun k hk => (hgr3.block k (by simp; omega) (by simp [Value.ownBlock]; omega)).trans (hb1.block k hk)⟩
  have hgg : w.heap.size ≤ gg := by
    rcases hat3 with e | e
    · simp [Value.ownBlock] at e; omega
    · omega
  clear HN H1 HL HI hi0 hq0 hq1 hq2 hat3
  go_wp2
  go_ret
  exact ⟨gg, cap, rfl, hown3, hb3, hgg⟩

/-- A new disk of those firm pages. -/
def HoldPost (firm : List (List Value)) (fb : Nat) (w : World) (e : Ending) (w' : World) : Prop := ∃ g cap vn, e = .returned (.pointer (some ⟨g, 0, none⟩)) ∧
  DiskAt g (.slice (some ⟨fb, 0, none⟩) firm.length cap) vn (.slice none 0 0) firm firm [] [] (-1) false w' ∧ Below w.heap.size w w' ∧ w.heap.size ≤ g ∧ (∀ k, vn.ownBlock = some k → w.heap.size ≤ k)

set_option maxRecDepth 100000 in
theorem holding_any (fb cap : Nat) (firm : List (List Value)) (w : World) (hn : 0 < firm.length) (hF : firm.length ≤ 4096) (hp : Pages firm) (hrow : w.ownsRow 0 33 64 (.slice (some ⟨fb, 0, none⟩) firm.length cap) firm.length firm.flatten) :
    Calls Tryz.prog 45 #[.slice (some ⟨fb, 0, none⟩) firm.length cap] w (HoldPost firm fb w) := by
  have hcl := clone_any fb firm.length cap firm w hn hF hp hrow
  have hfl : fb < w.heap.size := (hrow.lt fb rfl).2
  obtain ⟨n, hN⟩ : ∃ n, firm.length = n := ⟨_, rfl⟩
  rw [hN] at hcl hrow ⊢
  go_enter Tryz.func45, Tryz.ntmps45
  go_wp2_with (go_at_call 53; refine hcl.mono ?_; rintro e w1 ⟨b, c1, rfl, hown, hb1, hge⟩)
  go_ret
  have hbl : b < w1.heap.size := (hown.lt b rfl).2
  have hb2 := hb1.alloc hb1.size (.cells #[.slice (some ⟨fb, 0, none⟩) n cap, .slice (some ⟨b, 0, none⟩) n c1, .slice none 0 0, .int .i64 (-1), .bool false] 111)
  have hr0 : w1.ownsRow 0 33 64 (.slice (some ⟨fb, 0, none⟩) n cap) n firm.flatten := hrow.kept (⟨hb1.os, hb1.tape, hb1.output, hb1.size, fun q hq _ => hb1.block q hq⟩ : w.grownBy w1 none) (.inr (by simp [Value.ownBlock]))
  have hsz := hb1.size
  refine ⟨w1.heap.size, cap, .slice (some ⟨b, 0, none⟩) n c1, rfl, ⟨?_, ?_, ?_, World.ownsRow_nil _ _ _ _, rfl, hp, hp, fun p hp => by simp at hp, ?_⟩, hb2, hb1.size, ?_⟩
  · rw [hN]; exact heap_alloc_new w1 _
  · rw [hN]; exact hr0.alloc _
  · rw [hN]; exact hown.alloc _
  · simp [Value.ownBlock]; omega
  · intro k hk; simp [Value.ownBlock] at hk; omega

/-- A new disk. -/
def PNewPost (n : Nat) (w : World) (e : Ending) (w' : World) : Prop := ∃ g vf vn, e = .returned (.tuple #[.pointer (some ⟨g, 0, none⟩), .nilIface]) ∧
  DiskAt g vf vn (.slice none 0 0) (List.replicate n zeroPage) (List.replicate n zeroPage) [] [] (-1) false w' ∧ Below w.heap.size w w' ∧ ∀ k, Foot g vf vn (.slice none 0 0) k → w.heap.size ≤ k

theorem pnew_bad (i : Int) (h : i < 1 ∨ 4096 < i) (w : World) : Calls Tryz.prog 16 #[.int .i64 i] w fun e w' => ∃ v, e = .returned (.tuple #[.pointer none, v]) ∧ ErrV w' 1 v ∧ Below w.heap.size w w' := by
  rcases h with h | h
  · go_enter Tryz.func16, Tryz.ntmps16
    go_wp2_with (go_at_call 35; have H := in_more ⟨#[100, 105, 115, 107, 46, 78, 101, 119]⟩ 1 [] (.iface 84 (.int .i64 1)) w rfl; (with_reducible refine H.mono ?_); clear H; rintro e w1 ⟨rfl, hC1, hb1⟩)
    go_ret2
    exact ⟨_, rfl, .inr ⟨by decide, _, hC1⟩, hb1⟩
  · have h2 : ¬ i < 1 := by omega
    go_enter Tryz.func16, Tryz.ntmps16
    go_wp2_with (go_at_call 35; have H := in_more ⟨#[100, 105, 115, 107, 46, 78, 101, 119]⟩ 1 [] (.iface 84 (.int .i64 1)) w rfl; (with_reducible refine H.mono ?_); clear H; rintro e w1 ⟨rfl, hC1, hb1⟩)
    go_ret2
    exact ⟨_, rfl, .inr ⟨by decide, _, hC1⟩, hb1⟩

set_option maxRecDepth 100000 in
theorem pnew_any (n : Nat) (h1 : 1 ≤ n) (h2 : n ≤ 4096) (w : World) : Calls Tryz.prog 16 #[.int .i64 n] w (PNewPost n w) := by
  have hm := make_pages n h2 w
  have e1 : ¬ ((n : Int) < 1) := by omega
  have e2 : ¬ (4096 < (n : Int)) := by omega
  obtain ⟨cs, Hcs⟩ : ∃ cs : Array Value, Hid (cs = (List.replicate n zeroPage).flatten.toArray) := ⟨_, rfl⟩
  rw [← Hcs.out] at hm
  have hb1 := (Below.refl w.heap.size w).alloc (Nat.le_refl _) (.cells cs 33)
  have hrow : (w.alloc (.cells cs 33)).ownsRow 0 33 64 (.slice (some ⟨w.heap.size, 0, none⟩) n n) n (List.replicate n zeroPage).flatten := by
    have hfl : (List.replicate n zeroPage).flatten.length = n * 64 := by rw [zero_flat, List.length_replicate]
    refine ⟨hfl, .inr ⟨w.heap.size, n, cs, rfl, by omega, heap_alloc_new w _, Nat.le_refl _, by unfold maxLen; omega, by rw [Hcs.out, List.size_toArray, hfl], ?_⟩⟩
    rw [Hcs.out, List.toList_toArray, ← hfl, List.take_length]
  have hhold := holding_any w.heap.size n (List.replicate n zeroPage) (w.alloc (.cells cs 33)) (by rw [List.length_replicate]; omega) (by rw [List.length_replicate]; omega) (zero_pages n) (by rw [List.length_replicate]; exact hrow)
  rw [List.length_replicate] at hhold
  clear hrow
  go_enter Tryz.func16, Tryz.ntmps16
  go_wp2_with (go_at_call 45; refine hhold.mono ?_; rintro e w1 ⟨g, cap, vn, rfl, hD, hb2, hg, hvn⟩)
  go_ret2
  have hs := hb1.size
  refine ⟨g, _, vn, rfl, hD, hb1.trans (hb2.mono hb1.size), ?_⟩
  intro k hk
  simp at hg hvn
  rcases hk with rfl | hk | hk | hk
  · omega
  · simp [Value.ownBlock] at hk; omega
  · have := hvn k hk; omega
  · simp [Value.ownBlock] at hk
end Go.Proofs.YtjkkbceddbkejaaGreatDoor

/-
  The program's disk: Read.
-/
namespace Go.Proofs.YtjkkbceddbkejaaGreatDoor
open Go.RowKit Sh Go.Extern.Stop Go.Stop Go.Extern

theorem splice_whole (cur p : List Value) (h : p.length = cur.length) : splice cur 0 p = p := by
  simp [splice, h]

/-- What the program's Read answers. -/
def readN (newest : List (List Value)) (off : Bool) (i : Int) : List Value × Int :=
  if reachN newest.length off i = 0 then (newest.getD i.toNat zeroPage, 0) else (zeroPage, reachN newest.length off i)
def PReadPost (p : List Value) (n : Int) (w : World) (e : Ending) (w' : World) : Prop := ∃ v, e = .returned (.tuple #[.agg p.toArray, v]) ∧ ErrV w' n v ∧ Below w.heap.size w w'

section
variable {g : Nat} {vf vn vp : Value} {firm newest what : List (List Value)} {ats : List Int} {fuel : Int} {off : Bool} {w : World}

set_option maxRecDepth 100000 in
set_option maxHeartbeats 4000000 in
theorem pread_any (h : DiskAt g vf vn vp firm newest ats what fuel off w) (hnl : newest.length = firm.length) (i : Int) :
    Calls Tryz.prog 111 #[.pointer (some ⟨g, 0, none⟩), .int .i64 i] w (PReadPost (readN newest off i).1 (readN newest off i).2 w) := by
  have hb1 := (Below.refl w.heap.size w).alloc (Nat.le_refl _) (.cells zeros64 33)
  have h1 := h.below hb1
  have hreach := reach_any h1 i
  rw [← hnl] at hreach
  by_cases h0 : reachN newest.length off i = 0
  · have hrs : readN newest off i = (newest.getD i.toNat zeroPage, 0) := by simp [readN, h0]
    obtain ⟨hi0, hi1⟩ : 0 ≤ i ∧ i < (newest.length : Int) := by
      unfold reachN at h0
      split at h0
      · simp at h0
      · split at h0
        · simp at h0
        · omega
    rw [h0, errVal_nil] at hreach
    obtain ⟨j, rfl⟩ : ∃ j : Nat, i = (j : Int) := ⟨i.toNat, by omega⟩
    have hjl : j < newest.length := by omega
    have hpg := List.getElem?_eq_getElem hjl
    obtain ⟨gn, cn, rfl, _, _⟩ := h1.rowN.form (by omega)
    have c1 : (w.alloc (.cells zeros64 33)).cell? ⟨g, 1, none⟩ = some (.slice (some ⟨gn, 0, none⟩) newest.length cn) := h1.cell 1
    have hrange := own_page h1.rowN h1.newOk j newest[j] hpg rfl
    have hPg := h1.newOk newest[j] (List.getElem_mem hjl)
    rw [Int.toNat_natCast, List.getD_eq_getElem?_getD, hpg, Option.getD_some] at hrs
    obtain ⟨F, hF⟩ : ∃ F, newest.length = F := ⟨_, rfl⟩
    rw [hF] at c1
    have hjF : (j : Int) < (F : Int) := by omega
    obtain ⟨pg, hpp⟩ : ∃ pg, newest[j] = pg := ⟨_, rfl⟩
    rw [hpp] at hrange hPg hrs
    have HR := Lib.hid hrs
    have hz1 := page_size hPg
    have hz2 := page_all hPg
    have hz3 : Hid (zeros64.size = pg.toArray.size) := by
      have : pg.toArray.size = 64 := by rw [List.size_toArray]; exact hPg.1
      rw [this]; exact (rfl : zeros64.size = 64)
    have hi64 : Hid ((Tryz.prog.info? 33).map (·.size) = some pg.length) := by rw [hPg.1]; exact info64
    have HRg := Lib.hid hrange
    clear hrs hpg h0 hpp hrange hi0 hi1
    go_enter Tryz.func111, Tryz.ntmps111
    go_wp2_with (first
      | (refine wpList_alloc_arr rfl 33 rfl _ alloc64 ?_)
      | (go_at_call 128; refine hreach.mono ?_; rintro e w' ⟨rfl, rfl⟩)
      | (refine wpList_load_mid rfl 33 _ rfl gn (j * 64) rfl pg _ HRg.out Tryz.underlying33 rfl hi64.out ?_)
      | (refine wpList_store_new rfl 33 _ _ rfl w.heap.size rfl pg.toArray rfl rfl 33 _ hz1.out hz3.out hz2.out ?_))
    refine bodyPost_ret (v := .tuple #[.agg pg.toArray, .nilIface]) ?_ rfl ⟨_, by rw [HR.out], by rw [HR.out]; exact ErrV.nil, (Below.refl _ _).alloc (Nat.le_refl _) _⟩
    exact results_cell_row_tmp (ty := 33) rfl _ _ w.heap.size 33 _ (0, 0) _ rfl (heap_alloc_new _ _) Tryz.underlying33 rfl hz1.out _ rfl
  · have hrs : readN newest off i = (zeroPage, reachN newest.length off i) := by simp [readN, h0]
    have HR := Lib.hid hrs
    generalize reachN newest.length off i = n at h0 hreach HR
    rw [errVal_held h0] at hreach
    have hq : ∀ W : World, (binOp .neq 30 (.iface 84 (.int .i64 n)) .nilIface).run Tryz.prog W = .ok (.bool true) W := fun W => run_neq_held_nil W 30 _ _ Tryz.methodsError
    obtain ⟨zv, Hz⟩ : ∃ zv : Array Value, Hid (zv = zeros64) := ⟨_, rfl⟩
    have hz1 : Hid ((Tryz.prog.info? 33).map (·.size) = some zv.size) := by rw [Hz.out]; exact page_size zeroPage_ok
    have hfit : Hid (0 + zv.size ≤ zeroPage.length) := by rw [Hz.out]; exact (Nat.le_of_eq (by unfold zeros64; simp) : 0 + zeros64.size ≤ zeroPage.length)
    have hall : Hid (∀ v ∈ zv.toList, v.oneCell' = true) := by rw [Hz.out]; exact zeroPage_ok.2
    have hcur : Hid (((w.alloc (.cells zeros64 33)).alloc (.cells #[.string ⟨#[100, 105, 115, 107, 46, 82, 101, 97, 100]⟩, .iface 84 (.int .i64 n)] 137)).heap[w.heap.size]? = some (.cells zeroPage.toArray 33 (0, 0))) :=
      (Below.heap_alloc _ _ _ (by simp)).trans (heap_alloc_new w _)
    go_enter Tryz.func111, Tryz.ntmps111
    go_wp2_with (first
      | (refine wpList_alloc_arr rfl 33 rfl _ alloc64 ?_)
      | (go_at_call 128; refine hreach.mono ?_; rintro e w' ⟨rfl, rfl⟩)
      | (refine wpList_build_to rfl 33 _ rfl zv (by rw [Hz.out]; kernel_rfl) ?_)
      | (go_at_call 35; refine (in_held _ _ _ _).mono ?_; rintro e w' ⟨rfl, rfl⟩)
      | (refine wpList_store_into rfl 33 _ _ rfl w.heap.size 0 zv rfl rfl zeroPage 33 hcur.out hz1.out hfit.out hall.out ?_; intro w5 Hs5 Hg5))
    have hs5 : w5.heap[w.heap.size]? = some (.cells zv 33 (0, 0)) := by
      have := Hs5.out
      rw [splice_whole _ _ (by rw [Hz.out]; unfold zeros64; simp)] at this
      simpa using this
    have hbk : w5.heap[w.heap.size + 1]? = some (.cells #[.string ⟨#[100, 105, 115, 107, 46, 82, 101, 97, 100]⟩, .iface 84 (.int .i64 n)] 137 (0, 0)) := by
      refine (Hg5.out.block (w.heap.size + 1) (by simp) (by simp)).trans ?_
      have := heap_alloc_new (w.alloc (.cells zeros64 33)) (.cells #[.string ⟨#[100, 105, 115, 107, 46, 82, 101, 97, 100]⟩, .iface 84 (.int .i64 n)] 137)
      simpa using this
    have hb5 : Below w.heap.size w w5 := ⟨Hg5.out.os, Hg5.out.tape, Hg5.out.output, Nat.le_trans (by simp; omega) Hg5.out.size, fun k hk => (Hg5.out.block k (by simp; omega) (by simp; omega)).trans ((Below.heap_alloc _ _ _ (by simp; omega)).trans (hb1.block k hk))⟩
    have hsz := Hg5.out.size
    simp only [World.size_alloc] at hsz
    refine bodyPost_ret (v := .tuple #[.agg zv, .iface 135 (.pointer (some ⟨w.heap.size + 1, 0, none⟩))]) ?_ rfl ⟨_, by rw [HR.out, Hz.out]; rfl, ?_, hb5⟩
    · exact results_cell_row_tmp (ty := 33) rfl _ _ w.heap.size 33 _ (0, 0) _ rfl hs5 Tryz.underlying33 rfl hz1.out _ rfl
    · rw [HR.out]
      refine .inr ⟨h0, [⟨#[100, 105, 115, 107, 46, 82, 101, 97, 100]⟩], w.heap.size + 1, _, rfl, by omega, ?_, ?_, rfl⟩
      · rw [cell_of_row w5 _ 0 _ _ _ hbk]; rfl
      · rw [cell_of_row w5 _ 1 _ _ _ hbk]; rfl

/-- Read of none. -/
theorem pread_nil (i : Int) (w : World) : Calls Tryz.prog 111 #[.pointer none, .int .i64 i] w (PReadPost zeroPage 10 w) := by
  have hoff := fun w => off_nil w
  have hreach : ∀ w, Calls Tryz.prog 128 #[.pointer none, .int .i64 i] w fun e w' => e = .returned (.iface 84 (.int .i64 10)) ∧ w' = w := fun w => by
    go_enter Tryz.func128, Tryz.ntmps128
    go_wp2_with (go_at_call 126; refine (hoff w).mono ?_; rintro e w' ⟨rfl, rfl⟩)
    go_ret
    exact ⟨rfl, rfl⟩
  have hb1 := (Below.refl w.heap.size w).alloc (Nat.le_refl _) (.cells zeros64 33)
  have hq : ∀ W : World, (binOp .neq 30 (.iface 84 (.int .i64 10)) .nilIface).run Tryz.prog W = .ok (.bool true) W := fun W => run_neq_held_nil W 30 _ _ Tryz.methodsError
  obtain ⟨zv, Hz⟩ : ∃ zv : Array Value, Hid (zv = zeros64) := ⟨_, rfl⟩
  have hz1 : Hid ((Tryz.prog.info? 33).map (·.size) = some zv.size) := by rw [Hz.out]; exact page_size zeroPage_ok
  have hfit : Hid (0 + zv.size ≤ zeroPage.length) := by rw [Hz.out]; exact (Nat.le_of_eq (by unfold zeros64; simp) : 0 + zeros64.size ≤ zeroPage.length)
  have hall : Hid (∀ v ∈ zv.toList, v.oneCell' = true) := by rw [Hz.out]; exact zeroPage_ok.2
  have hcur : Hid (((w.alloc (.cells zeros64 33)).alloc (.cells #[.string ⟨#[100, 105, 115, 107, 46, 82, 101, 97, 100]⟩, .iface 84 (.int .i64 10)] 137)).heap[w.heap.size]? = some (.cells zeroPage.toArray 33 (0, 0))) :=
    (Below.heap_alloc _ _ _ (by simp)).trans (heap_alloc_new w _)
  go_enter Tryz.func111, Tryz.ntmps111
  go_wp2_with (first
    | (refine wpList_alloc_arr rfl 33 rfl _ alloc64 ?_)
    | (go_at_call 128; refine (hreach _).mono ?_; rintro e w' ⟨rfl, rfl⟩)
    | (refine wpList_build_to rfl 33 _ rfl zv (by rw [Hz.out]; kernel_rfl) ?_)
    | (go_at_call 35; refine (in_held _ _ _ _).mono ?_; rintro e w' ⟨rfl, rfl⟩)
    | (refine wpList_store_into rfl 33 _ _ rfl w.heap.size 0 zv rfl rfl zeroPage 33 hcur.out hz1.out hfit.out hall.out ?_; intro w5 Hs5 Hg5))
  have hs5 : w5.heap[w.heap.size]? = some (.cells zv 33 (0, 0)) := by
    have := Hs5.out
    rw [splice_whole _ _ (by rw [Hz.out]; unfold zeros64; simp)] at this
    simpa using this
  have hbk : w5.heap[w.heap.size + 1]? = some (.cells #[.string ⟨#[100, 105, 115, 107, 46, 82, 101, 97, 100]⟩, .iface 84 (.int .i64 10)] 137 (0, 0)) := by
    refine (Hg5.out.block (w.heap.size + 1) (by simp) (by simp)).trans ?_
    have := heap_alloc_new (w.alloc (.cells zeros64 33)) (.cells #[.string ⟨#[100, 105, 115, 107, 46, 82, 101, 97, 100]⟩, .iface 84 (.int .i64 10)] 137)
    simpa using this
  have hb5 : Below w.heap.size w w5 := ⟨Hg5.out.os, Hg5.out.tape, Hg5.out.output, Nat.le_trans (by simp; omega) Hg5.out.size, fun k hk => (Hg5.out.block k (by simp; omega) (by simp; omega)).trans ((Below.heap_alloc _ _ _ (by simp; omega)).trans (hb1.block k hk))⟩
  have hsz := Hg5.out.size
  simp only [World.size_alloc] at hsz
  refine bodyPost_ret (v := .tuple #[.agg zv, .iface 135 (.pointer (some ⟨w.heap.size + 1, 0, none⟩))]) ?_ rfl ⟨_, by rw [Hz.out]; rfl, ?_, hb5⟩
  · exact results_cell_row_tmp (ty := 33) rfl _ _ w.heap.size 33 _ (0, 0) _ rfl hs5 Tryz.underlying33 rfl hz1.out _ rfl
  · refine .inr ⟨by decide, [⟨#[100, 105, 115, 107, 46, 82, 101, 97, 100]⟩], w.heap.size + 1, _, rfl, by omega, ?_, ?_, rfl⟩
    · rw [cell_of_row w5 _ 0 _ _ _ hbk]; rfl
    · rw [cell_of_row w5 _ 1 _ _ _ hbk]; rfl
end
end Go.Proofs.YtjkkbceddbkejaaGreatDoor

/-
  The program's disk: pending writes as rows of 65 cells; a page of the newest ones laid anew; a pending write more.
-/
namespace Go.Proofs.YtjkkbceddbkejaaGreatDoor
open Go.RowKit Sh Go.Extern.Stop Go.Stop Go.Extern

theorem infoWrite : (Tryz.prog.info? 115).map (fun i => (i.zero, i.size, i.bytes)) = some (some (.agg (.int .i64 0 :: zeroPage).toArray), 65, 72) := by kernel_rfl
theorem info65 : (Tryz.prog.info? 115).map (·.size) = some 65 := by kernel_rfl

theorem fill_two (cells : Array Value) (hc : cells.size = 65) (a : Value) (ha : a.cells = #[a]) (p : List Value) (hp : p.length = 64) (places : Nat → Option (Nat × Nat)) (h0 : places 0 = some (0, 1)) (h1 : places 1 = some (1, 64)) :
    Instr.fill places cells [(0, a), (1, .agg p.toArray)] = some (a :: p).toArray := by
  have e1 : (Value.agg p.toArray).cells = p.toArray := rfl
  simp only [Instr.fill, h0, h1, ha, e1]
  have s1 : (#[a] : Array Value).zipIdx.foldl (fun cs (x : Value × Nat) => cs.setIfInBounds (0 + x.2) x.1) cells = cells.setIfInBounds 0 a := by simp
  have s1' : (#[a] : Array Value).zipIdx.foldl (fun cs x => match x with | (c, j) => cs.setIfInBounds (0 + j) c) cells = cells.setIfInBounds 0 a := s1
  rw [if_neg (by simp [hc]), s1', if_neg (by simp [hc, hp])]
  congr 1
  rw [← Array.foldl_toList, Array.toList_zipIdx]
  obtain ⟨hs, hk⟩ := Great.foldl_set 1 p 0 (cells.setIfInBounds 0 a)
  apply Array.ext_getElem?
  intro k
  refine (hk k).trans ?_
  rw [Array.size_setIfInBounds, hc]
  by_cases hk0 : k = 0
  · subst hk0
    rw [if_neg (by omega), Array.getElem?_setIfInBounds]
    simp [hc]
  · by_cases hlt : k < 65
    · rw [if_pos (by omega)]
      obtain ⟨j, rfl⟩ : ∃ j, k = j + 1 := ⟨k - 1, by omega⟩
      rw [show j + 1 - (1 + 0) = j by omega]
      simp
    · rw [if_neg (by omega), Array.getElem?_eq_none (by simp [hc]; omega), Array.getElem?_eq_none (by simp [hp]; omega)]

theorem built_write (i : Int) (p : List Value) (hp : IsPage p) : Tryz.prog.built 115 [(0, .int .i64 i), (1, .agg p.toArray)] = some (wcell i p).toArray := by
  have hu : (Tryz.prog.underlying 115).bind (fun d => match d with | .struct fs => fs.toList.mapM (fun f => (Tryz.prog.info? f.type).map fun i => (f.offset, i.size)) | _ => none) = some [(0, 1), (1, 64)] := by kernel_rfl
  obtain ⟨ti, hti, hz⟩ := Option.map_eq_some_iff.1 infoWrite
  simp only [Prod.mk.injEq] at hz
  unfold Program.built
  rw [hti, Tryz.underlying115]
  rw [Tryz.underlying115] at hu
  simp only [Option.bind_some] at hu
  simp only [hz.1, hu]
  exact fill_two _ (by simp [Value.cells, zeroPage]) (.int .i64 i) rfl p hp.1 _ rfl rfl

/-- '[]write{x}' as an operation. -/
theorem wp_build_write {o : Oper} {a : Act} {w : World} {K : Act → World → Prop} {Q : Exit → Act → World → Prop} (x : Operand) (ho : o.op = .buildSlice 109 1 #[(0, x)]) (c : List Value) (hc : c.length = 65) (hx : a.eval x = .agg c.toArray)
    (h : K (a.put o.dst (.slice (some ⟨w.heap.size, 0, none⟩) 1 1)) (w.alloc (.cells c.toArray 115))) : o.wp Tryz.prog a w K Q := by
  obtain ⟨i, hi, hzz⟩ := Option.map_eq_some_iff.1 infoWrite
  simp only [Prod.mk.injEq] at hzz
  obtain ⟨hz, hs, hb⟩ := hzz
  refine wp_buildSlice (P := Tryz.prog) 109 115 1 _ ho c.toArray i _ Tryz.underlying109 hi hz (by rw [hs]; decide) (by rw [hs]; decide) ?_ h
  rw [hs]
  have hl : ((#[(0, x)] : Array (Nat × Operand)).map fun (i, x) => (i, a.eval x)).toList = [(0, .agg c.toArray)] := by simp [hx]
  rw [hl]
  have hf := Great.fill_whole (s := 65) (by omega) [.agg c.toArray] ((Array.range (1 * 65)).map ((Value.agg (Value.int .i64 0 :: zeroPage).toArray).cells[· % (Value.agg (Value.int .i64 0 :: zeroPage).toArray).cells.size]!)) (fun v hv => by
    obtain rfl := List.mem_singleton.1 hv
    show c.toArray.size = 65
    rw [List.size_toArray]; exact hc) (by simp)
  simpa [Value.cells] using hf

/-- A pending write out of the row. -/
theorem own_write {w : World} {B g n cap : Nat} {xs : List Int} {ys : List (List Value)} (h : w.ownsRow B 115 65 (.slice (some ⟨g, 0, none⟩) n cap) n (pendC xs ys).flatten) (hp : Pages ys) (_hs : ys.length = xs.length) (i : Nat) (a : Int) (p : List Value) (ha : xs[i]? = some a) (hpi : ys[i]? = some p) (hn : xs.length = n) : w.rangeAt g (i * 65) (wcell a p) := by
  intro j v hj
  have hil : i < n := by rw [← hn]; exact (List.getElem?_eq_some_iff.1 ha).1
  have hlen : (wcell a p).length = 65 := by simp [wcell, (hp p (List.mem_of_getElem? hpi)).1]
  have hj65 : j < 65 := by have := (List.getElem?_eq_some_iff.1 hj).1; omega
  rw [h.cellAt (i * 65 + j) (by omega), flat_getM 65 (pendC_65 hp) i (wcell a p) (pendC_get i a p ha hpi) j hj65, hj]

section
variable {g : Nat} {vf vn vp : Value} {firm newest what : List (List Value)} {ats : List Int} {fuel : Int} {off : Bool} {w w3 w4 w' : World}

theorem own_ne {v u : Value} {b : Nat} (h : v.ownBlock = none ∨ v.ownBlock ≠ u.ownBlock) (hu : u.ownBlock = some b) : v.ownBlock = none ∨ v.ownBlock ≠ some b := h.imp id (fun e => by rw [← hu]; exact e)
theorem own_ne' {v u : Value} {b : Nat} (h : v.ownBlock = none ∨ v.ownBlock ≠ u.ownBlock) (hv : v.ownBlock = some b) : u.ownBlock = none ∨ u.ownBlock ≠ some b := by
  rcases h with e | e
  · rw [e] at hv; cases hv
  · right; intro e2; rw [hv, e2] at e; exact e rfl

/-- A page of the newest ones is another one. -/
theorem DiskAt.setNew {gn cn : Nat} (h : DiskAt g vf (.slice (some ⟨gn, 0, none⟩) newest.length cn) vp firm newest ats what fuel off w) (k : Nat) (hk : k < newest.length) (p : List Value) (hp : IsPage p)
    (hst : ∀ cur : List Value, w.heap[gn]? = some (.cells cur.toArray 33 (0, 0)) → w'.heap[gn]? = some (.cells (splice cur (k * 64) p).toArray 33 (0, 0))) (hg : w.grownBy w' (some gn)) :
    DiskAt g vf (.slice (some ⟨gn, 0, none⟩) newest.length cn) vp firm (newest.set k p) ats what fuel off w' := by
  obtain ⟨a1, a2, a3, a4, a5, a6⟩ := h.apart
  have hgg : gn ≠ g := fun e => a2 (by rw [e]; rfl)
  have hr := own_store h.rowN h.newOk rfl k hk p hp hst
  have hok : Pages (newest.set k p) := fun x hx => by
    rcases List.mem_or_eq_of_mem_set hx with hx | rfl
    · exact h.newOk x hx
    · exact hp
  exact ⟨(hg.block g h.lt (fun e => hgg (by simpa using e.symm))).trans h.at_, h.rowF.kept hg (own_ne a4 rfl), by rw [List.length_set]; exact hr, h.rowP.kept hg (own_ne' a6 rfl), h.same, h.firmOk, hok, h.whatOk, a1, a2, a3, a4, a5, a6⟩
/-- A page of the firm ones is another one. -/
theorem DiskAt.setFirm {gf cf : Nat} (h : DiskAt g (.slice (some ⟨gf, 0, none⟩) firm.length cf) vn vp firm newest ats what fuel off w) (k : Nat) (hk : k < firm.length) (p : List Value) (hp : IsPage p)
    (hst : ∀ cur : List Value, w.heap[gf]? = some (.cells cur.toArray 33 (0, 0)) → w'.heap[gf]? = some (.cells (splice cur (k * 64) p).toArray 33 (0, 0))) (hg : w.grownBy w' (some gf)) :
    DiskAt g (.slice (some ⟨gf, 0, none⟩) firm.length cf) vn vp (firm.set k p) newest ats what fuel off w' := by
  obtain ⟨a1, a2, a3, a4, a5, a6⟩ := h.apart
  have hgg : gf ≠ g := fun e => a1 (by rw [e]; rfl)
  have hr := own_store h.rowF h.firmOk rfl k hk p hp hst
  have hok : Pages (firm.set k p) := fun x hx => by
    rcases List.mem_or_eq_of_mem_set hx with hx | rfl
    · exact h.firmOk x hx
    · exact hp
  exact ⟨(hg.block g h.lt (fun e => hgg (by simpa using e.symm))).trans h.at_, by rw [List.length_set]; exact hr, h.rowN.kept hg (own_ne' a4 rfl), h.rowP.kept hg (own_ne' a5 rfl), h.same, hok, h.newOk, h.whatOk, a1, a2, a3, a4, a5, a6⟩

theorem DiskAt.drew (h : DiskAt g vf vn vp firm newest ats what fuel off w) : DiskAt g vf vn vp firm newest ats what fuel off ({ w with drawn := w.drawn + 1 }) :=
  h.below ⟨rfl, rfl, rfl, Nat.le_refl _, fun _ _ => rfl⟩

/-- The row of pending writes has one more, laid into its field. -/
theorem DiskAt.putPend (h : DiskAt g vf vn vp firm newest ats what fuel off w) {gg cap : Nat} {i : Int} {p : List Value} (hp : IsPage p) (h3 : Below w.heap.size w w3)
    (hown : w4.ownsRow 0 115 65 (.slice (some ⟨gg, 0, none⟩) (ats.length + 1) cap) (ats.length + 1) ((pendC ats what).flatten ++ wcell i p)) (hgr : w3.grownBy w4 vp.ownBlock) (hat : vp.ownBlock = some gg ∨ w.heap.size ≤ gg) :
    DiskAt g vf vn (.slice (some ⟨gg, 0, none⟩) (ats.length + 1) cap) firm newest (ats ++ [i]) (what ++ [p]) fuel off (w4.setCell ⟨g, 2, none⟩ (.slice (some ⟨gg, 0, none⟩) (ats.length + 1) cap)) ∧
      Only (Foot g vf vn vp) w (w4.setCell ⟨g, 2, none⟩ (.slice (some ⟨gg, 0, none⟩) (ats.length + 1) cap)) ∧ (Foot g vf vn vp gg ∨ w.heap.size ≤ gg) := by
  obtain ⟨a1, a2, a3, a4, a5, a6⟩ := h.apart
  have hlt := h.lt
  have hg3 : w.grownBy w3 none := ⟨h3.os, h3.tape, h3.output, h3.size, fun j hj _ => h3.block j hj⟩
  have ho : ∀ v : Value, v.ownBlock = none ∨ v.ownBlock ≠ none := fun v => by cases v.ownBlock <;> simp
  have f3 := (h.rowF.kept hg3 (ho _)).kept hgr a5
  have n3 := (h.rowN.kept hg3 (ho _)).kept hgr a6
  have b4 : w4.heap[g]? = some (.cells #[vf, vn, vp, .int .i64 fuel, .bool off] 111 (0, 0)) :=
    (hgr.block g (by have := h3.size; omega) (fun e => a3 e.symm)).trans ((h3.block g hlt).trans h.at_)
  have hs := grown_setCell w4 ⟨g, 2, none⟩ (.slice (some ⟨gg, 0, none⟩) (ats.length + 1) cap)
  have hgg : gg ≠ g := by
    rcases hat with e | e
    · intro e2; rw [e, e2] at a3; exact a3 rfl
    · omega
  have hne : (Value.slice (some ⟨gg, 0, none⟩) (ats.length + 1) cap).ownBlock ≠ some g := by simp [Value.ownBlock, hgg]
  have hfg : vf.ownBlock = none ∨ vf.ownBlock ≠ some gg := by
    rcases hat with e | e
    · rw [← e]; exact a5
    · rcases hv : vf.ownBlock with _ | k
      · exact .inl rfl
      · right; have := (h.rowF.lt k hv).2; simp; omega
  have hng : vn.ownBlock = none ∨ vn.ownBlock ≠ some gg := by
    rcases hat with e | e
    · rw [← e]; exact a6
    · rcases hv : vn.ownBlock with _ | k
      · exact .inl rfl
      · right; have := (h.rowN.lt k hv).2; simp; omega
  have hok : Pages (what ++ [p]) := fun q hq => by
    rcases List.mem_append.1 hq with hq | hq
    · exact h.whatOk q hq
    · rw [List.mem_singleton.1 hq]; exact hp
  refine ⟨⟨by simp [World.setCell, Array.getElem?_modify, b4], f3.kept hs (.inr a1), n3.kept hs (.inr a2), ?_, by simp [h.same], h.firmOk, h.newOk, hok, a1, a2, hne, a4, hfg, hng⟩, ?_, ?_⟩
  · rw [List.length_append, pendC_append h.same, List.flatten_append]
    have := hown.kept hs (.inr hne)
    simpa using this
  · refine ⟨hgr.os.trans h3.os, hgr.tape.trans h3.tape, hgr.output.trans h3.output, by have := h3.size; have := hgr.size; simp [World.setCell]; omega, fun k hk hn => ?_⟩
    have hkg : k ≠ g := fun e => hn (.inl e)
    have hka : some k ≠ vp.ownBlock := fun e => hn (.inr (.inr (.inr e.symm)))
    rw [Below.heap_setCell _ _ _ _ hkg, hgr.block k (by have := h3.size; omega) hka, h3.block k hk]
  · rcases hat with e | e
    · exact .inl (.inr (.inr (.inr e)))
    · exact .inr e

/-- Nothing is pending any more. -/
theorem DiskAt.putNone (h : DiskAt g vf vn vp firm newest ats what fuel off w) : DiskAt g vf vn (.slice none 0 0) firm newest [] [] fuel off (w.setCell ⟨g, 2, none⟩ (.slice none 0 0)) := by
  obtain ⟨a1, a2, _, a4, _, _⟩ := h.apart
  have g1 := grown_setCell w ⟨g, 2, none⟩ (.slice none 0 0)
  have ho : ∀ v : Value, v.ownBlock = none ∨ v.ownBlock ≠ (Value.slice none 0 0).ownBlock := fun v => by cases hv : v.ownBlock <;> simp [Value.ownBlock]
  exact ⟨by simp [World.setCell, Array.getElem?_modify, h.at_], h.rowF.kept g1 (.inr a1), h.rowN.kept g1 (.inr a2), World.ownsRow_nil _ _ _ _, rfl, h.firmOk, h.newOk, fun p hp => by simp at hp, a1, a2, by simp [Value.ownBlock], a4, ho _, ho _⟩
end
end Go.Proofs.YtjkkbceddbkejaaGreatDoor

/-
  The program's disk: Write.
-/
namespace Go.Proofs.YtjkkbceddbkejaaGreatDoor
open Go.RowKit Sh Go.Extern.Stop Go.Stop Go.Extern

theorem exec_build {P : Program} {o : Oper} {ρ : Operand → Value} (w : World) {t : TypeId} {parts : Array (Nat × Operand)} (_h : o.op = .build t parts) {cells : Array Value} (hb : P.built t (parts.map fun (i, x) => (i, ρ x)).toList = some cells) :
    (execOp ρ o).run P w = .ok (.value (.agg cells)) w := by
  unfold execOp
  simp only [_h, Sem.run_bind, run_build w t _ cells hb, Result.andThen_ok, Sem.run_pure]

def PWritePost (g : Nat) (vf vn : Value) (firm newest : List (List Value)) (ats : List Int) (what : List (List Value)) (fuel : Int) (F : Nat → Prop) (w : World) (e : Ending) (w' : World) : Prop :=
  e = .returned .nilIface ∧ ∃ vp', DiskAt g vf vn vp' firm newest ats what fuel false w' ∧ Only F w w' ∧ ∀ k, Foot g vf vn vp' k → F k ∨ w.heap.size ≤ k

section
variable {g : Nat} {vf vn vp : Value} {firm newest what : List (List Value)} {ats : List Int} {fuel : Int} {off : Bool} {w : World}

set_option maxRecDepth 100000 in
set_option maxHeartbeats 4000000 in
theorem pwrite_ok (h : DiskAt g vf vn vp firm newest ats what fuel false w) (hnl : newest.length = firm.length) (hn : ats.length ≤ 1048576) (hf : fuel ≤ 9223372036854775807) (i : Int) (hi : 0 ≤ i ∧ i < (firm.length : Int)) (hF : firm.length ≤ 4096) (hfu : fuel ≠ 0) (p : List Value) (hp : IsPage p) :
    Calls Tryz.prog 118 #[.pointer (some ⟨g, 0, none⟩), .int .i64 i, .agg p.toArray] w (PWritePost g vf vn firm (newest.set i.toNat p) (ats ++ [i]) (what ++ [p]) (stepS fuel false).1 (Foot g vf vn vp) w) := by
  have hb1 := (Below.refl w.heap.size w).alloc (Nat.le_refl _) (.cells p.toArray 33)
  have h1 := h.below hb1
  have hbox : (w.alloc (.cells p.toArray 33)).heap[w.heap.size]? = some (.cells p.toArray 33 (0, 0)) := heap_alloc_new w _
  obtain ⟨w1, hw1⟩ : ∃ w1, w1 = w.alloc (.cells p.toArray 33) := ⟨_, rfl⟩
  rw [← hw1] at hb1 h1 hbox
  have HW1 := Lib.hid hw1
  have hz1 : w1.heap.size = w.heap.size + 1 := by rw [hw1]; simp
  clear hw1
  have hreach := reach_any h1 i
  have hr0 : reachN firm.length false i = 0 := by
    simp only [reachN, Bool.false_eq_true, if_false]
    rw [if_neg (by omega)]
  rw [hr0, errVal_nil] at hreach
  have hstep := step_any h1 hf
  have hs2 : (stepS fuel false).2.1 = false ∧ (stepS fuel false).2.2 = 0 := by
    simp only [stepS, if_neg hfu, Bool.false_eq_true, if_false]
    split <;> exact ⟨rfl, rfl⟩
  rw [hs2.1, hs2.2, errVal_nil] at hstep
  generalize (stepS fuel false).1 = fuel' at hstep
  go_enter Tryz.func118, Tryz.ntmps118
  go_wp2_with (first
    | (rw [← HW1.out]; go_at_call 128; refine hreach.mono ?_; rintro e w' ⟨rfl, hw'⟩; rw [hw']; clear hw')
    | (go_at_call 92; refine hstep.mono ?_))
  rintro e w2 ⟨rfl, h2, hg2⟩
  have hbox2 : w2.heap[w.heap.size]? = some (.cells p.toArray 33 (0, 0)) := (hg2.block _ (by omega) (by have := h.lt; simp; omega)).trans hbox
  have hz2 := hg2.size
  have hgl := h2.lt
  have hpl : p.length = 64 := hp.1
  have hwl : (wcell i p).length = 65 := by simp [wcell, hpl]
  have hnF : ¬ Foot g vf vn vp w.heap.size := fun hF => by have := h.foot_lt hF; omega
  have ho2 : Only (Foot g vf vn vp) w w2 := (Only.of_below (F := Foot g vf vn vp) hb1).trans (Only.of_grown (F := fun k => k = g) hg2 (fun k e => by simpa using e.symm)) (fun j hj => .inl (.inl hj))
  clear hreach hstep hg2 h1 hb1 hbox HW1
  -- newest[i] = p
  obtain ⟨n, rfl⟩ : ∃ n : Nat, i = (n : Int) := ⟨i.toNat, by omega⟩
  obtain ⟨gn, cn, hvn, _, _⟩ := h2.rowN.form (by omega)
  rw [hvn] at h2
  have h3 : DiskAt g vf (.slice (some ⟨gn, 0, none⟩) newest.length cn) vp firm newest ats what fuel' false { w2 with drawn := w2.drawn + 1 } := h2.drew
  have ho3 : Only (Foot g vf vn vp) w { w2 with drawn := w2.drawn + 1 } := ho2.drew
  have hbox3 : ({ w2 with drawn := w2.drawn + 1 } : World).heap[w.heap.size]? = some (.cells p.toArray 33 (0, 0)) := hbox2
  obtain ⟨wd, hdr⟩ : ∃ wd : World, ({ w2 with drawn := w2.drawn + 1 } : World) = wd := ⟨_, rfl⟩
  rw [hdr] at h3 ho3 hbox3
  have c1 : wd.cell? ⟨g, 1, none⟩ = some (.slice (some ⟨gn, 0, none⟩) newest.length cn) := h3.cell 1
  have hrange0 : wd.rangeAt w.heap.size 0 p := fun j v hj => by rw [Nat.zero_add, cell_of_row wd w.heap.size j _ _ _ hbox3]; simpa using hj
  have HL := Lib.hid (run_loadAt_mid (P := Tryz.prog) wd w.heap.size 0 33 p _ hrange0 Tryz.underlying33 rfl (by rw [hpl]; exact info64))
  obtain ⟨NL, hNL⟩ : ∃ NL, newest.length = NL := ⟨_, rfl⟩
  have hnN : (n : Int) < (NL : Int) := by omega
  obtain ⟨cur, hcur, hcl⟩ : ∃ cur : List Value, wd.heap[gn]? = some (.cells cur.toArray 33 (0, 0)) ∧ newest.length * 64 ≤ cur.length := by
    rcases h3.rowN.2 with ⟨hv, h0⟩ | ⟨g', cap', cur, hv, _, hg, hc, _, hs, _⟩
    · simp at hv
    · simp only [Value.slice.injEq, Option.some.injEq, Addr.mk.injEq, true_and, and_true] at hv
      obtain ⟨rfl, rfl⟩ := hv
      have hs2 : cur.toList.length = cn * 64 := by rw [Array.length_toList]; exact hs
      exact ⟨cur.toList, by simpa using hg, by omega⟩
  rw [hNL] at c1
  have hsz : p.toArray.size = 64 := by rw [List.size_toArray]; exact hpl
  have hi65 : Hid ((Tryz.prog.info? 33).map (·.size) = some p.toArray.size) := by rw [hsz]; exact info64
  have hfit : Hid (n * 64 + p.toArray.size ≤ cur.length) := by
    show n * 64 + p.toArray.size ≤ cur.length
    rw [hsz]
    omega
  have hall : Hid (∀ v ∈ p.toArray.toList, v.oneCell' = true) := fun v hv => hp.2 v (by simpa using hv)
  have Hcur := Lib.hid hcur
  have hgl3 := h3.lt
  clear hcur hsz hcl hrange0 h2 ho2 hbox2
  go_wp2
  refine wp_region_still_tail 7 (by kernel_rfl) (by kernel_rfl) ?_
  rw [hdr]
  simp only [List.take_succ_cons, List.take_zero, List.drop_succ_cons, List.drop_zero]
  iterate 5 still_step
  refine wpStill_val rfl (v := .agg p.toArray) ?_ ?_
  · unfold execOp
    rw [Sem.run_bind]
    exact (congrArg (fun r : Result Value => r.andThen fun v w' => (pure (Next.value v) : Sem Next).run Tryz.prog w') HL.out).trans rfl
  still_step
  refine wpStill_nil ?_
  go_wp2_with (first
    | (refine wpList_store_into rfl 33 _ _ rfl gn (n * 64) p.toArray rfl rfl cur 33 Hcur.out hi65.out hfit.out hall.out ?_; intro w5 Hs5 Hg5))
  have hst : ∀ c : List Value, wd.heap[gn]? = some (.cells c.toArray 33 (0, 0)) → w5.heap[gn]? = some (.cells (splice c (n * 64) p).toArray 33 (0, 0)) := fun c hc => by
    have e := hc.symm.trans Hcur.out
    simp only [Option.some.injEq, Obj.cells.injEq, and_true] at e
    have e2 : c = cur := by simpa using congrArg Array.toList e
    subst e2
    exact Hs5.out
  have h5 := h3.setNew n (by omega) p hp hst Hg5.out
  rw [← hvn] at h5
  have ho5 : Only (Foot g vf vn vp) w w5 := ho3.trans (Only.of_grown (F := fun j => j = gn) Hg5.out (fun j e => by simpa using e.symm)) (fun j hj => by subst hj; left; rw [hvn]; exact .inr (.inr (.inl rfl)))
  have hngn : w.heap.size ≠ gn := fun e => hnF (by rw [hvn]; exact .inr (.inr (.inl (by rw [e]; rfl))))
  have hz3 := ho3.size
  have hbox5 : w5.heap[w.heap.size]? = some (.cells p.toArray 33 (0, 0)) := (Hg5.out.block _ (Array.getElem?_eq_some_iff.1 hbox3).1 (by simp; omega)).trans hbox3
  clear h3 ho3 hbox3 c1 HL Hcur hfit hst Hs5 Hg5 hz3
  obtain ⟨newest', HN⟩ : ∃ x, Hid (newest.set (n : Int).toNat p = x) := ⟨_, rfl⟩
  rw [show newest.set n p = newest' from (by rw [← HN.out, Int.toNat_natCast])] at h5
  -- pending = append(pending, ..)
  refine wp_region_any (by kernel_rfl) ?_
  change wpAny _ _ _ _ _ _ _ (World.drew _)
  have h6 := h5.below (w' := w5.drew) ⟨rfl, rfl, rfl, Nat.le_refl _, fun _ _ => rfl⟩
  have ho6 : Only (Foot g vf vn vp) w w5.drew := ⟨ho5.os, ho5.tape, ho5.output, ho5.size, ho5.block⟩
  have hbox6 : w5.drew.heap[w.heap.size]? = some (.cells p.toArray 33 (0, 0)) := hbox5
  generalize w5.drew = w6 at h6 ho6 hbox6 ⊢
  clear h5 ho5 hbox5
  have hz6 := ho6.size
  have hgl6 := h6.lt
  have hvw : vp.ownBlock ≠ some g := h6.apart.2.2.1
  have hrange : w6.rangeAt w.heap.size 0 p := fun j v hj => by rw [Nat.zero_add, cell_of_row w6 w.heap.size j _ _ _ hbox6]; simpa using hj
  have hld := run_loadAt_mid (P := Tryz.prog) w6 w.heap.size 0 33 p _ hrange Tryz.underlying33 rfl (by rw [hpl]; exact info64)
  have hbw := built_write n p hp
  have c2 : w6.cell? ⟨g, 2, none⟩ = some vp := h6.cell 2
  have h67 := (Below.refl w6.heap.size w6).alloc (Nat.le_refl _) (.cells (wcell n p).toArray 115)
  have ca : (w6.alloc (.cells (wcell n p).toArray 115)).cell? ⟨g, 2, none⟩ = some vp := (h67.cell (p := ⟨g, 2, none⟩) hgl6).trans c2
  have Hst8 := Lib.hid (fun (w3 : World) (hgr3 : (w6.alloc (.cells (wcell n p).toArray 115)).grownBy w3 vp.ownBlock) => show w3.cell? ⟨g, 2, none⟩ = some vp ∧ w3.frozen? ⟨g, 2, none⟩ = false from
    ⟨(hgr3.cell_far ⟨g, 2, none⟩ (by have := h67.size; simp only; omega) (fun e => hvw e.symm)).trans ca,
      (hgr3.frozen_far ⟨g, 2, none⟩ (by have := h67.size; simp only; omega) (fun e => hvw e.symm)).trans ((h67.frozen (p := ⟨g, 2, none⟩) hgl6).trans (h6.thaw 2))⟩)
  obtain ⟨ip, hip, hzp⟩ := Option.map_eq_some_iff.1 infoWrite
  simp only [Prod.mk.injEq] at hzp
  obtain ⟨hp0, hp1, hp2⟩ := hzp
  have hfin : ∀ (gg2 cap2 : Nat) (w9 : World), DiskAt g vf vn (.slice (some ⟨gg2, 0, none⟩) (ats.length + 1) cap2) firm newest' (ats ++ [(n : Int)]) (what ++ [p]) fuel' false w9 →
      Only (Foot g vf vn vp) w6 w9 → (Foot g vf vn vp gg2 ∨ w6.heap.size ≤ gg2) →
      PWritePost g vf vn firm (newest.set (n : Int).toNat p) (ats ++ [(n : Int)]) (what ++ [p]) fuel' (Foot g vf vn vp) w (.returned .nilIface) w9 := by
    intro gg2 cap2 w9 h9 ho9 hfo9
    rw [HN.out]
    refine ⟨rfl, _, h9, ho6.trans ho9 (fun j hj => .inl hj), fun k hk => ?_⟩
    rcases hk with e | e | e | e
    · exact .inl (.inl e)
    · exact .inl (.inr (.inl e))
    · exact .inl (.inr (.inr (.inl e)))
    · obtain rfl : gg2 = k := by simpa [Value.ownBlock] using e
      exact hfo9.imp id (fun e => by omega)
  clear hnN hi hngn
  refine wpAny_take (i := 0) (v := .pointer (some ⟨g, 0, none⟩)) rfl (by kernel_rfl) (by kernel_rfl) (by kernel_rfl) (fun _ _ _ h => h) (Or.inl ⟨by rfl, ?_⟩) ?_
  · intro w'; go_simp
  try simp only [List.getElem_toArray, List.getElem_cons_zero, Act.put, List.setIfInBounds_toArray, List.set]
  refine wpAny_take (i := 1) (v := .pointer (some ⟨g, 0, none⟩)) rfl (by kernel_rfl) (by kernel_rfl) (by kernel_rfl) (fun _ _ _ h => h) (Or.inl ⟨by rfl, ?_⟩) ?_
  · intro w'; go_simp
  try simp only [List.getElem_toArray, List.getElem_cons_succ, List.getElem_cons_zero, Act.put, List.setIfInBounds_toArray, List.set]
  refine wpAny_take (i := 2) (v := .pointer (some ⟨g, 0, none⟩)) rfl (by kernel_rfl) (by kernel_rfl) (by kernel_rfl) (fun _ _ _ h => h) (Or.inl ⟨by rfl, ?_⟩) ?_
  · intro w'; go_simp
  try simp only [List.getElem_toArray, List.getElem_cons_succ, List.getElem_cons_zero, Act.put, List.setIfInBounds_toArray, List.set]
  refine wpAny_take (i := 3) (v := .pointer (some ⟨g, 2, none⟩)) rfl (by kernel_rfl) (by kernel_rfl) (by kernel_rfl) (fun _ _ _ h => h) (Or.inl ⟨by rfl, ?_⟩) ?_
  · intro w'; go_simp
  try simp only [List.getElem_toArray, List.getElem_cons_succ, List.getElem_cons_zero, Act.put, List.setIfInBounds_toArray, List.set]
  refine wpAny_take (i := 5) (v := .int .i64 n) rfl (by kernel_rfl) (by kernel_rfl) (by kernel_rfl) (fun _ _ _ h => h) (Or.inl ⟨by rfl, ?_⟩) ?_
  · intro w'; go_simp
  try simp only [List.getElem_toArray, List.getElem_cons_succ, List.getElem_cons_zero, Act.put, List.setIfInBounds_toArray, List.set]
  refine wpAny_ready (rs := [4, 6]) (by kernel_rfl) (by simp) (AllReady.cons rfl (fun K hK => ?_) (AllReady.cons rfl (fun K hK => ?_) AllReady.nil))
  · refine step_quiet rfl (v := vp) (by have c := c2; go_simp) ?_
    refine hK _ _ ?_
    clear hK K
    try simp only [List.getElem_toArray, List.getElem_cons_succ, List.getElem_cons_zero, Act.put, List.setIfInBounds_toArray, List.set]
    refine wpAny_ready (rs := [6]) (by kernel_rfl) (by simp) (AllReady.cons rfl (fun K hK => ?_) AllReady.nil)
    refine step_quiet rfl (v := .agg p.toArray) (exec_load _ _ 33 _ rfl w.heap.size 0 rfl _ hld) ?_
    refine hK _ _ ?_
    clear hK K
    try simp only [List.getElem_toArray, List.getElem_cons_succ, List.getElem_cons_zero, Act.put, List.setIfInBounds_toArray, List.set]
    refine wpAny_take (i := 7) (v := .agg (wcell n p).toArray) rfl (by kernel_rfl) (by kernel_rfl) (by kernel_rfl) (fun _ _ _ h => h) (Or.inl ⟨by rfl, ?_⟩) ?_
    · intro w'; exact exec_build w' rfl (Eq.trans (congrArg (Program.built _ _) (by simp [Act.eval])) hbw)
    try simp only [List.getElem_toArray, List.getElem_cons_succ, List.getElem_cons_zero, Act.put, List.setIfInBounds_toArray, List.set]
    refine wpAny_ready (rs := [8]) (by kernel_rfl) (by simp) (AllReady.cons rfl (fun K hK => ?_) AllReady.nil)
    refine step_wp rfl (wp_build_write _ rfl (wcell n p) hwl rfl ?_)
    refine hK _ _ ?_
    clear hK K
    try simp only [List.getElem_toArray, List.getElem_cons_succ, List.getElem_cons_zero, Act.put, List.setIfInBounds_toArray, List.set]
    refine wpAny_ready (rs := [9]) (by kernel_rfl) (by simp) (AllReady.cons rfl (fun K hK => ?_) AllReady.nil)
    refine step_append_lies _ rfl _ _ _ rfl 0 115 ip _ 65 72 Tryz.underlying109 hip hp0 hp1 hp2 (by simp [Value.cells, zeroPage]) (by omega) vp ats.length _ rfl (h6.rowP.alloc _) ⟨w6.heap.size, 0, none⟩ 1 1 (wcell n p) rfl (by rw [hwl]) (World.news_of_block (cs := (wcell n p).toArray) (t := 115) (fr := (0, 0)) (heap_alloc_new w6 _)) (wcell_one hp) (by omega) (by unfold maxLen; omega) (by omega) (by omega) (w6.heap.size + 1) (by simp) ?_
    intro gg2 cap2 w8 hown8 hgr8 hat8 hlt8
    refine hK _ _ ?_
    clear hK K
    try simp only [List.getElem_toArray, List.getElem_cons_succ, List.getElem_cons_zero, Act.put, List.setIfInBounds_toArray, List.set]
    obtain ⟨hc8, hf8⟩ := Hst8.out w8 hgr8
    obtain ⟨h9, ho9, hfo9⟩ := h6.putPend hp h67 hown8 hgr8 (hat8.imp id (fun e => by omega))
    refine wpAny_take (i := 10) (v := .pointer (some ⟨g, 0, none⟩)) rfl (by kernel_rfl) (by kernel_rfl) (by kernel_rfl) (fun _ _ _ h => h) (Or.inl ⟨by rfl, ?_⟩) ?_
    · intro w'; go_simp
    try simp only [List.getElem_toArray, List.getElem_cons_succ, List.getElem_cons_zero, Act.put, List.setIfInBounds_toArray, List.set]
    refine wpAny_take (i := 11) (v := .pointer (some ⟨g, 2, none⟩)) rfl (by kernel_rfl) (by kernel_rfl) (by kernel_rfl) (fun _ _ _ h => h) (Or.inl ⟨by rfl, ?_⟩) ?_
    · intro w'; go_simp
    try simp only [List.getElem_toArray, List.getElem_cons_succ, List.getElem_cons_zero, Act.put, List.setIfInBounds_toArray, List.set]
    refine wpAny_ready (rs := [12]) (by kernel_rfl) (by simp) (AllReady.cons rfl (fun K hK => ?_) AllReady.nil)
    go_simp
    refine hK _ _ ?_
    clear hK K
    try simp only [List.getElem_toArray, List.getElem_cons_succ, List.getElem_cons_zero, Act.put, List.setIfInBounds_toArray, List.set]
    refine wpAny_done (by kernel_rfl) ?_ _
    go_wp2
    go_ret
    exact hfin gg2 cap2 _ h9 ho9 hfo9
  · refine step_quiet rfl (v := .agg p.toArray) (exec_load _ _ 33 _ rfl w.heap.size 0 rfl _ hld) ?_
    refine hK _ _ ?_
    clear hK K
    try simp only [List.getElem_toArray, List.getElem_cons_succ, List.getElem_cons_zero, Act.put, List.setIfInBounds_toArray, List.set]
    refine wpAny_take (i := 7) (v := .agg (wcell n p).toArray) rfl (by kernel_rfl) (by kernel_rfl) (by kernel_rfl) (fun _ _ _ h => h) (Or.inl ⟨by rfl, ?_⟩) ?_
    · intro w'; exact exec_build w' rfl (Eq.trans (congrArg (Program.built _ _) (by simp [Act.eval])) hbw)
    try simp only [List.getElem_toArray, List.getElem_cons_succ, List.getElem_cons_zero, Act.put, List.setIfInBounds_toArray, List.set]
    refine wpAny_ready (rs := [4, 8]) (by kernel_rfl) (by simp) (AllReady.cons rfl (fun K hK => ?_) (AllReady.cons rfl (fun K hK => ?_) AllReady.nil))
    · refine step_quiet rfl (v := vp) (by have c := c2; go_simp) ?_
      refine hK _ _ ?_
      clear hK K
      try simp only [List.getElem_toArray, List.getElem_cons_succ, List.getElem_cons_zero, Act.put, List.setIfInBounds_toArray, List.set]
      refine wpAny_ready (rs := [8]) (by kernel_rfl) (by simp) (AllReady.cons rfl (fun K hK => ?_) AllReady.nil)
      refine step_wp rfl (wp_build_write _ rfl (wcell n p) hwl rfl ?_)
      refine hK _ _ ?_
      clear hK K
      try simp only [List.getElem_toArray, List.getElem_cons_succ, List.getElem_cons_zero, Act.put, List.setIfInBounds_toArray, List.set]
      refine wpAny_ready (rs := [9]) (by kernel_rfl) (by simp) (AllReady.cons rfl (fun K hK => ?_) AllReady.nil)
      refine step_append_lies _ rfl _ _ _ rfl 0 115 ip _ 65 72 Tryz.underlying109 hip hp0 hp1 hp2 (by simp [Value.cells, zeroPage]) (by omega) vp ats.length _ rfl (h6.rowP.alloc _) ⟨w6.heap.size, 0, none⟩ 1 1 (wcell n p) rfl (by rw [hwl]) (World.news_of_block (cs := (wcell n p).toArray) (t := 115) (fr := (0, 0)) (heap_alloc_new w6 _)) (wcell_one hp) (by omega) (by unfold maxLen; omega) (by omega) (by omega) (w6.heap.size + 1) (by simp) ?_
      intro gg2 cap2 w8 hown8 hgr8 hat8 hlt8
      refine hK _ _ ?_
      clear hK K
      try simp only [List.getElem_toArray, List.getElem_cons_succ, List.getElem_cons_zero, Act.put, List.setIfInBounds_toArray, List.set]
      obtain ⟨hc8, hf8⟩ := Hst8.out w8 hgr8
      obtain ⟨h9, ho9, hfo9⟩ := h6.putPend hp h67 hown8 hgr8 (hat8.imp id (fun e => by omega))
      refine wpAny_take (i := 10) (v := .pointer (some ⟨g, 0, none⟩)) rfl (by kernel_rfl) (by kernel_rfl) (by kernel_rfl) (fun _ _ _ h => h) (Or.inl ⟨by rfl, ?_⟩) ?_
      · intro w'; go_simp
      try simp only [List.getElem_toArray, List.getElem_cons_succ, List.getElem_cons_zero, Act.put, List.setIfInBounds_toArray, List.set]
      refine wpAny_take (i := 11) (v := .pointer (some ⟨g, 2, none⟩)) rfl (by kernel_rfl) (by kernel_rfl) (by kernel_rfl) (fun _ _ _ h => h) (Or.inl ⟨by rfl, ?_⟩) ?_
      · intro w'; go_simp
      try simp only [List.getElem_toArray, List.getElem_cons_succ, List.getElem_cons_zero, Act.put, List.setIfInBounds_toArray, List.set]
      refine wpAny_ready (rs := [12]) (by kernel_rfl) (by simp) (AllReady.cons rfl (fun K hK => ?_) AllReady.nil)
      go_simp
      refine hK _ _ ?_
      clear hK K
      try simp only [List.getElem_toArray, List.getElem_cons_succ, List.getElem_cons_zero, Act.put, List.setIfInBounds_toArray, List.set]
      refine wpAny_done (by kernel_rfl) ?_ _
      go_wp2
      go_ret
      exact hfin gg2 cap2 _ h9 ho9 hfo9
    · refine step_wp rfl (wp_build_write _ rfl (wcell n p) hwl rfl ?_)
      refine hK _ _ ?_
      clear hK K
      try simp only [List.getElem_toArray, List.getElem_cons_succ, List.getElem_cons_zero, Act.put, List.setIfInBounds_toArray, List.set]
      refine wpAny_ready (rs := [4]) (by kernel_rfl) (by simp) (AllReady.cons rfl (fun K hK => ?_) AllReady.nil)
      refine step_quiet rfl (v := vp) (by have c := ca; go_simp) ?_
      refine hK _ _ ?_
      clear hK K
      try simp only [List.getElem_toArray, List.getElem_cons_succ, List.getElem_cons_zero, Act.put, List.setIfInBounds_toArray, List.set]
      refine wpAny_ready (rs := [9]) (by kernel_rfl) (by simp) (AllReady.cons rfl (fun K hK => ?_) AllReady.nil)
      refine step_append_lies _ rfl _ _ _ rfl 0 115 ip _ 65 72 Tryz.underlying109 hip hp0 hp1 hp2 (by simp [Value.cells, zeroPage]) (by omega) vp ats.length _ rfl (h6.rowP.alloc _) ⟨w6.heap.size, 0, none⟩ 1 1 (wcell n p) rfl (by rw [hwl]) (World.news_of_block (cs := (wcell n p).toArray) (t := 115) (fr := (0, 0)) (heap_alloc_new w6 _)) (wcell_one hp) (by omega) (by unfold maxLen; omega) (by omega) (by omega) (w6.heap.size + 1) (by simp) ?_
      intro gg2 cap2 w8 hown8 hgr8 hat8 hlt8
      refine hK _ _ ?_
      clear hK K
      try simp only [List.getElem_toArray, List.getElem_cons_succ, List.getElem_cons_zero, Act.put, List.setIfInBounds_toArray, List.set]
      obtain ⟨hc8, hf8⟩ := Hst8.out w8 hgr8
      obtain ⟨h9, ho9, hfo9⟩ := h6.putPend hp h67 hown8 hgr8 (hat8.imp id (fun e => by omega))
      refine wpAny_take (i := 10) (v := .pointer (some ⟨g, 0, none⟩)) rfl (by kernel_rfl) (by kernel_rfl) (by kernel_rfl) (fun _ _ _ h => h) (Or.inl ⟨by rfl, ?_⟩) ?_
      · intro w'; go_simp
      try simp only [List.getElem_toArray, List.getElem_cons_succ, List.getElem_cons_zero, Act.put, List.setIfInBounds_toArray, List.set]
      refine wpAny_take (i := 11) (v := .pointer (some ⟨g, 2, none⟩)) rfl (by kernel_rfl) (by kernel_rfl) (by kernel_rfl) (fun _ _ _ h => h) (Or.inl ⟨by rfl, ?_⟩) ?_
      · intro w'; go_simp
      try simp only [List.getElem_toArray, List.getElem_cons_succ, List.getElem_cons_zero, Act.put, List.setIfInBounds_toArray, List.set]
      refine wpAny_ready (rs := [12]) (by kernel_rfl) (by simp) (AllReady.cons rfl (fun K hK => ?_) AllReady.nil)
      go_simp
      refine hK _ _ ?_
      clear hK K
      try simp only [List.getElem_toArray, List.getElem_cons_succ, List.getElem_cons_zero, Act.put, List.setIfInBounds_toArray, List.set]
      refine wpAny_done (by kernel_rfl) ?_ _
      go_wp2
      go_ret
      exact hfin gg2 cap2 _ h9 ho9 hfo9

/-- Write where nothing is written. -/
def PNoPost (g : Nat) (vf vn vp : Value) (firm newest : List (List Value)) (ats : List Int) (what : List (List Value)) (r : Int × Bool × Int) (w : World) (e : Ending) (w' : World) : Prop :=
  ∃ v, e = .returned v ∧ ErrV w' r.2.2 v ∧ DiskAt g vf vn vp firm newest ats what r.1 r.2.1 w' ∧ Only (fun k => k = g) w w'

set_option maxRecDepth 100000 in
set_option maxHeartbeats 4000000 in
theorem pwrite_no (h : DiskAt g vf vn vp firm newest ats what fuel off w) (hf : fuel ≤ 9223372036854775807) (i : Int) (p : List Value) (r : Int × Bool × Int) (hr : noWrite firm fuel off i = some r) :
    Calls Tryz.prog 118 #[.pointer (some ⟨g, 0, none⟩), .int .i64 i, .agg p.toArray] w (PNoPost g vf vn vp firm newest ats what r w) := by
  have hb1 := (Below.refl w.heap.size w).alloc (Nat.le_refl _) (.cells p.toArray 33)
  have h1 := h.below hb1
  have hreach := reach_any h1 i
  have hstep := step_any h1 hf
  by_cases h0 : reachN firm.length off i = 0
  · obtain ⟨rfl, rfl, rfl⟩ : off = false ∧ fuel = 0 ∧ r = (fuel, true, 10) := by
      cases off with
      | true => simp [reachN] at h0
      | false =>
        have hb : ¬ (i < 0 ∨ (firm.length : Int) ≤ i) := fun hb => by simp [reachN, hb] at h0
        by_cases hf0 : fuel = 0
        · refine ⟨rfl, hf0, ?_⟩
          simpa [noWrite, hb, hf0] using hr.symm
        · simp [noWrite, hb, hf0] at hr
    rw [h0, errVal_nil] at hreach
    have hs : stepS 0 false = (0, true, 10) := rfl
    rw [hs] at hstep
    have he : errVal 10 = .iface 84 (.int .i64 10) := rfl
    simp only [he] at hstep
    have hq : ∀ W : World, (binOp .neq 30 (.iface 84 (.int .i64 10)) .nilIface).run Tryz.prog W = .ok (.bool true) W := fun W => run_neq_held_nil W 30 _ _ Tryz.methodsError
    clear hr h0 he hs
    go_enter Tryz.func118, Tryz.ntmps118
    go_wp2_with (first
      | (go_at_call 128; refine hreach.mono ?_; rintro e w' ⟨rfl, rfl⟩)
      | (go_at_call 92; refine hstep.mono ?_; rintro e w2 ⟨rfl, h2, hg2⟩)
      | (go_at_call 35; refine (in_more ⟨#[100, 105, 115, 107, 46, 87, 114, 105, 116, 101]⟩ 10 [] _ _ rfl).mono ?_; rintro e w3 ⟨rfl, hC3, hb3⟩))
    go_ret
    exact ⟨_, rfl, .inr ⟨by decide, _, hC3⟩, h2.below hb3, ((Only.of_below (F := fun k => k = g) hb1).trans (Only.of_grown (F := fun k => k = g) hg2 (fun k e => by simpa using e.symm)) (fun j hj => .inl hj)).trans (Only.of_below (F := fun k => k = g) hb3) (fun j hj => .inl hj)⟩
  · obtain rfl : r = (fuel, off, reachN firm.length off i) := by
      cases off with
      | true => simpa [noWrite, reachN] using hr.symm
      | false =>
        by_cases hb : i < 0 ∨ (firm.length : Int) ≤ i
        · simpa [noWrite, reachN, hb] using hr.symm
        · simp [reachN, hb] at h0
    generalize reachN firm.length off i = n at h0 hreach ⊢
    rw [errVal_held h0] at hreach
    have hq : ∀ W : World, (binOp .neq 30 (.iface 84 (.int .i64 n)) .nilIface).run Tryz.prog W = .ok (.bool true) W := fun W => run_neq_held_nil W 30 _ _ Tryz.methodsError
    have hq2 : ∀ W : World, (binOp .eql 30 (.iface 84 (.int .i64 n)) .nilIface).run Tryz.prog W = .ok (.bool false) W := fun W => run_eql_held_nil W 30 _ _ Tryz.methodsError
    clear hr hstep
    go_enter Tryz.func118, Tryz.ntmps118
    go_wp2_with (first
      | (go_at_call 128; refine hreach.mono ?_; rintro e w' ⟨rfl, rfl⟩)
      | (go_at_call 35; refine (in_more ⟨#[100, 105, 115, 107, 46, 87, 114, 105, 116, 101]⟩ n [] _ _ rfl).mono ?_; rintro e w3 ⟨rfl, hC3, hb3⟩))
    go_ret
    simp only [World.size_alloc] at hC3
    exact ⟨_, rfl, .inr ⟨h0, _, hC3⟩, h1.below hb3, (Only.of_below (F := fun k => k = g) hb1).trans (Only.of_below (F := fun k => k = g) hb3) (fun j hj => .inl hj)⟩

/-- Write to none. -/
theorem pwrite_nil (i : Int) (p : List Value) (w : World) : Calls Tryz.prog 118 #[.pointer none, .int .i64 i, .agg p.toArray] w fun e w' => ∃ v, e = .returned v ∧ ErrV w' 10 v ∧ Below w.heap.size w w' := by
  have hb1 := (Below.refl w.heap.size w).alloc (Nat.le_refl _) (.cells p.toArray 33)
  have hreach : ∀ w, Calls Tryz.prog 128 #[.pointer none, .int .i64 i] w fun e w' => e = .returned (.iface 84 (.int .i64 10)) ∧ w' = w := fun w => by
    go_enter Tryz.func128, Tryz.ntmps128
    go_wp2_with (go_at_call 126; refine (off_nil w).mono ?_; rintro e w' ⟨rfl, rfl⟩)
    go_ret
    exact ⟨rfl, rfl⟩
  have hq : ∀ W : World, (binOp .neq 30 (.iface 84 (.int .i64 10)) .nilIface).run Tryz.prog W = .ok (.bool true) W := fun W => run_neq_held_nil W 30 _ _ Tryz.methodsError
  have hq2 : ∀ W : World, (binOp .eql 30 (.iface 84 (.int .i64 10)) .nilIface).run Tryz.prog W = .ok (.bool false) W := fun W => run_eql_held_nil W 30 _ _ Tryz.methodsError
  go_enter Tryz.func118, Tryz.ntmps118
  go_wp2_with (first
    | (go_at_call 128; refine (hreach _).mono ?_; rintro e w' ⟨rfl, rfl⟩)
    | (go_at_call 35; refine (in_more ⟨#[100, 105, 115, 107, 46, 87, 114, 105, 116, 101]⟩ 10 [] _ _ rfl).mono ?_; rintro e w3 ⟨rfl, hC3, hb3⟩))
  go_ret
  simp only [World.size_alloc] at hC3
  exact ⟨_, rfl, .inr ⟨by decide, _, hC3⟩, hb1.trans (hb3.mono hb1.size)⟩
end
end Go.Proofs.YtjkkbceddbkejaaGreatDoor

/-
  The program's disk: Flush.
-/
namespace Go.Proofs.YtjkkbceddbkejaaGreatDoor
open Go.RowKit Sh Go.Extern.Stop Go.Stop Go.Extern

def zeroWrite : List Value := .int .i64 0 :: zeroPage
def zeros65 : Array Value := zeroWrite.toArray
set_option maxRecDepth 100000 in
theorem alloc65 (w : World) : (Instr.alloc 115 true (.tuple #[])).run Tryz.prog w = .ok (.pointer (some ⟨w.heap.size, 0, none⟩)) (w.alloc (.cells zeros65 115)) := by kernel_rfl

theorem flushS_length : ∀ (firm : List (List Value)) (ats : List Int) (what : List (List Value)), (flushS firm ats what).length = firm.length
  | _, [], _ => by simp [flushS]
  | _, _ :: _, [] => by simp [flushS]
  | firm, a :: xs, p :: ys => by simp only [flushS]; rw [flushS_length]; simp

def PFlushPost (g : Nat) (vf vn : Value) (firm newest : List (List Value)) (fuel : Int) (F : Nat → Prop) (w : World) (e : Ending) (w' : World) : Prop :=
  e = .returned .nilIface ∧ DiskAt g vf vn (.slice none 0 0) firm newest [] [] fuel false w' ∧ Only F w w'

section
variable {g : Nat} {vf vn vp : Value} {firm newest what : List (List Value)} {ats : List Int} {fuel : Int} {off : Bool} {w : World}

set_option maxRecDepth 100000 in
set_option maxHeartbeats 4000000 in
theorem pflush_ok (h : DiskAt g vf vn vp firm newest ats what fuel false w) (hn : ats.length ≤ 1048576) (hf : fuel ≤ 9223372036854775807) (hfu : fuel ≠ 0) (hF : firm.length ≤ 4096) (hin : ∀ a ∈ ats, 0 ≤ a ∧ a < (firm.length : Int)) :
    Calls Tryz.prog 51 #[.pointer (some ⟨g, 0, none⟩)] w (PFlushPost g vf vn (flushS firm ats what) newest (stepS fuel false).1 (Foot g vf vn vp) w) := by
  have hsame := h.same
  have hstep := step_any h hf
  have hs2 : (stepS fuel false).2.1 = false ∧ (stepS fuel false).2.2 = 0 := by
    simp only [stepS, if_neg hfu, Bool.false_eq_true, if_false]
    split <;> exact ⟨rfl, rfl⟩
  rw [hs2.1, hs2.2, errVal_nil] at hstep
  generalize (stepS fuel false).1 = fuel' at hstep
  obtain ⟨aa, ca, rfl⟩ := slice_form h.rowP
  obtain ⟨L, hL⟩ : ∃ L, Hid (ats.length = L) := ⟨_, rfl⟩
  have hLn : L ≤ 1048576 := by rw [← hL.out]; exact hn
  go_enter Tryz.func51, Tryz.ntmps51
  go_wp2_with (go_at_call 92; refine hstep.mono ?_)
  rintro e w2 ⟨rfl, h2, hg2⟩
  have ho2 : Only (Foot g vf vn (.slice aa ats.length ca)) w w2 := Only.of_grown hg2 (fun k e => .inl (by simpa using e.symm))
  have c2 : w2.cell? ⟨g, 2, none⟩ = some (.slice aa ats.length ca) := h2.cell 2
  go_wp2
  go_loopg [17] L (fun gg v wr => ∃ (k : Nat) (fm : List (List Value)), gg = L - k ∧ k ≤ L ∧ v = .int .i64 k ∧ fm.length = firm.length ∧ flushS fm (ats.drop k) (what.drop k) = flushS firm ats what ∧ DiskAt g vf vn (.slice aa ats.length ca) fm newest ats what fuel' false wr ∧ Only (Foot g vf vn (.slice aa ats.length ca)) w wr)
  case atStart => exact ⟨0, firm, rfl, by omega, rfl, rfl, rfl, h2, ho2⟩
  case round =>
    clear h2 ho2 hg2 hstep h c2
    obtain ⟨k, fm, rfl, hk, rfl, hfm, hfl, hR, hO⟩ := hrel
    by_cases hlt : k < L
    · have hlt' : (k : Int) < (L : Int) := by omega
      have hltA : (k : Int) < (ats.length : Int) := by rw [hL.out]; exact hlt'
      have hka : k < ats.length := by omega
      have hkw : k < what.length := by rw [hsame]; exact hka
      have ha := List.getElem?_eq_getElem hka
      have hpw := List.getElem?_eq_getElem hkw
      have hai := hin ats[k] (List.getElem_mem hka)
      obtain ⟨gf, cf, hvf, _, _⟩ := hR.rowF.form (by omega)
      obtain ⟨gp, cp, hvp, _, _⟩ := hR.rowP.form (by omega)
      obtain ⟨rfl, rfl⟩ : aa = some ⟨gp, 0, none⟩ ∧ ca = cp := by
        simp only [Value.slice.injEq] at hvp
        exact ⟨hvp.1, hvp.2.2⟩
      have hd1 : ats.drop k = ats[k] :: ats.drop (k + 1) := List.drop_eq_getElem_cons hka
      have hd2 : what.drop k = what[k] :: what.drop (k + 1) := List.drop_eq_getElem_cons hkw
      have hPg := hR.whatOk what[k] (List.getElem_mem hkw)
      rw [hd1, hd2] at hfl
      simp only [flushS] at hfl
      rw [hvf] at hR
      have hwr : wr.rangeAt gp (k * 65) (wcell ats[k] what[k]) := own_write hR.rowP hR.whatOk hsame k ats[k] what[k] ha hpw rfl
      obtain ⟨i, haa⟩ : ∃ i, ats[k] = i := ⟨_, rfl⟩
      obtain ⟨pg, hpp⟩ : ∃ pg, what[k] = pg := ⟨_, rfl⟩
      rw [haa] at hai hfl hwr
      rw [hpp] at hPg hfl hwr
      obtain ⟨F, hFl⟩ : ∃ F, fm.length = F := ⟨_, rfl⟩
      obtain ⟨n, rfl⟩ : ∃ n : Nat, i = (n : Int) := ⟨i.toNat, by omega⟩
      have hnF : (n : Int) < (F : Int) := by omega
      have hwk : IntKind.i64.wrap ((k : Int) + 1) = ((k + 1 : Nat) : Int) := by rw [IntWalk.i64_in _ (by omega)]; omega
      obtain ⟨wc, hwc⟩ : ∃ wc, Hid (wcell n pg = wc) := ⟨_, rfl⟩
      have hwcl : wc.length = 65 := by rw [← hwc.out]; simp [wcell, hPg.1]
      rw [hwc.out] at hwr
      have HRg := Lib.hid hwr
      have hi73 : Hid ((Tryz.prog.info? 115).map (·.size) = some wc.length) := by rw [hwcl]; exact info65
      have hi74 : Hid ((Tryz.prog.info? 115).map (·.size) = some wc.toArray.size) := by rw [List.size_toArray, hwcl]; exact info65
      have hold : Hid (zeros65.size = wc.toArray.size) := by
        have e : wc.toArray.size = 65 := by rw [List.size_toArray]; exact hwcl
        rw [e]; exact (rfl : zeros65.size = 65)
      have hall1 : Hid (wc.toArray.all (·.oneCell') = true) := all_oneCell_toArray (by rw [← hwc.out]; exact wcell_one hPg)
      -- the world in which the page is stored
      obtain ⟨wa, hwa⟩ : ∃ wa : World, Hid (wr.alloc (.cells wc.toArray 115) = wa) := ⟨_, rfl⟩
      have hba : Below wr.heap.size wr wa := by rw [← hwa.out]; exact (Below.refl _ wr).alloc (Nat.le_refl _) _
      have hbk : wa.heap[wr.heap.size]? = some (.cells wc.toArray 115 (0, 0)) := by rw [← hwa.out]; exact heap_alloc_new wr _
      have hRs : DiskAt g (.slice (some ⟨gf, 0, none⟩) fm.length cf) vn (.slice (some ⟨gp, 0, none⟩) ats.length ca) fm newest ats what fuel' false { wa with drawn := wa.drawn + 1 } := (hR.below hba).drew
      have hOs : Only (Foot g vf vn (.slice (some ⟨gp, 0, none⟩) ats.length ca)) w { wa with drawn := wa.drawn + 1 } := (hO.trans (Only.of_below (F := fun _ => False) hba) (fun _ e => e.elim)).drew
      have hbk2 : ({ wa with drawn := wa.drawn + 1 } : World).heap[wr.heap.size]? = some (.cells wc.toArray 115 (0, 0)) := hbk
      obtain ⟨wd, hdr⟩ : ∃ wd : World, ({ wa with drawn := wa.drawn + 1 } : World) = wd := ⟨_, rfl⟩
      rw [hdr] at hRs hOs hbk2
      have c0 : wd.cell? ⟨g, 0, none⟩ = some (.slice (some ⟨gf, 0, none⟩) F cf) := by rw [← hFl]; exact hRs.cell 0
      have ck : wd.cell? ⟨wr.heap.size, 0, none⟩ = some (.int .i64 n) := by rw [cell_of_row wd _ 0 _ _ _ hbk2, ← hwc.out]; rfl
      have hrange : wd.rangeAt wr.heap.size 1 pg := fun j v hj => by
        rw [cell_of_row wd _ (1 + j) _ _ _ hbk2, ← hwc.out, List.getElem?_toArray, Nat.add_comm]
        simpa [wcell] using hj
      have hi64 : (Tryz.prog.info? 33).map (·.size) = some pg.length := by rw [hPg.1]; exact info64
      have HL := Lib.hid (run_loadAt_mid wd wr.heap.size 1 33 pg _ hrange Tryz.underlying33 rfl hi64)
      obtain ⟨cur, hcur, hcl⟩ : ∃ cur : List Value, wd.heap[gf]? = some (.cells cur.toArray 33 (0, 0)) ∧ fm.length * 64 ≤ cur.length := by
        rcases hRs.rowF.2 with ⟨hv, h0⟩ | ⟨g', cap', cur, hv, _, hg, hc, _, hs, _⟩
        · simp at hv
        · simp only [Value.slice.injEq, Option.some.injEq, Addr.mk.injEq, true_and, and_true] at hv
          obtain ⟨rfl, rfl⟩ := hv
          have hs2 : cur.toList.length = cf * 64 := by rw [Array.length_toList]; exact hs
          exact ⟨cur.toList, by simpa using hg, by omega⟩
      have hsz : pg.toArray.size = 64 := by rw [List.size_toArray]; exact hPg.1
      have hi65 : Hid ((Tryz.prog.info? 33).map (·.size) = some pg.toArray.size) := by rw [hsz]; exact info64
      have hfit : Hid (n * 64 + pg.toArray.size ≤ cur.length) := by
        show n * 64 + pg.toArray.size ≤ cur.length
        rw [hsz]
        omega
      have HPg := Lib.hid hPg
      have HFL := Lib.hid hfl
      have hall : Hid (∀ v ∈ pg.toArray.toList, v.oneCell' = true) := fun v hv => HPg.out.2 v (by simpa using hv)
      have Hcur := Lib.hid hcur
      clear hcur hsz hcl hrange hPg hfl hpp haa ha hpw hvp hd1 hd2 hai hwr hi64 hbk hR hba hbk2
      go_wp2_with (first
        | (refine wpList_load_mid rfl 115 _ rfl gp (k * 65) rfl wc _ HRg.out Tryz.underlying115 rfl hi73.out ?_)
        | (refine wpList_alloc_arr rfl 115 rfl _ alloc65 ?_)
        | (refine wpList_store_new rfl 115 _ _ rfl wr.heap.size rfl wc.toArray rfl rfl 115 _ hi74.out hold.out hall1.out ?_; rw [hwa.out]))
      refine wp_region_still_tail 9 (by kernel_rfl) (by kernel_rfl) ?_
      rw [hdr]
      simp only [List.take_succ_cons, List.take_zero, List.drop_succ_cons, List.drop_zero]
      iterate 7 still_step
      refine wpStill_val rfl (v := .agg pg.toArray) ?_ ?_
      · unfold execOp
        rw [Sem.run_bind]
        exact (congrArg (fun r : Result Value => r.andThen fun v w' => (pure (Next.value v) : Sem Next).run Tryz.prog w') HL.out).trans rfl
      still_step
      refine wpStill_nil ?_
      go_wp2_with (first
        | (refine wpList_store_into rfl 33 _ _ rfl gf (n * 64) pg.toArray rfl rfl cur 33 Hcur.out hi65.out hfit.out hall.out ?_; intro w5 Hs5 Hg5))
      have hst : ∀ c : List Value, wd.heap[gf]? = some (.cells c.toArray 33 (0, 0)) → w5.heap[gf]? = some (.cells (splice c (n * 64) pg).toArray 33 (0, 0)) := fun c hc => by
        have e := hc.symm.trans Hcur.out
        simp only [Option.some.injEq, Obj.cells.injEq, and_true] at e
        have e2 : c = cur := by simpa using congrArg Array.toList e
        subst e2
        exact Hs5.out
      have hnf : n < fm.length := by omega
      have h5 := hRs.setFirm n hnf pg HPg.out hst Hg5.out
      rw [← hvf] at h5
      have ho5 : Only (Foot g vf vn (.slice (some ⟨gp, 0, none⟩) ats.length ca)) w w5 := hOs.trans (Only.of_grown (F := fun j => j = gf) Hg5.out (fun j e => by simpa using e.symm)) (fun j hj => by subst hj; left; rw [hvf]; exact .inr (.inl rfl))
      go_roundg (L - (k + 1))
      case measure => omega
      case rel =>
        refine ⟨k + 1, fm.set n pg, rfl, by omega, by first | rfl | simp, by rw [List.length_set]; exact hfm, ?_, h5, ho5⟩
        simpa using HFL.out
    · obtain rfl : k = L := by omega
      have hge : ¬ ((k : Int) < (ats.length : Int)) := by rw [hL.out]; omega
      have e1 : ats.drop k = [] := by rw [← hL.out, List.drop_length]
      rw [e1] at hfl
      have hfin := hR.putNone
      have hO2 : Only (Foot g vf vn (.slice aa ats.length ca)) w (wr.setCell ⟨g, 2, none⟩ (.slice none 0 0)) :=
        hO.trans (Only.of_grown (F := fun j => j = g) (grown_setCell wr ⟨g, 2, none⟩ _) (fun j e => by simpa using e.symm)) (fun j hj => .inl (.inl hj))
      have c2 : wr.cell? ⟨g, 2, none⟩ = some (.slice aa ats.length ca) := hR.cell 2
      have f2 := hR.thaw 2
      have hfe : fm = flushS firm ats what := by simpa [flushS] using hfl
      have HFE := Lib.hid hfe
      clear hfe hfl
      go_wp2
      go_ret
      exact ⟨rfl, by rw [← HFE.out]; exact hfin, hO2⟩

/-- Flush where nothing is flushed. -/
theorem pflush_no (h : DiskAt g vf vn vp firm newest ats what fuel off w) (hf : fuel ≤ 9223372036854775807) (hno : off = true ∨ fuel = 0) :
    Calls Tryz.prog 51 #[.pointer (some ⟨g, 0, none⟩)] w (PNoPost g vf vn vp firm newest ats what (fuel, true, 10) w) := by
  have hstep := step_any h hf
  have hs : stepS fuel off = (fuel, true, 10) := by
    rcases hno with rfl | rfl
    · simp [stepS]
    · simp [stepS]
  have he : errVal 10 = .iface 84 (.int .i64 10) := rfl
  rw [hs] at hstep
  simp only [he] at hstep
  have hq : ∀ W : World, (binOp .neq 30 (.iface 84 (.int .i64 10)) .nilIface).run Tryz.prog W = .ok (.bool true) W := fun W => run_neq_held_nil W 30 _ _ Tryz.methodsError
  clear hs he hno
  go_enter Tryz.func51, Tryz.ntmps51
  go_wp2_with (first
    | (go_at_call 92; refine hstep.mono ?_; rintro e w2 ⟨rfl, h2, hg2⟩)
    | (go_at_call 35; refine (in_more ⟨#[100, 105, 115, 107, 46, 70, 108, 117, 115, 104]⟩ 10 [] _ _ rfl).mono ?_; rintro e w3 ⟨rfl, hC3, hb3⟩))
  go_ret
  exact ⟨_, rfl, .inr ⟨(by decide : (10 : Int) ≠ 0), _, hC3⟩, h2.below hb3, (Only.of_grown (F := fun k => k = g) hg2 (fun k e => by simpa using e.symm)).trans (Only.of_below (F := fun k => k = g) hb3) (fun j hj => .inl hj)⟩

/-- Flush of none. -/
theorem pflush_nil (w : World) : Calls Tryz.prog 51 #[.pointer none] w fun e w' => ∃ v, e = .returned v ∧ ErrV w' 10 v ∧ Below w.heap.size w w' := by
  have hstep : ∀ w, Calls Tryz.prog 92 #[.pointer none] w fun e w' => e = .returned (.iface 84 (.int .i64 10)) ∧ w' = w := fun w => by
    go_enter Tryz.func92, Tryz.ntmps92
    go_wp2_with (go_at_call 126; refine (off_nil w).mono ?_; rintro e w' ⟨rfl, rfl⟩)
    go_ret
    exact ⟨rfl, rfl⟩
  have hq : ∀ W : World, (binOp .neq 30 (.iface 84 (.int .i64 10)) .nilIface).run Tryz.prog W = .ok (.bool true) W := fun W => run_neq_held_nil W 30 _ _ Tryz.methodsError
  go_enter Tryz.func51, Tryz.ntmps51
  go_wp2_with (first
    | (go_at_call 92; refine (hstep _).mono ?_; rintro e w' ⟨rfl, rfl⟩)
    | (go_at_call 35; refine (in_more ⟨#[100, 105, 115, 107, 46, 70, 108, 117, 115, 104]⟩ 10 [] _ _ rfl).mono ?_; rintro e w3 ⟨rfl, hC3, hb3⟩))
  go_ret
  exact ⟨_, rfl, .inr ⟨by decide, _, hC3⟩, hb3⟩
end
end Go.Proofs.YtjkkbceddbkejaaGreatDoor

/-
  The program's disk: kept.
-/
namespace Go.Proofs.YtjkkbceddbkejaaGreatDoor
open Go.RowKit Sh Go.Extern.Stop Go.Stop Go.Extern

/-- Of each of L places whether it is in S. -/
def keptL (L : Nat) (S : List Int) : List Value := (List.range L).map fun (k : Nat) => Value.bool (decide ((k : Int) ∈ S))
theorem keptL_length (L : Nat) (S : List Int) : (keptL L S).length = L := by simp [keptL]
theorem keptL_get (L : Nat) (S : List Int) (k : Nat) (hk : k < L) : (keptL L S)[k]? = some (.bool (decide ((k : Int) ∈ S))) := by simp [keptL, hk]
theorem keptL_put (L : Nat) (S : List Int) (k : Nat) : (keptL L S).set k (.bool true) = keptL L (S ++ [(k : Int)]) := by
  apply List.ext_getElem?
  intro j
  by_cases hj : j < L
  · rw [List.getElem?_set, keptL_get L _ j hj, keptL_length]
    by_cases e : k = j
    · subst e; rw [if_pos rfl, if_pos hj, keptL_get L _ k hj]; simp
    · have e2 : ¬ ((j : Int) = (k : Int)) := by omega
      rw [if_neg e, keptL_get L _ j hj]; simp [e2]
  · rw [List.getElem?_eq_none (by rw [List.length_set, keptL_length]; omega), List.getElem?_eq_none (by rw [keptL_length]; omega)]
theorem keptL_far (L : Nat) (S : List Int) (q : Int) (h : q < 0 ∨ (L : Int) ≤ q) : keptL L (S ++ [q]) = keptL L S := by
  apply List.ext_getElem?
  intro j
  by_cases hj : j < L
  · rw [keptL_get L _ j hj, keptL_get L _ j hj]
    have e2 : ¬ ((j : Int) = q) := by omega
    simp [e2]
  · rw [List.getElem?_eq_none (by rw [keptL_length]; omega), List.getElem?_eq_none (by rw [keptL_length]; omega)]
theorem infoBool : (Tryz.prog.info? 4).map (fun i => (i.zero, i.size, i.bytes)) = some (some (.bool false), 1, 1) := by kernel_rfl

theorem make_bools (n : Nat) (hn : n ≤ 1048576) (w : World) :
    (Instr.makeSlice 112 (.int .i64 (n : Int)) (.int .i64 (n : Int))).run Tryz.prog w = .ok (.slice (some ⟨w.heap.size, 0, none⟩) n n) (w.alloc (.cells (keptL n []).toArray 4)) := by
  obtain ⟨i, hi, hzz⟩ := Option.map_eq_some_iff.1 infoBool
  simp only [Prod.mk.injEq] at hzz
  obtain ⟨hz, hs, hb⟩ := hzz
  have h := run_make (P := Tryz.prog) w 112 4 i (.bool false) Tryz.underlying112 hi hz .i64 .i64 n n (by omega) (Int.le_refl _) (by rw [hb]; omega) (by omega)
  rw [hs] at h
  have e : madeCells (Value.bool false).cells (n * 1) = (keptL n []).toArray := by
    apply Array.ext
    · simp [madeCells, keptL]
    · intro j h1 h2
      have e1 : j % 1 = 0 := Nat.mod_one j
      simp [madeCells, keptL, Value.cells, e1]
  rw [h, Int.toNat_natCast, e]

def KeptPost (L : Nat) (pick : List Int) (w : World) (e : Ending) (w' : World) : Prop := ∃ b, e = .returned (.slice (some ⟨b, 0, none⟩) L L) ∧
  w'.ownsRow w.heap.size 4 1 (.slice (some ⟨b, 0, none⟩) L L) L (keptL L pick) ∧ Below w.heap.size w w'

section
variable {g : Nat} {vf vn vp : Value} {firm newest what : List (List Value)} {ats pick : List Int} {fuel : Int} {off : Bool} {w : World}

set_option maxRecDepth 100000 in
theorem kept_any (h : DiskAt g vf vn vp firm newest ats what fuel off w) (hn : ats.length ≤ 1048576) (ap : Option Addr) (cp : Nat) (hp : Nums w.heap.size w ap pick) (hpn : pick.length ≤ 9223372036854775807) :
    Calls Tryz.prog 54 #[.pointer (some ⟨g, 0, none⟩), .slice ap pick.length cp] w (KeptPost ats.length pick w) := by
  have c2 : w.cell? ⟨g, 2, none⟩ = some vp := h.cell 2
  obtain ⟨aa, ca, rfl⟩ := slice_form h.rowP
  have hm := make_bools ats.length hn w
  obtain ⟨L, hL⟩ : ∃ L, ats.length = L := ⟨_, rfl⟩
  rw [hL] at c2 hm hn ⊢
  have hb1 := (Below.refl w.heap.size w).alloc (Nat.le_refl _) (.cells (keptL L []).toArray 4)
  have hrow : (w.alloc (.cells (keptL L []).toArray 4)).ownsRow w.heap.size 4 1 (.slice (some ⟨w.heap.size, 0, none⟩) L L) L (keptL L []) := by
    refine ⟨by rw [keptL_length]; omega, .inr ⟨w.heap.size, L, _, rfl, Nat.le_refl _, heap_alloc_new w _, Nat.le_refl _, by unfold maxLen; omega, by rw [List.size_toArray, keptL_length]; omega, ?_⟩⟩
    rw [List.toList_toArray, Nat.mul_one, List.take_of_length_le (by rw [keptL_length]; exact Nat.le_refl _)]
  obtain ⟨cs, Hcs⟩ : ∃ cs : Array Value, Hid (cs = (keptL L []).toArray) := ⟨_, rfl⟩
  rw [← Hcs.out] at hm hb1 hrow
  obtain ⟨U, hU⟩ : ∃ U, Hid (pick.length = U) := ⟨_, rfl⟩
  have hUn : U ≤ 9223372036854775807 := by rw [← hU.out]; exact hpn
  obtain ⟨B, hB⟩ : ∃ B, w.heap.size = B := ⟨_, rfl⟩
  rw [hB] at hm hrow hp
  go_enter Tryz.func54, Tryz.ntmps54
  go_wp2
  rw [hU.out]
  try rw [hB]
  go_loopg [16] U (fun m v wr => ∃ (j : Nat), m = U - j ∧ j ≤ U ∧ v = .int .i64 j ∧ wr.ownsRow B 4 1 (.slice (some ⟨B, 0, none⟩) L L) L (keptL L (pick.take j)) ∧ Below B w wr)
  case atStart => exact ⟨0, rfl, by omega, rfl, hrow, by rw [← hB]; exact hb1⟩
  case round =>
    obtain ⟨j, rfl, hj, rfl, hr, hb⟩ := hrel
    clear hrow hm hb1 c2
    by_cases hlt : j < U
    · have hlt' : (j : Int) < (U : Int) := by omega
      have hjp : j < pick.length := by rw [hU.out]; exact hlt
      have hwj : IntKind.i64.wrap ((j : Int) + 1) = ((j + 1 : Nat) : Int) := by rw [IntWalk.i64_in _ (by omega)]; omega
      obtain ⟨gp, op, rfl, hgpl, hcp⟩ := (hp.below hb).resolve_left (by intro h0; rw [h0] at hjp; simp at hjp)
      have cq : wr.cell? ⟨gp, op + j, none⟩ = some (.int .i64 pick[j]) := hcp j pick[j] (List.getElem?_eq_getElem hjp)
      have htk : pick.take (j + 1) = pick.take j ++ [pick[j]] := by rw [List.take_succ_eq_append_getElem hjp]
      obtain ⟨q, hq⟩ : ∃ q, pick[j] = q := ⟨_, rfl⟩
      rw [hq] at cq htk
      clear hcp hp
      by_cases hin : q < 0 ∨ (L : Int) ≤ q
      · have hnx := keptL_far L (pick.take j) q hin
        rw [← htk] at hnx
        rw [← hnx] at hr
        have HR := Lib.hid hr
        clear hnx hr htk hq
        rcases hin with h0 | h1
        · go_wp2
          go_roundg (U - (j + 1))
          case measure => omega
          case rel => exact ⟨j + 1, rfl, by omega, by first | rfl | simp, HR.out, hb⟩
        · have h0 : ¬ q < 0 := by omega
          have h2 : ¬ q < (L : Int) := by omega
          go_wp2
          go_roundg (U - (j + 1))
          case measure => omega
          case rel => exact ⟨j + 1, rfl, by omega, by first | rfl | simp, HR.out, hb⟩
      · obtain ⟨k, rfl⟩ : ∃ k : Nat, q = (k : Int) := ⟨q.toNat, by omega⟩
        have hkL : (k : Int) < (L : Int) := by omega
        have hst := hr.stored k (.bool true)
        rw [keptL_put, ← htk] at hst
        have HS := Lib.hid hst.1
        have hfz := hr.frozenAt k
        have hck : wr.cell? ⟨B, k, none⟩ = some (.bool (decide ((k : Int) ∈ pick.take j))) := by
          rw [hr.cellAt k (by omega), keptL_get L _ k (by omega)]
        have hbs : Below B w (wr.setCell ⟨B, k, none⟩ (.bool true)) := by
          have hg := grown_setCell wr ⟨B, k, none⟩ (.bool true)
          exact ⟨hg.os.trans hb.os, hg.tape.trans hb.tape, hg.output.trans hb.output, Nat.le_trans hb.size hg.size, fun b hbB => (hg.block b (by have := hb.size; omega) (by simp; omega)).trans (hb.block b hbB)⟩
        clear hst htk hq hin hr
        go_wp2
        go_roundg (U - (j + 1))
        case measure => omega
        case rel => exact ⟨j + 1, rfl, by omega, by first | rfl | simp, HS.out, hbs⟩
    · obtain rfl : j = U := by omega
      have hge : ¬ ((j : Int) < (j : Int)) := by omega
      have e1 : pick.take j = pick := by rw [← hU.out, List.take_length]
      rw [e1] at hr
      go_wp2
      go_ret
      exact ⟨B, rfl, by rw [hB]; exact hr, by rw [hB]; exact hb⟩
end
end Go.Proofs.YtjkkbceddbkejaaGreatDoor

/-
  The program's disk: Crash.
-/
namespace Go.Proofs.YtjkkbceddbkejaaGreatDoor
open Go.RowKit Sh Go.Extern.Stop Go.Stop Go.Extern

def PCrashPost (firm : List (List Value)) (w : World) (e : Ending) (w' : World) : Prop := ∃ g vf vn, e = .returned (.pointer (some ⟨g, 0, none⟩)) ∧
  DiskAt g vf vn (.slice none 0 0) firm firm [] [] (-1) false w' ∧ Below w.heap.size w w' ∧ ∀ k, Foot g vf vn (.slice none 0 0) k → w.heap.size ≤ k

theorem crashS_length : ∀ (k : Nat) (firm : List (List Value)) (ats : List Int) (what : List (List Value)) (pick : List Int), (crashS k firm ats what pick).length = firm.length
  | _, _, [], _, _ => by simp [crashS]
  | _, _, _ :: _, [], _ => by simp [crashS]
  | k, firm, a :: xs, p :: ys, pick => by simp only [crashS]; rw [crashS_length]; split <;> simp

section
variable {g : Nat} {vf vn vp : Value} {firm newest what : List (List Value)} {ats pick : List Int} {fuel : Int} {off : Bool} {w : World}

theorem pcrash_nil (w : World) (v : Value) : Calls Tryz.prog 25 #[.pointer none, v] w fun e w' => e = .returned (.pointer none) ∧ w' = w := by
  go_enter Tryz.func25, Tryz.ntmps25
  go_wp2
  go_ret
  exact ⟨rfl, rfl⟩

set_option maxRecDepth 100000 in
set_option maxHeartbeats 4000000 in
theorem pcrash_any (h : DiskAt g vf vn vp firm newest ats what fuel off w) (hn : ats.length ≤ 1048576) (hF : 0 < firm.length ∧ firm.length ≤ 4096) (hin : ∀ a ∈ ats, 0 ≤ a ∧ a < (firm.length : Int))
    (ap : Option Addr) (cp : Nat) (hp : Nums w.heap.size w ap pick) (hpn : pick.length ≤ 9223372036854775807) :
    Calls Tryz.prog 25 #[.pointer (some ⟨g, 0, none⟩), .slice ap pick.length cp] w (PCrashPost (crashS 0 firm ats what pick) w) := by
  have hsame := h.same
  have c0 : w.cell? ⟨g, 0, none⟩ = some vf := h.cell 0
  obtain ⟨hF0, hF1⟩ := hF
  obtain ⟨gf, cf, rfl, _, _⟩ := h.rowF.form hF0
  obtain ⟨aa, ca, rfl⟩ := slice_form h.rowP
  have hclone := clone_any gf firm.length cf firm w hF0 hF1 h.firmOk h.rowF
  obtain ⟨F, hFl⟩ : ∃ F, firm.length = F := ⟨_, rfl⟩
  rw [hFl] at c0 hclone
  go_enter Tryz.func25, Tryz.ntmps25
  go_wp2_with (go_at_call 53; refine hclone.mono ?_)
  rintro e w1 ⟨b, cb, rfl, hrow1, hb1, hbge⟩
  have h1 := h.below hb1
  have hkept := kept_any h1 hn ap cp ((hp.below hb1).mono hb1.size) hpn
  have hbl : b < w1.heap.size := (hrow1.lt b rfl).2
  clear hclone c0
  go_wp2_with (go_at_call 54; refine hkept.mono ?_)
  rintro e w2 ⟨bk, rfl, hrow2, hb2⟩
  have hb02 := hb1.trans (hb2.mono hb1.size)
  have h2 := h.below hb02
  have hbk := (hrow2.lt bk rfl).1
  have hr12 : w2.ownsRow 0 33 64 (.slice (some ⟨b, 0, none⟩) F cb) F firm.flatten := hrow1.kept (⟨hb2.os, hb2.tape, hb2.output, hb2.size, fun q hq _ => hb2.block q hq⟩ : w1.grownBy w2 none) (.inr (by simp [Value.ownBlock]))
  have hbkb : bk ≠ b := by omega
  have hbkg : w.heap.size ≤ bk := by have := hb1.size; omega
  obtain ⟨B2, hB2⟩ : ∃ B2, w1.heap.size = B2 := ⟨_, rfl⟩
  rw [hB2] at hrow2
  have c2 : w2.cell? ⟨g, 2, none⟩ = some (.slice aa ats.length ca) := h2.cell 2
  clear hkept h1 hrow1 hb1 hb2 hbl hbk hB2
  obtain ⟨L, hL⟩ : ∃ L, Hid (ats.length = L) := ⟨_, rfl⟩
  have hLn : L ≤ 1048576 := by rw [← hL.out]; exact hn
  go_wp2
  rw [hL.out]
  rw [hL.out] at hrow2
  go_loopg [24] L (fun m v wr => ∃ (k : Nat) (fm : List (List Value)), m = L - k ∧ k ≤ L ∧ v = .int .i64 k ∧ fm.length = F ∧ Pages fm ∧ crashS k fm (ats.drop k) (what.drop k) pick = crashS 0 firm ats what pick ∧
      wr.ownsRow 0 33 64 (.slice (some ⟨b, 0, none⟩) F cb) F fm.flatten ∧ wr.ownsRow B2 4 1 (.slice (some ⟨bk, 0, none⟩) L L) L (keptL L pick) ∧ Below w.heap.size w wr)
  case atStart => exact ⟨0, firm, rfl, by omega, rfl, hFl, h.firmOk, rfl, hr12, hrow2, hb02⟩
  case round =>
    obtain ⟨k, fm, rfl, hk, rfl, hfm, hfp, hcr, hR, hK, hB⟩ := hrel
    clear c2 h2 hr12 hrow2 hb02
    by_cases hlt : k < L
    · have hlt' : (k : Int) < (L : Int) := by omega
      have hka : k < ats.length := by rw [hL.out]; exact hlt
      have hkw : k < what.length := by rw [hsame]; exact hka
      have ha := List.getElem?_eq_getElem hka
      have hpw := List.getElem?_eq_getElem hkw
      have hai := hin ats[k] (List.getElem_mem hka)
      have hRR := h.below hB
      obtain ⟨gp, cp', hvp, _, _⟩ := hRR.rowP.form (by omega)
      obtain ⟨rfl, rfl⟩ : aa = some ⟨gp, 0, none⟩ ∧ ca = cp' := by
        simp only [Value.slice.injEq] at hvp
        exact ⟨hvp.1, hvp.2.2⟩
      have hd1 : ats.drop k = ats[k] :: ats.drop (k + 1) := List.drop_eq_getElem_cons hka
      have hd2 : what.drop k = what[k] :: what.drop (k + 1) := List.drop_eq_getElem_cons hkw
      have hPg := h.whatOk what[k] (List.getElem_mem hkw)
      rw [hd1, hd2] at hcr
      simp only [crashS] at hcr
      have hwr : wr.rangeAt gp (k * 65) (wcell ats[k] what[k]) := own_write hRR.rowP h.whatOk hsame k ats[k] what[k] ha hpw rfl
      obtain ⟨i, haa⟩ : ∃ i, ats[k] = i := ⟨_, rfl⟩
      obtain ⟨pg, hpp⟩ : ∃ pg, what[k] = pg := ⟨_, rfl⟩
      rw [haa] at hai hcr hwr
      rw [hpp] at hPg hcr hwr
      obtain ⟨n, rfl⟩ : ∃ n : Nat, i = (n : Int) := ⟨i.toNat, by omega⟩
      rw [Int.toNat_natCast] at hcr
      have hnF : (n : Int) < (F : Int) := by omega
      have hwk : IntKind.i64.wrap ((k : Int) + 1) = ((k + 1 : Nat) : Int) := by rw [IntWalk.i64_in _ (by omega)]; omega
      obtain ⟨wc, hwc⟩ : ∃ wc, Hid (wcell n pg = wc) := ⟨_, rfl⟩
      have hwcl : wc.length = 65 := by rw [← hwc.out]; simp [wcell, hPg.1]
      rw [hwc.out] at hwr
      have HRg := Lib.hid hwr
      have hi73 : Hid ((Tryz.prog.info? 115).map (·.size) = some wc.length) := by rw [hwcl]; exact info65
      have hi74 : Hid ((Tryz.prog.info? 115).map (·.size) = some wc.toArray.size) := by rw [List.size_toArray, hwcl]; exact info65
      have hold : Hid (zeros65.size = wc.toArray.size) := by
        have e : wc.toArray.size = 65 := by rw [List.size_toArray]; exact hwcl
        rw [e]; exact (rfl : zeros65.size = 65)
      have hall1 : Hid (wc.toArray.all (·.oneCell') = true) := all_oneCell_toArray (by rw [← hwc.out]; exact wcell_one hPg)
      obtain ⟨wa, hwa⟩ : ∃ wa : World, Hid (wr.alloc (.cells wc.toArray 115) = wa) := ⟨_, rfl⟩
      have hba : Below wr.heap.size wr wa := by rw [← hwa.out]; exact (Below.refl _ wr).alloc (Nat.le_refl _) _
      have hbk2 : wa.heap[wr.heap.size]? = some (.cells wc.toArray 115 (0, 0)) := by rw [← hwa.out]; exact heap_alloc_new wr _
      have hga : wr.grownBy wa none := ⟨hba.os, hba.tape, hba.output, hba.size, fun q hq _ => hba.block q hq⟩
      have hRa := hR.kept hga (.inr (by simp [Value.ownBlock]))
      have hKa := hK.kept hga (.inr (by simp [Value.ownBlock]))
      have hBa : Below w.heap.size w wa := hB.trans (hba.mono hB.size)
      have hrl : wr.heap.size < wa.heap.size := (Array.getElem?_eq_some_iff.1 hbk2).1
      have hbr := (hR.lt b rfl).2
      have ckk : wa.cell? ⟨bk, k, none⟩ = some (.bool (decide ((k : Int) ∈ pick))) := by
        rw [hKa.cellAt k (by omega), keptL_get L _ k hlt]
      have HCR := Lib.hid hcr
      clear hcr hd1 hd2 hvp hpp haa ha hpw hwr hai hR hK hRR
      by_cases hkp : (k : Int) ∈ pick
      · have HC2 : Hid (crashS (k + 1) (fm.set n pg) (ats.drop (k + 1)) (what.drop (k + 1)) pick = crashS 0 firm ats what pick) := by
          have := HCR.out; rw [if_pos hkp] at this; exact this
        rw [decide_eq_true hkp] at ckk
        have ck : wa.cell? ⟨wr.heap.size, 0, none⟩ = some (.int .i64 n) := by rw [cell_of_row wa _ 0 _ _ _ hbk2, ← hwc.out]; rfl
        have hrange : wa.rangeAt wr.heap.size 1 pg := fun j v hj => by
          rw [cell_of_row wa _ (1 + j) _ _ _ hbk2, ← hwc.out, List.getElem?_toArray, Nat.add_comm]
          simpa [wcell] using hj
        have HRA := Lib.hid hrange
        have hi64 : Hid ((Tryz.prog.info? 33).map (·.size) = some pg.length) := by rw [hPg.1]; exact info64
        obtain ⟨cur, hcur, hcl⟩ : ∃ cur : List Value, wa.heap[b]? = some (.cells cur.toArray 33 (0, 0)) ∧ F * 64 ≤ cur.length := by
          rcases hRa.2 with ⟨hv, h0⟩ | ⟨g', cap', cur, hv, _, hg, hc, _, hs, _⟩
          · simp at hv
          · simp only [Value.slice.injEq, Option.some.injEq, Addr.mk.injEq, true_and, and_true] at hv
            obtain ⟨rfl, rfl⟩ := hv
            have hs2 : cur.toList.length = cb * 64 := by rw [Array.length_toList]; exact hs
            exact ⟨cur.toList, by simpa using hg, by omega⟩
        have hsz : pg.toArray.size = 64 := by rw [List.size_toArray]; exact hPg.1
        have hi65 : Hid ((Tryz.prog.info? 33).map (·.size) = some pg.toArray.size) := by rw [hsz]; exact info64
        have hfit : Hid (n * 64 + pg.toArray.size ≤ cur.length) := by
          show n * 64 + pg.toArray.size ≤ cur.length
          rw [hsz]
          omega
        have HPg := Lib.hid hPg
        have hall : Hid (∀ v ∈ pg.toArray.toList, v.oneCell' = true) := fun v hv => HPg.out.2 v (by simpa using hv)
        have Hcur := Lib.hid hcur
        clear hcur hsz hcl hrange hPg
        go_wp2_with (first
          | (refine wpList_load_mid rfl 115 _ rfl gp (k * 65) rfl wc _ HRg.out Tryz.underlying115 rfl hi73.out ?_)
          | (refine wpList_alloc_arr rfl 115 rfl _ alloc65 ?_)
          | (refine wpList_store_new rfl 115 _ _ rfl wr.heap.size rfl wc.toArray rfl rfl 115 _ hi74.out hold.out hall1.out ?_; rw [hwa.out])
          | (refine wpList_load_mid rfl 33 _ rfl wr.heap.size 1 rfl pg _ HRA.out Tryz.underlying33 rfl hi64.out ?_)
          | (refine wpList_store_into rfl 33 _ _ rfl b (n * 64) pg.toArray rfl rfl cur 33 Hcur.out hi65.out hfit.out hall.out ?_; intro w5 Hs5 Hg5))
        have hst : ∀ c : List Value, wa.heap[b]? = some (.cells c.toArray 33 (0, 0)) → w5.heap[b]? = some (.cells (splice c (n * 64) pg).toArray 33 (0, 0)) := fun c hc => by
          have e := hc.symm.trans Hcur.out
          simp only [Option.some.injEq, Obj.cells.injEq, and_true] at e
          have e2 : c = cur := by simpa using congrArg Array.toList e
          subst e2
          exact Hs5.out
        have hR5 := own_store hRa hfp (by omega) n (by omega) pg HPg.out hst
        have hK5 := hKa.kept Hg5.out (.inr (by simp [Value.ownBlock, hbkb]))
        have hB5 : Below w.heap.size w w5 := ⟨Hg5.out.os.trans hBa.os, Hg5.out.tape.trans hBa.tape, Hg5.out.output.trans hBa.output, Nat.le_trans hBa.size Hg5.out.size, fun q hq =>
          (Hg5.out.block q (by have := hBa.size; omega) (by simp; omega)).trans (hBa.block q hq)⟩
        have hfp5 : Pages (fm.set n pg) := fun x hx => by
          rcases List.mem_or_eq_of_mem_set hx with hx | rfl
          · exact hfp x hx
          · exact HPg.out
        go_roundg (L - (k + 1))
        case measure => omega
        case rel => exact ⟨k + 1, fm.set n pg, rfl, by omega, by first | rfl | simp, by rw [List.length_set]; exact hfm, hfp5, HC2.out, hR5, hK5, hB5⟩
      · have HC2 : Hid (crashS (k + 1) fm (ats.drop (k + 1)) (what.drop (k + 1)) pick = crashS 0 firm ats what pick) := by
          have := HCR.out; rw [if_neg hkp] at this; exact this
        rw [decide_eq_false hkp] at ckk
        go_wp2_with (first
          | (refine wpList_load_mid rfl 115 _ rfl gp (k * 65) rfl wc _ HRg.out Tryz.underlying115 rfl hi73.out ?_)
          | (refine wpList_alloc_arr rfl 115 rfl _ alloc65 ?_)
          | (refine wpList_store_new rfl 115 _ _ rfl wr.heap.size rfl wc.toArray rfl rfl 115 _ hi74.out hold.out hall1.out ?_; rw [hwa.out]))
        go_roundg (L - (k + 1))
        case measure => omega
        case rel => exact ⟨k + 1, fm, rfl, by omega, by first | rfl | simp, hfm, hfp, HC2.out, hRa, hKa, hBa⟩
    · obtain rfl : k = L := by omega
      have hge : ¬ ((k : Int) < (k : Int)) := by omega
      have e1 : ats.drop k = [] := by rw [← hL.out, List.drop_length]
      rw [e1] at hcr
      have hfe : fm = crashS 0 firm ats what pick := by simpa [crashS] using hcr
      have hhold := holding_any b cb fm wr (by omega) (by omega) hfp (by rw [hfm]; exact hR)
      rw [hfm] at hhold
      have HFE := Lib.hid hfe
      clear hfe hcr
      go_wp2_with (go_at_call 45; refine hhold.mono ?_; rintro e w9 ⟨g9, c9, vn9, rfl, hD9, hb9, hg9, hv9⟩)
      go_ret
      rw [HFE.out] at hD9
      have hBs := hB.size
      refine ⟨g9, _, vn9, rfl, hD9, hB.trans (hb9.mono hB.size), fun j hj => ?_⟩
      rcases hj with rfl | e | e | e
      · omega
      · simp [Value.ownBlock] at e; omega
      · have := hv9 j e; omega
      · simp [Value.ownBlock] at e
end
end Go.Proofs.YtjkkbceddbkejaaGreatDoor

/-
  A disk as a state, the program's and the reference's: each call's contract in the same words.
-/
namespace Go.Proofs.YtjkkbceddbkejaaGreatDoor
open Go.RowKit Sh Go.Extern.Stop Go.Stop Go.Extern

structure St where
  firm : List (List Value)
  ats : List Int
  what : List (List Value)
  fuel : Int
  off : Bool
def St.newest (S : St) : List (List Value) := flushS S.firm S.ats S.what
structure Good (S : St) : Prop where
  same : S.what.length = S.ats.length
  pos : 0 < S.firm.length
  le : S.firm.length ≤ 4096
  inr : ∀ a ∈ S.ats, 0 ≤ a ∧ a < (S.firm.length : Int)
  fuel : S.fuel ≤ 9223372036854775807

def newS (n : Nat) : St := ⟨List.replicate n zeroPage, [], [], -1, false⟩
def readOf (S : St) (i : Int) : List Value × Int := readN S.newest S.off i
def writeOf (S : St) (i : Int) (p : List Value) : St × Int :=
  match noWrite S.firm S.fuel S.off i with
  | some r => ({ S with fuel := r.1, off := r.2.1 }, r.2.2)
  | none => ({ S with ats := S.ats ++ [i], what := S.what ++ [p], fuel := (stepS S.fuel false).1, off := false }, 0)
def flushOf (S : St) : St × Int :=
  if S.off = true ∨ S.fuel = 0 then ({ S with off := true }, 10) else (⟨flushS S.firm S.ats S.what, [], [], (stepS S.fuel false).1, false⟩, 0)
def crashOf (S : St) (pick : List Int) : St := ⟨crashS 0 S.firm S.ats S.what pick, [], [], -1, false⟩
def fuelOf (S : St) (n : Int) : St := { S with fuel := n }

theorem St.newest_length (S : St) : S.newest.length = S.firm.length := flushS_length _ _ _

/-- What is the newest is what was written last, or firm. -/
theorem flushS_get : ∀ (ats : List Int) (what : List (List Value)) (firm : List (List Value)) (i : Nat), what.length = ats.length → (∀ a ∈ ats, 0 ≤ a ∧ a < (firm.length : Int)) →
    (flushS firm ats what)[i]? = match seen ats what i with | some p => some p | none => firm[i]?
  | [], [], firm, i, _, _ => by simp [flushS, seen]
  | [], _ :: _, _, _, h, _ => by simp at h
  | _ :: _, [], _, _, h, _ => by simp at h
  | a :: xs, p :: ys, firm, i, h, hin => by
    have ha := hin a (by simp)
    simp only [flushS, seen]
    rw [flushS_get xs ys (firm.set a.toNat p) i (by simpa using h) (fun x hx => by rw [List.length_set]; exact hin x (by simp [hx]))]
    cases hs : seen xs ys (i : Int) with
    | some q => rfl
    | none =>
      simp only
      by_cases e : a = (i : Int)
      · subst e
        rw [if_pos rfl, Int.toNat_natCast, List.getElem?_set_self (by omega)]
      · rw [if_neg e, List.getElem?_set_ne (by omega)]
theorem read_seen {S : St} (h : Good S) (i : Int) : readS S.firm S.ats S.what S.off i = readOf S i := by
  unfold readS readOf readN reachN
  rw [S.newest_length]
  by_cases ho : S.off = true
  · simp [ho]
  · by_cases hb : i < 0 ∨ (S.firm.length : Int) ≤ i
    · simp [ho, hb]
    · simp only [ho, hb, if_false]
      obtain ⟨j, rfl⟩ : ∃ j : Nat, i = (j : Int) := ⟨i.toNat, by omega⟩
      have hg := flushS_get S.ats S.what S.firm j h.same h.inr
      simp only [Bool.false_eq_true, if_false, if_true, Int.toNat_natCast, List.getD_eq_getElem?_getD, St.newest, hg]
      cases seen S.ats S.what (j : Int) <;> simp

theorem step_le {f : Int} (h : f ≤ 9223372036854775807) : (stepS f false).1 ≤ 9223372036854775807 := by
  unfold stepS
  split
  · exact h
  · split
    · exact h
    · split
      · show f - 1 ≤ _; omega
      · exact h
theorem good_new (n : Nat) (h1 : 1 ≤ n) (h2 : n ≤ 4096) : Good (newS n) := ⟨rfl, by simp [newS]; omega, by simp [newS]; omega, fun a ha => by simp [newS] at ha, by simp [newS]⟩
theorem noWrite_in {firm : List (List Value)} {fuel : Int} {off : Bool} {i : Int} (h : noWrite firm fuel off i = none) : off = false ∧ (0 ≤ i ∧ i < (firm.length : Int)) ∧ fuel ≠ 0 := by
  unfold noWrite at h
  split at h
  · cases h
  · split at h
    · cases h
    · split at h
      · cases h
      · exact ⟨by simpa using ‹¬ off = true›, by omega, by assumption⟩
theorem noWrite_fuel {firm : List (List Value)} {fuel : Int} {off : Bool} {i : Int} {r : Int × Bool × Int} (h : noWrite firm fuel off i = some r) : r.1 = fuel := by
  unfold noWrite at h
  split at h
  · cases h; rfl
  · split at h
    · cases h; rfl
    · split at h
      · cases h; rfl
      · cases h
theorem good_write {S : St} (h : Good S) (i : Int) (p : List Value) : Good (writeOf S i p).1 := by
  unfold writeOf
  cases hn : noWrite S.firm S.fuel S.off i with
  | some r => exact ⟨h.same, h.pos, h.le, h.inr, by rw [show ({ S with fuel := r.1, off := r.2.1 } : St).fuel = r.1 from rfl, noWrite_fuel hn]; exact h.fuel⟩
  | none =>
    obtain ⟨_, hi, _⟩ := noWrite_in hn
    refine ⟨by simp [h.same], h.pos, h.le, fun a ha => ?_, step_le h.fuel⟩
    rcases List.mem_append.1 ha with ha | ha
    · exact h.inr a ha
    · rw [List.mem_singleton.1 ha]; exact hi
theorem good_flush {S : St} (h : Good S) : Good (flushOf S).1 := by
  unfold flushOf
  split
  · exact ⟨h.same, h.pos, h.le, h.inr, h.fuel⟩
  · exact ⟨rfl, by simp only [flushS_length]; exact h.pos, by simp only [flushS_length]; exact h.le, fun a ha => by simp at ha, step_le h.fuel⟩
theorem good_crash {S : St} (h : Good S) (pick : List Int) : Good (crashOf S pick) :=
  ⟨rfl, by simp only [crashOf, crashS_length]; exact h.pos, by simp only [crashOf, crashS_length]; exact h.le, fun a ha => by simp [crashOf] at ha, by simp [crashOf]⟩
theorem good_fuel {S : St} (h : Good S) (n : Int) (hn : n ≤ 9223372036854775807) : Good (fuelOf S n) := ⟨h.same, h.pos, h.le, h.inr, hn⟩
theorem write_firm (S : St) (i : Int) (p : List Value) : (writeOf S i p).1.firm = S.firm := by unfold writeOf; cases noWrite S.firm S.fuel S.off i <;> rfl
theorem flush_firm (S : St) : (flushOf S).1.firm.length = S.firm.length := by unfold flushOf; split; rfl; exact flushS_length _ _ _
theorem crash_firm (S : St) (pick : List Int) : (crashOf S pick).firm.length = S.firm.length := crashS_length _ _ _ _ _
theorem write_count (S : St) (i : Int) (p : List Value) : (writeOf S i p).1.ats.length ≤ S.ats.length + 1 := by unfold writeOf; cases noWrite S.firm S.fuel S.off i <;> simp
theorem flush_count (S : St) : (flushOf S).1.ats.length ≤ S.ats.length := by unfold flushOf; split <;> simp

/-- The program's disk in that state, in block g; its blocks are those of F. -/
def PD (S : St) (F : Nat → Prop) (g : Nat) (w : World) : Prop := ∃ vf vn vp, DiskAt g vf vn vp S.firm S.newest S.ats S.what S.fuel S.off w ∧ ∀ k, F k ↔ Foot g vf vn vp k
section
variable {S : St} {F G : Nat → Prop} {g : Nat} {w w' : World}
theorem PD.lt (h : PD S F g w) {k : Nat} (hk : F k) : k < w.heap.size := by obtain ⟨_, _, _, hD, hF⟩ := h; exact hD.foot_lt ((hF k).1 hk)
theorem PD.keep (h : PD S F g w) (ho : Only G w w') (hG : ∀ k, F k → ¬ G k) : PD S F g w' := by obtain ⟨vf, vn, vp, hD, hF⟩ := h; exact ⟨vf, vn, vp, hD.only ho (fun k hk => hG k ((hF k).2 hk)), hF⟩
theorem PD.below (h : PD S F g w) (hb : Below w.heap.size w w') : PD S F g w' := h.keep (G := fun _ => False) (Only.of_below hb) (fun _ _ => id)
theorem Only.base {B : Nat} (h : Only F w w') (hB : B ≤ w.heap.size) (hF : ∀ k, F k → B ≤ k) : Below B w w' := ⟨h.os, h.tape, h.output, h.size, fun k hk => h.block k (by omega) (fun hf => by have := hF k hf; omega)⟩
theorem PD.pages (h : PD S F g w) : Pages S.firm ∧ Pages S.what ∧ Pages S.newest := by obtain ⟨_, _, _, hD, _⟩ := h; exact ⟨hD.firmOk, hD.whatOk, hD.newOk⟩
/-! The program's calls. -/
def PDNew (S : St) (w : World) (v : Value) (w' : World) : Prop := ∃ g F, v = .pointer (some ⟨g, 0, none⟩) ∧ PD S F g w' ∧ Below w.heap.size w w' ∧ ∀ k, F k → w.heap.size ≤ k
def PDTurn (S : St) (n : Int) (F : Nat → Prop) (g : Nat) (w : World) (v : Value) (w' : World) : Prop := ∃ F', ErrV w' n v ∧ PD S F' g w' ∧ Only F w w' ∧ ∀ k, F' k → F k ∨ w.heap.size ≤ k

def PDN (S : St) (w : World) (e : Ending) (w' : World) : Prop := ∃ v, e = .returned v ∧ PDNew S w v w'
def PDN2 (S : St) (w : World) (e : Ending) (w' : World) : Prop := ∃ v, e = .returned (.tuple #[v, .nilIface]) ∧ PDNew S w v w'
def PDT (S : St) (n : Int) (F : Nat → Prop) (g : Nat) (w : World) (e : Ending) (w' : World) : Prop := ∃ v, e = .returned v ∧ PDTurn S n F g w v w'
theorem pd_new (n : Nat) (h1 : 1 ≤ n) (h2 : n ≤ 4096) (w : World) : Calls Tryz.prog 16 #[.int .i64 n] w (PDN2 (newS n) w) := by
  refine (pnew_any n h1 h2 w).mono ?_
  rintro e w' ⟨g, vf, vn, rfl, hD, hb, hF⟩
  exact ⟨_, rfl, g, _, rfl, ⟨vf, vn, _, hD, fun _ => Iff.rfl⟩, hb, hF⟩
theorem pd_read (h : PD S F g w) (i : Int) : Calls Tryz.prog 111 #[.pointer (some ⟨g, 0, none⟩), .int .i64 i] w (PReadPost (readOf S i).1 (readOf S i).2 w) := by
  obtain ⟨vf, vn, vp, hD, _⟩ := h
  exact pread_any hD S.newest_length i
theorem pd_write (h : PD S F g w) (hG : Good S) (hn : S.ats.length ≤ 1048576) (i : Int) (p : List Value) (hp : IsPage p) :
    Calls Tryz.prog 118 #[.pointer (some ⟨g, 0, none⟩), .int .i64 i, .agg p.toArray] w (PDT (writeOf S i p).1 (writeOf S i p).2 F g w) := by
  obtain ⟨vf, vn, vp, hD, hF⟩ := h
  unfold writeOf
  cases hw : noWrite S.firm S.fuel S.off i with
  | some r =>
    refine (pwrite_no hD hG.fuel i p r hw).mono ?_
    rintro e w' ⟨v, rfl, hE, hD', ho⟩
    exact ⟨v, rfl, F, hE, ⟨vf, vn, vp, hD', hF⟩, ⟨ho.os, ho.tape, ho.output, ho.size, fun k hk hn => ho.block k hk (fun e => hn ((hF k).2 (.inl e)))⟩, fun k hk => .inl hk⟩
  | none =>
    obtain ⟨hoff, hi, hf⟩ := noWrite_in hw
    rw [hoff] at hD
    refine (pwrite_ok hD S.newest_length hn hG.fuel i hi hG.le hf p hp).mono ?_
    rintro e w' ⟨rfl, vp', hD', ho, hfo⟩
    have hnew : S.newest.set i.toNat p = St.newest { S with ats := S.ats ++ [i], what := S.what ++ [p], fuel := (stepS S.fuel false).1, off := false } := by
      show (flushS S.firm S.ats S.what).set i.toNat p = flushS S.firm (S.ats ++ [i]) (S.what ++ [p])
      have : ∀ (xs : List Int) (ys firm : List (List Value)), ys.length = xs.length → (flushS firm xs ys).set i.toNat p = flushS firm (xs ++ [i]) (ys ++ [p]) := by
        intro xs
        induction xs with
        | nil => intro ys firm h; cases ys with
          | nil => rfl
          | cons => simp at h
        | cons a xs ih => intro ys firm h; cases ys with
          | nil => simp at h
          | cons q ys => simp only [List.cons_append, flushS]; exact ih ys _ (by simpa using h)
      exact this _ _ _ hG.same
    rw [hnew] at hD'
    exact ⟨_, rfl, Foot g vf vn vp', ErrV.nil, ⟨vf, vn, vp', hD', fun _ => Iff.rfl⟩, ⟨ho.os, ho.tape, ho.output, ho.size, fun k hk hn => ho.block k hk (fun e => hn ((hF k).2 e))⟩, fun k hk => (hfo k hk).imp (hF k).2 id⟩
theorem pd_flush (h : PD S F g w) (hG : Good S) (hn : S.ats.length ≤ 1048576) :
    Calls Tryz.prog 51 #[.pointer (some ⟨g, 0, none⟩)] w (PDT (flushOf S).1 (flushOf S).2 F g w) := by
  obtain ⟨vf, vn, vp, hD, hF⟩ := h
  unfold flushOf
  by_cases hno : S.off = true ∨ S.fuel = 0
  · rw [if_pos hno]
    refine (pflush_no hD hG.fuel hno).mono ?_
    rintro e w' ⟨v, rfl, hE, hD', ho⟩
    exact ⟨v, rfl, F, hE, ⟨vf, vn, vp, hD', hF⟩, ⟨ho.os, ho.tape, ho.output, ho.size, fun k hk hn => ho.block k hk (fun e => hn ((hF k).2 (.inl e)))⟩, fun k hk => .inl hk⟩
  · rw [if_neg hno]
    have hoff : S.off = false := by simpa using (fun e => hno (.inl e) : ¬ S.off = true)
    rw [hoff] at hD
    refine (pflush_ok hD hn hG.fuel (fun e => hno (.inr e)) hG.le hG.inr).mono ?_
    rintro e w' ⟨rfl, hD', ho⟩
    refine ⟨_, rfl, Foot g vf vn (.slice none 0 0), ErrV.nil, ⟨vf, vn, _, ?_, fun _ => Iff.rfl⟩, ⟨ho.os, ho.tape, ho.output, ho.size, fun k hk hn => ho.block k hk (fun e => hn ((hF k).2 e))⟩, fun k hk => .inl ((hF k).2 ?_)⟩
    · exact hD'
    · rcases hk with e | e | e | e
      · exact .inl e
      · exact .inr (.inl e)
      · exact .inr (.inr (.inl e))
      · simp [Value.ownBlock] at e
theorem pd_crash (h : PD S F g w) (hG : Good S) (hn : S.ats.length ≤ 1048576) (ap : Option Addr) (cp : Nat) (pick : List Int) (hp : Nums w.heap.size w ap pick) (hpn : pick.length ≤ 9223372036854775807) :
    Calls Tryz.prog 25 #[.pointer (some ⟨g, 0, none⟩), .slice ap pick.length cp] w (PDN (crashOf S pick) w) := by
  obtain ⟨vf, vn, vp, hD, hF⟩ := h
  refine (pcrash_any hD hn ⟨hG.pos, hG.le⟩ hG.inr ap cp hp hpn).mono ?_
  rintro e w' ⟨g', vf', vn', rfl, hD', hb, hF'⟩
  exact ⟨_, rfl, g', _, rfl, ⟨vf', vn', _, hD', fun _ => Iff.rfl⟩, hb, hF'⟩
theorem pd_off (h : PD S F g w) : Calls Tryz.prog 126 #[.pointer (some ⟨g, 0, none⟩)] w fun e w' => e = .returned (.bool S.off) ∧ w' = w := by
  obtain ⟨vf, vn, vp, hD, hF⟩ := h
  exact off_any hD
theorem pd_size (h : PD S F g w) : Calls Tryz.prog 84 #[.pointer (some ⟨g, 0, none⟩)] w fun e w' => e = .returned (.int .i64 S.firm.length) ∧ w' = w := by
  obtain ⟨vf, vn, vp, hD, hF⟩ := h
  exact size_any hD

/-! The reference's. -/
end
end Go.Proofs.YtjkkbceddbkejaaGreatDoor

/-
  Pages of bytes: held against one another; a state whose pages are such.
-/
namespace Go.Proofs.YtjkkbceddbkejaaGreatDoor
open Go.RowKit Sh Go.Extern.Stop Go.Stop Go.Extern

theorem run_items {P : Program} (T E : TypeId) (n : Nat) (hT : P.underlying T = some (.array n E)) (hE : P.underlying E = some (.int .u8)) (hs : (P.info? E).map (·.size) = some 1)
    (l1 l2 : List UInt8) (h1 : l1.length = n) (h2 : l2.length = n) (w : World) :
    (Op.equalIn 10000 T (.agg (l1.map cu8).toArray) (.agg (l2.map cu8).toArray)).run P w = .ok (decide (l1 = l2)) w := by
  have hagg : (isAgg E).run P w = .ok false w := by
    unfold isAgg
    rw [Sem.run_bind, run_underlying hE w]
    rfl
  obtain ⟨i0, hi, hi1⟩ : ∃ i, P.info? E = some i ∧ i.size = 1 := by
    cases hq : P.info? E with
    | none => simp [hq] at hs
    | some i => exact ⟨i, rfl, by simpa [hq] using hs⟩
  have hp : ∀ (l : List UInt8), l.length = n → ∀ k, k < n → (part E (l.map cu8).toArray k).run P w = .ok (.int .u8 (bz (at8 l k))) w := fun l hl k hk => by
    have hk' : k < l.length := by omega
    have hv : (l.map cu8).toArray[k]? = some (.int .u8 (bz (at8 l k))) := by
      rw [List.getElem?_toArray, List.getElem?_map, List.getElem?_eq_getElem hk', at8, List.getD_eq_getElem?_getD, List.getElem?_eq_getElem hk']; rfl
    unfold part
    rw [Sem.run_bind, hagg]
    simp only [Result.andThen_ok, hv, Bool.false_eq_true, if_false]
    simp
  have hitems : ∀ (d : Nat) (is : List Nat), (∀ k ∈ is, k < n) → (Op.eqItems (d + 1) E 1 (l1.map cu8).toArray (l2.map cu8).toArray is).run P w = .ok (is.all fun k => bz (at8 l1 k) == bz (at8 l2 k)) w := fun d is => by
    induction is with
    | nil => intro _; simp [Op.eqItems]
    | cons k is ih =>
      intro h
      have hk := h k (by simp)
      have ih' := ih (fun j hj => h j (by simp [hj]))
      simp only [Op.eqItems, Nat.mul_one, Sem.run_bind, hp l1 h1 k hk, hp l2 h2 k hk, Result.andThen_ok, run_equalIn_int w d E .u8 .u8 (bz (at8 l1 k)) (bz (at8 l2 k)) hE]
      cases hb : bz (at8 l1 k) == bz (at8 l2 k)
      · simp [hb]
      · simpa [hb] using ih'
  have hc : P.cellsOf E = 1 := by simp [Program.cellsOf, hi, hi1]
  rw [run_equalIn_array w 9999 _ _ hT hi, hc, hitems 9998 _ (fun k hk => by simpa using hk)]
  have e : ((List.range n).all fun k => bz (at8 l1 k) == bz (at8 l2 k)) = decide (l1 = l2) := by
    rw [Bool.eq_iff_iff, List.all_eq_true, decide_eq_true_eq]
    constructor
    · intro h
      apply List.ext_getElem (by omega)
      intro j hj1 hj2
      have := h j (by simp; omega)
      have := bz_inj (by simpa using this)
      simpa [at8, List.getD_eq_getElem?_getD, List.getElem?_eq_getElem hj1, List.getElem?_eq_getElem hj2] using this
    · intro h; subst h; simp
  rw [e]

/-- A page of bytes. -/
def BP (p : List Value) : Prop := ∃ l : List UInt8, l.length = 64 ∧ p = l.map cu8
theorem BP.page {p : List Value} (h : BP p) : IsPage p := by
  obtain ⟨l, hl, rfl⟩ := h
  exact ⟨by simp [hl], fun v hv => by obtain ⟨x, _, rfl⟩ := List.mem_map.1 hv; rfl⟩
theorem cu8_inj {l1 l2 : List UInt8} (h : l1.map cu8 = l2.map cu8) : l1 = l2 :=
  List.map_inj_right (f := cu8) (fun x y e => by simp only [cu8, Value.int.injEq, true_and] at e; exact bz_inj e) |>.1 h
theorem BP.eqIn {p q : List Value} (hp : BP p) (hq : BP q) : ∃ b : Bool, (b = true ↔ p = q) ∧ ∀ W : World, (Op.equalIn 10000 33 (.agg p.toArray) (.agg q.toArray)).run Tryz.prog W = .ok b W := by
  obtain ⟨l1, h1, rfl⟩ := hp
  obtain ⟨l2, h2, rfl⟩ := hq
  refine ⟨decide (l1 = l2), ?_, fun W => run_items (P := Tryz.prog) 33 5 64 Tryz.underlying33 Tryz.underlying5 (by kernel_rfl) l1 l2 h1 h2 W⟩
  rw [decide_eq_true_eq]
  exact ⟨fun h => by rw [h], cu8_inj⟩
theorem BP.same {p : List Value} (hp : BP p) (W : World) : (Op.equalIn 10000 33 (.agg p.toArray) (.agg p.toArray)).run Tryz.prog W = .ok true W := by
  obtain ⟨b, hb, h⟩ := hp.eqIn hp
  rw [hb.2 rfl] at h
  exact h W
theorem BP.eql {p : List Value} (hp : BP p) (W : World) : (binOp .eql 33 (.agg p.toArray) (.agg p.toArray)).run Tryz.prog W = .ok (.bool true) W := by
  rw [run_eql_struct, hp.same W]; rfl
theorem BP.neq {p : List Value} (hp : BP p) (W : World) : (binOp .neq 33 (.agg p.toArray) (.agg p.toArray)).run Tryz.prog W = .ok (.bool false) W := by
  rw [run_neq_struct, hp.same W]; rfl

theorem zero_bytes : BP zeroPage := ⟨List.replicate 64 0, List.length_replicate, by rw [List.map_replicate]; rfl⟩
/-- A page that begins with some bytes. -/
def page1 (a : UInt8) : List Value := cu8 a :: List.replicate 63 (cu8 0)
def page2 (a b : UInt8) : List Value := cu8 a :: cu8 b :: List.replicate 62 (cu8 0)
theorem page1_bytes (a : UInt8) : BP (page1 a) := ⟨a :: List.replicate 63 0, by simp, by simp [page1]⟩
theorem page2_bytes (a b : UInt8) : BP (page2 a b) := ⟨a :: b :: List.replicate 62 0, by simp, by simp [page2]⟩
theorem built_one (a : UInt8) : Tryz.prog.built 33 [(0, cu8 a)] = some (page1 a).toArray := by kernel_rfl
theorem built_two (a b : UInt8) : Tryz.prog.built 33 [(0, cu8 a), (1, cu8 b)] = some (page2 a b).toArray := by kernel_rfl

/-- All pages of a state are bytes. -/
def Byt (S : St) : Prop := (∀ p ∈ S.firm, BP p) ∧ ∀ p ∈ S.what, BP p
theorem byt_new (n : Nat) : Byt (newS n) := ⟨fun p hp => by rw [(List.mem_replicate.1 hp).2]; exact zero_bytes, fun p hp => by simp [newS] at hp⟩
theorem byt_write {S : St} (h : Byt S) (i : Int) {p : List Value} (hp : BP p) : Byt (writeOf S i p).1 := by
  unfold writeOf
  cases noWrite S.firm S.fuel S.off i with
  | some r => exact h
  | none => exact ⟨h.1, fun q hq => by
      rcases List.mem_append.1 hq with hq | hq
      · exact h.2 q hq
      · rw [List.mem_singleton.1 hq]; exact hp⟩
theorem flushS_mem : ∀ (ats : List Int) (what firm : List (List Value)), (∀ p ∈ firm, BP p) → (∀ p ∈ what, BP p) → ∀ p ∈ flushS firm ats what, BP p
  | [], _, _, h, _ => by simpa [flushS] using h
  | _ :: _, [], _, h, _ => by simpa [flushS] using h
  | a :: xs, q :: ys, firm, h, h2 => by
    simp only [flushS]
    refine flushS_mem xs ys _ (fun p hp => ?_) (fun p hp => h2 p (by simp [hp]))
    rcases List.mem_or_eq_of_mem_set hp with hp | rfl
    · exact h p hp
    · exact h2 _ (by simp)
theorem crashS_mem : ∀ (k : Nat) (ats : List Int) (what firm : List (List Value)) (pick : List Int), (∀ p ∈ firm, BP p) → (∀ p ∈ what, BP p) → ∀ p ∈ crashS k firm ats what pick, BP p
  | _, [], _, _, _, h, _ => by simpa [crashS] using h
  | _, _ :: _, [], _, _, h, _ => by simpa [crashS] using h
  | k, a :: xs, q :: ys, firm, pick, h, h2 => by
    simp only [crashS]
    refine crashS_mem (k + 1) xs ys _ pick (fun p hp => ?_) (fun p hp => h2 p (by simp [hp]))
    split at hp
    · rcases List.mem_or_eq_of_mem_set hp with hp | rfl
      · exact h p hp
      · exact h2 _ (by simp)
    · exact h p hp
theorem byt_flush {S : St} (h : Byt S) : Byt (flushOf S).1 := by
  unfold flushOf
  split
  · exact h
  · exact ⟨flushS_mem _ _ _ h.1 h.2, fun p hp => by simp at hp⟩
theorem byt_crash {S : St} (h : Byt S) (pick : List Int) : Byt (crashOf S pick) := ⟨crashS_mem 0 _ _ _ pick h.1 h.2, fun p hp => by simp [crashOf] at hp⟩
theorem byt_fuel {S : St} (h : Byt S) (n : Int) : Byt (fuelOf S n) := h
theorem byt_read {S : St} (h : Byt S) (i : Int) : BP (readOf S i).1 := by
  unfold readOf readN
  split
  · rw [List.getD_eq_getElem?_getD]
    cases hg : S.newest[i.toNat]? with
    | none => exact zero_bytes
    | some p => exact flushS_mem _ _ _ h.1 h.2 p (List.mem_of_getElem? hg)
  · exact zero_bytes

/-- An operation that only yields a value, guarded or not. -/
theorem wpList_val {P : Program} {ops : Array Oper} {Q : Exit → Act → World → Prop} {a : Act} {w : World} {o : Oper} {rest : List Oper} (hw : Region.wanted o (yielded ops a.tmps) = true) {v : Value} (hrun : (execOp a.eval o).run P w = .ok (.value v) w)
    (h : wpList P ops Q rest (a.put o.dst v) w) : wpList P ops Q (o :: rest) a w := by
  unfold wpList
  rw [if_pos hw]
  left
  unfold Oper.wp
  rw [hrun]
  exact h

theorem wpList_build1 {ops : Array Oper} {Q : Exit → Act → World → Prop} {a : Act} {w : World} {o : Oper} {rest : List Oper} (x : Operand) (ho : o.op = .build 33 #[(0, x)]) (v : Value) (hx : a.eval x = v) (p : Array Value)
    (hb : Tryz.prog.built 33 [(0, v)] = some p) (hw : Region.wanted o (yielded ops a.tmps) = true) (h : wpList Tryz.prog ops Q rest (a.put o.dst (.agg p)) w) : wpList Tryz.prog ops Q (o :: rest) a w := by
  refine wpList_val hw (exec_build w ho ?_) h
  have e : ((#[(0, x)] : Array (Nat × Operand)).map fun (i, x) => (i, a.eval x)).toList = [(0, v)] := by simp [hx]
  rw [e]; exact hb
theorem wpList_build2 {ops : Array Oper} {Q : Exit → Act → World → Prop} {a : Act} {w : World} {o : Oper} {rest : List Oper} (x y : Operand) (ho : o.op = .build 33 #[(0, x), (1, y)]) (v u : Value) (hx : a.eval x = v) (hy : a.eval y = u) (p : Array Value)
    (hb : Tryz.prog.built 33 [(0, v), (1, u)] = some p) (hw : Region.wanted o (yielded ops a.tmps) = true) (h : wpList Tryz.prog ops Q rest (a.put o.dst (.agg p)) w) : wpList Tryz.prog ops Q (o :: rest) a w := by
  refine wpList_val hw (exec_build w ho ?_) h
  have e : ((#[(0, x), (1, y)] : Array (Nat × Operand)).map fun (i, x) => (i, a.eval x)).toList = [(0, v), (1, u)] := by simp [hx, hy]
  rw [e]; exact hb
/-- A load of a page, guarded or not. -/
theorem wpList_load_page {ops : Array Oper} {Q : Exit → Act → World → Prop} {a : Act} {w : World} {o : Oper} {rest : List Oper} (x : Operand) (ho : o.op = .load 33 x) (b off : Nat) (hx : a.eval x = .pointer (some ⟨b, off, none⟩)) (p : Array Value)
    (hr : (Instr.loadAt 33 (.pointer (some ⟨b, off, none⟩))).run Tryz.prog w = .ok (.agg p) w) (hw : Region.wanted o (yielded ops a.tmps) = true) (h : wpList Tryz.prog ops Q rest (a.put o.dst (.agg p)) w) : wpList Tryz.prog ops Q (o :: rest) a w :=
  wpList_val hw (exec_load _ _ 33 x ho b off hx p hr) h

/-- A turn of a disk that the call made itself. -/
theorem PDTurn.next {S' : St} {n : Int} {F : Nat → Prop} {g B : Nat} {w0 w w' : World} {v : Value} (h : PDTurn S' n F g w v w') (hB : B ≤ w.heap.size) (hF : ∀ k, F k → B ≤ k) (hb : Below B w0 w) :
    ∃ F', ErrV w' n v ∧ PD S' F' g w' ∧ (∀ k, F' k → B ≤ k) ∧ Below B w0 w' := by
  obtain ⟨F', hE, hP, ho, hf⟩ := h
  exact ⟨F', hE, hP, fun k hk => (hf k hk).elim (hF k) (fun e => by omega), hb.trans (ho.base hB hF)⟩
theorem PDNew.next {S' : St} {B : Nat} {w0 w w' : World} {v : Value} (h : PDNew S' w v w') (hB : B ≤ w.heap.size) (hb : Below B w0 w) :
    ∃ g F, v = .pointer (some ⟨g, 0, none⟩) ∧ PD S' F g w' ∧ (∀ k, F k → w.heap.size ≤ k) ∧ Below B w0 w' := by
  obtain ⟨g, F, hv, hP, hb', hf⟩ := h
  exact ⟨g, F, hv, hP, hf, hb.trans (hb'.mono hB)⟩
theorem num_nil (w : World) : Calls Tryz.prog 12 #[.nilIface] w fun e w' => e = .returned (.int .i64 0) ∧ w' = w := by
  go_enter Tryz.func12, Tryz.ntmps12
  go_wp2
  go_ret
  exact ⟨rfl, rfl⟩
theorem ErrV.zero {w : World} {v : Value} (h : ErrV w 0 v) : v = .nilIface := h.elim (·.2) (fun h => absurd rfl h.1)
end Go.Proofs.YtjkkbceddbkejaaGreatDoor
