/-
  The program's disk in memory; its small calls.
-/
import Derived.Test.YtbmpbcnoclhhgaaDoorDkErr
import Derived.Test.YtbmpbcnoclhhgaaDoorDiskCrash
namespace Go.Proofs.YtbmpbcnoclhhgaaDoor
open Go.RowKit Sh Go.Extern.Stop Go.Stop Go.Extern

/-- A pending write's cells. -/
def wcell (a : Int) (p : List Value) : List Value := .int .i64 a :: p
def pendC : List Int → List (List Value) → List (List Value)
  | a :: xs, p :: ys => wcell a p :: pendC xs ys
  | _, _ => []
theorem pendC_length : ∀ {xs : List Int} {ys : List (List Value)}, ys.length = xs.length → (pendC xs ys).length = xs.length
  | [], _, _ => by cases ‹List (List Value)› <;> rfl
  | _ :: _, [], h => by simp at h
  | _ :: xs, _ :: ys, h => by simp only [pendC, List.length_cons]; rw [pendC_length (by simpa using h)]
theorem pendC_get : ∀ {xs : List Int} {ys : List (List Value)} (k : Nat) (a : Int) (p : List Value), xs[k]? = some a → ys[k]? = some p → (pendC xs ys)[k]? = some (wcell a p)
  | [], _, _, _, _, h, _ => by simp at h
  | _ :: _, [], _, _, _, _, h => by simp at h
  | _ :: _, _ :: _, 0, _, _, h, h2 => by simp_all [pendC]
  | _ :: xs, _ :: ys, k + 1, a, p, h, h2 => by simp only [pendC, List.getElem?_cons_succ]; exact pendC_get k a p (by simpa using h) (by simpa using h2)
theorem pendC_append : ∀ {xs : List Int} {ys : List (List Value)} (_ : ys.length = xs.length) (a : Int) (p : List Value), pendC (xs ++ [a]) (ys ++ [p]) = pendC xs ys ++ [wcell a p]
  | [], [], _, _, _ => rfl
  | [], _ :: _, h, _, _ => by simp at h
  | _ :: _, [], h, _, _ => by simp at h
  | _ :: xs, _ :: ys, h, a, p => by simp only [List.cons_append, pendC]; rw [pendC_append (by simpa using h) a p]
theorem pendC_flat : ∀ {xs : List Int} {ys : List (List Value)} (_ : Pages ys) (_ : ys.length = xs.length), (pendC xs ys).flatten.length = xs.length * 65
  | [], [], _, _ => rfl
  | [], _ :: _, _, h => by simp at h
  | _ :: _, [], _, h => by simp at h
  | _ :: xs, q :: ys, hp, h => by
    have := (hp q (by simp)).1
    simp only [pendC, List.flatten_cons, List.length_append, wcell, List.length_cons]
    rw [pendC_flat (fun x hx => hp x (by simp [hx])) (by simpa using h)]; omega
theorem wcell_one {a : Int} {p : List Value} (hp : IsPage p) : ∀ v ∈ wcell a p, v.oneCell' = true := fun v hv => by
  rcases List.mem_cons.1 hv with rfl | hv
  · rfl
  · exact hp.2 v hv
theorem flat_getM (m : Nat) : ∀ {pgs : List (List Value)}, (∀ p ∈ pgs, p.length = m) → ∀ (i : Nat) (p : List Value), pgs[i]? = some p → ∀ j, j < m → pgs.flatten[i * m + j]? = p[j]?
  | [], _, _, _, hi, _, _ => by simp at hi
  | q :: r, h, i, p, hi, j, hj => by
    have hq := h q (by simp)
    rw [List.flatten_cons]
    cases i with
    | zero =>
      obtain rfl : q = p := by simpa using hi
      rw [List.getElem?_append_left (by omega)]
      simp
    | succ i =>
      rw [List.getElem?_append_right (by rw [Nat.add_mul, hq]; omega), show (i + 1) * m + j - q.length = i * m + j by rw [Nat.add_mul, hq]; omega]
      exact flat_getM m (fun x hx => h x (by simp [hx])) i p (by simpa using hi) j hj
theorem pendC_65 : ∀ {xs : List Int} {ys : List (List Value)}, Pages ys → ∀ p ∈ pendC xs ys, p.length = 65
  | [], _, _, p, hp => by cases ‹List (List Value)› <;> simp [pendC] at hp
  | _ :: _, [], _, p, hp => by simp [pendC] at hp
  | _ :: xs, q :: ys, h, p, hp => by
    rcases List.mem_cons.1 hp with rfl | hp
    · simp [wcell, (h q (by simp)).1]
    · exact pendC_65 (fun x hx => h x (by simp [hx])) p hp

/-- The program's disk in block g. -/
structure DiskAt (g : Nat) (vf vn vp : Value) (firm newest : List (List Value)) (ats : List Int) (what : List (List Value)) (fuel : Int) (off : Bool) (w : World) : Prop where
  at_ : w.heap[g]? = some (.cells #[vf, vn, vp, .int .i64 fuel, .bool off] 69 (0, 0))
  rowF : w.ownsRow 0 42 64 vf firm.length firm.flatten
  rowN : w.ownsRow 0 42 64 vn newest.length newest.flatten
  rowP : w.ownsRow 0 73 65 vp ats.length (pendC ats what).flatten
  same : what.length = ats.length
  firmOk : Pages firm
  newOk : Pages newest
  whatOk : Pages what
  apart : vf.ownBlock ≠ some g ∧ vn.ownBlock ≠ some g ∧ vp.ownBlock ≠ some g ∧ (vf.ownBlock = none ∨ vf.ownBlock ≠ vn.ownBlock) ∧ (vf.ownBlock = none ∨ vf.ownBlock ≠ vp.ownBlock) ∧ (vn.ownBlock = none ∨ vn.ownBlock ≠ vp.ownBlock)

/-- An Errno, or nil (0). -/
def errVal (n : Int) : Value := if n = 0 then .nilIface else .iface 61 (.int .i64 n)
theorem errVal_nil : errVal 0 = .nilIface := rfl
theorem errVal_held {n : Int} (h : n ≠ 0) : errVal n = .iface 61 (.int .i64 n) := by simp [errVal, h]

section
variable {g : Nat} {vf vn vp : Value} {firm newest what : List (List Value)} {ats : List Int} {fuel : Int} {off : Bool} {w : World}
theorem DiskAt.cell (h : DiskAt g vf vn vp firm newest ats what fuel off w) (j : Nat) : w.cell? ⟨g, j, none⟩ = (#[vf, vn, vp, .int .i64 fuel, .bool off] : Array Value)[j]? := cell_of_row w g j _ _ _ h.at_
theorem DiskAt.thaw (h : DiskAt g vf vn vp firm newest ats what fuel off w) (j : Nat) : w.frozen? ⟨g, j, none⟩ = false := by simp [World.frozen?, h.at_]
theorem DiskAt.lt (h : DiskAt g vf vn vp firm newest ats what fuel off w) : g < w.heap.size := (Array.getElem?_eq_some_iff.1 h.at_).1
/-- What turns none of the disk's blocks leaves it. -/
theorem DiskAt.only (h : DiskAt g vf vn vp firm newest ats what fuel off w) {w' : World} {F : Nat → Prop} (ho : Only F w w') (hF : ∀ k, Foot g vf vn vp k → ¬ F k) : DiskAt g vf vn vp firm newest ats what fuel off w' := by
  have row : ∀ {e : TypeId} {s n : Nat} {v : Value} {xs : List Value}, w.ownsRow 0 e s v n xs → (∀ k, v.ownBlock = some k → ¬ F k) → w'.ownsRow 0 e s v n xs := by
    intro e s n v xs hr hk
    refine ⟨hr.1, hr.2.imp id ?_⟩
    rintro ⟨b, cap, cur, hv, hb, hg, rest⟩
    exact ⟨b, cap, cur, hv, hb, (ho.block b (Array.getElem?_eq_some_iff.1 hg).1 (hk b (by rw [hv]; rfl))).trans hg, rest⟩
  exact ⟨(ho.block g h.lt (hF g (.inl rfl))).trans h.at_, row h.rowF (fun k e => hF k (.inr (.inl e))), row h.rowN (fun k e => hF k (.inr (.inr (.inl e)))), row h.rowP (fun k e => hF k (.inr (.inr (.inr e)))), h.same, h.firmOk, h.newOk, h.whatOk, h.apart⟩
theorem DiskAt.below (h : DiskAt g vf vn vp firm newest ats what fuel off w) {w' : World} (hb : Below w.heap.size w w') : DiskAt g vf vn vp firm newest ats what fuel off w' :=
  h.only (F := fun _ => False) (Only.of_below hb) (fun _ _ => id)
theorem DiskAt.foot_lt (h : DiskAt g vf vn vp firm newest ats what fuel off w) {k : Nat} (hk : Foot g vf vn vp k) : k < w.heap.size := by
  rcases hk with rfl | e | e | e
  · exact h.lt
  · exact (h.rowF.lt _ e).2
  · exact (h.rowN.lt _ e).2
  · exact (h.rowP.lt _ e).2
theorem DiskAt.setFuel (h : DiskAt g vf vn vp firm newest ats what fuel off w) (f : Int) : DiskAt g vf vn vp firm newest ats what f off (w.setCell ⟨g, 3, none⟩ (.int .i64 f)) := by
  have hg := grown_setCell w ⟨g, 3, none⟩ (.int .i64 f)
  exact ⟨by simp [World.setCell, Array.getElem?_modify, h.at_], h.rowF.kept hg (.inr h.apart.1), h.rowN.kept hg (.inr h.apart.2.1), h.rowP.kept hg (.inr h.apart.2.2.1), h.same, h.firmOk, h.newOk, h.whatOk, h.apart⟩
theorem DiskAt.setOff (h : DiskAt g vf vn vp firm newest ats what fuel off w) (b : Bool) : DiskAt g vf vn vp firm newest ats what fuel b (w.setCell ⟨g, 4, none⟩ (.bool b)) := by
  have hg := grown_setCell w ⟨g, 4, none⟩ (.bool b)
  exact ⟨by simp [World.setCell, Array.getElem?_modify, h.at_], h.rowF.kept hg (.inr h.apart.1), h.rowN.kept hg (.inr h.apart.2.1), h.rowP.kept hg (.inr h.apart.2.2.1), h.same, h.firmOk, h.newOk, h.whatOk, h.apart⟩
theorem slice_form {w : World} {e : TypeId} {s n : Nat} {v : Value} {xs : List Value} (h : w.ownsRow 0 e s v n xs) : ∃ ao cap, v = .slice ao n cap := by
  rcases h.2 with ⟨hv, h0⟩ | ⟨g, cap, cur, hv, _⟩
  · exact ⟨none, 0, by rw [hv, h0]⟩
  · exact ⟨_, _, hv⟩

theorem off_any (h : DiskAt g vf vn vp firm newest ats what fuel off w) :
    Calls Tryd.prog 14 #[.pointer (some ⟨g, 0, none⟩)] w fun e w' => e = .returned (.bool off) ∧ w' = w := by
  have c4 : w.cell? ⟨g, 4, none⟩ = some (.bool off) := h.cell 4
  go_enter Tryd.func14, Tryd.ntmps14
  go_wp2
  go_ret
  exact ⟨rfl, rfl⟩
theorem off_nil (w : World) :
    Calls Tryd.prog 14 #[.pointer none] w fun e w' => e = .returned (.bool true) ∧ w' = w := by
  go_enter Tryd.func14, Tryd.ntmps14
  go_wp2
  go_ret
  exact ⟨rfl, rfl⟩
theorem pending_any (h : DiskAt g vf vn vp firm newest ats what fuel off w) :
    Calls Tryd.prog 15 #[.pointer (some ⟨g, 0, none⟩)] w fun e w' => e = .returned (.int .i64 ats.length) ∧ w' = w := by
  have c2 : w.cell? ⟨g, 2, none⟩ = some vp := h.cell 2
  obtain ⟨ao, cap, rfl⟩ := slice_form h.rowP
  obtain ⟨L, hL⟩ : ∃ L, ats.length = L := ⟨_, rfl⟩
  rw [hL] at c2 ⊢
  go_enter Tryd.func15, Tryd.ntmps15
  go_wp2
  go_ret
  exact ⟨rfl, rfl⟩
theorem pending_nil (w : World) :
    Calls Tryd.prog 15 #[.pointer none] w fun e w' => e = .returned (.int .i64 0) ∧ w' = w := by
  go_enter Tryd.func15, Tryd.ntmps15
  go_wp2
  go_ret
  exact ⟨rfl, rfl⟩
theorem size_any (h : DiskAt g vf vn vp firm newest ats what fuel off w) :
    Calls Tryd.prog 16 #[.pointer (some ⟨g, 0, none⟩)] w fun e w' => e = .returned (.int .i64 firm.length) ∧ w' = w := by
  have c0 : w.cell? ⟨g, 0, none⟩ = some vf := h.cell 0
  obtain ⟨ao, cap, rfl⟩ := slice_form h.rowF
  obtain ⟨L, hL⟩ : ∃ L, firm.length = L := ⟨_, rfl⟩
  rw [hL] at c0 ⊢
  go_enter Tryd.func16, Tryd.ntmps16
  go_wp2
  go_ret
  exact ⟨rfl, rfl⟩
theorem size_nil (w : World) :
    Calls Tryd.prog 16 #[.pointer none] w fun e w' => e = .returned (.int .i64 0) ∧ w' = w := by
  go_enter Tryd.func16, Tryd.ntmps16
  go_wp2
  go_ret
  exact ⟨rfl, rfl⟩
theorem fuel_any (h : DiskAt g vf vn vp firm newest ats what fuel off w) (n : Int) :
    Calls Tryd.prog 22 #[.pointer (some ⟨g, 0, none⟩), .int .i64 n] w fun e w' => e = .returned (.tuple #[]) ∧ DiskAt g vf vn vp firm newest ats what n off w' ∧ w.grownBy w' (some g) := by
  have c3 : w.cell? ⟨g, 3, none⟩ = some (.int .i64 fuel) := h.cell 3
  have f3 := h.thaw 3
  have hr := h.setFuel n
  have hgr := grown_setCell w ⟨g, 3, none⟩ (.int .i64 n)
  go_enter Tryd.func22, Tryd.ntmps22
  go_wp2
  go_end0
  exact ⟨rfl, hr, hgr⟩
theorem fuel_nil (w : World) (n : Int) :
    Calls Tryd.prog 22 #[.pointer none, .int .i64 n] w fun e w' => e = .returned (.tuple #[]) ∧ w' = w := by
  go_enter Tryd.func22, Tryd.ntmps22
  go_wp2
  first | go_end0 | refine bodyPost_ret (results_none rfl _ _ _) rfl ?_
  exact ⟨rfl, rfl⟩

/-- reach: what keeps a sector from being read or written. -/
def reachN (n : Nat) (off : Bool) (i : Int) : Int := if off = true then 10 else if i < 0 ∨ (n : Int) ≤ i then 1 else 0
theorem reach_any (h : DiskAt g vf vn vp firm newest ats what fuel off w) (i : Int) :
    Calls Tryd.prog 29 #[.pointer (some ⟨g, 0, none⟩), .int .i64 i] w fun e w' => e = .returned (errVal (reachN firm.length off i)) ∧ w' = w := by
  have c0 : w.cell? ⟨g, 0, none⟩ = some vf := h.cell 0
  have hoff := off_any h
  obtain ⟨ao, cap, rfl⟩ := slice_form h.rowF
  obtain ⟨L, hL⟩ : ∃ L, firm.length = L := ⟨_, rfl⟩
  rw [hL] at c0 ⊢
  cases off with
  | true =>
    have e : errVal (reachN L true i) = .iface 61 (.int .i64 10) := rfl
    rw [e]
    go_enter Tryd.func29, Tryd.ntmps29
    go_wp2_with (go_at_call 14; refine hoff.mono ?_; rintro e w' ⟨rfl, rfl⟩)
    go_ret
    exact ⟨rfl, rfl⟩
  | false =>
    by_cases hbad : i < 0 ∨ (L : Int) ≤ i
    · have e : errVal (reachN L false i) = .iface 61 (.int .i64 1) := by simp [errVal, reachN, hbad]
      rw [e]
      by_cases h0 : i < 0
      · go_enter Tryd.func29, Tryd.ntmps29
        go_wp2_with (go_at_call 14; refine hoff.mono ?_; rintro e w' ⟨rfl, rfl⟩)
        go_ret
        exact ⟨rfl, rfl⟩
      · have h1 : (L : Int) ≤ i := by omega
        go_enter Tryd.func29, Tryd.ntmps29
        go_wp2_with (go_at_call 14; refine hoff.mono ?_; rintro e w' ⟨rfl, rfl⟩)
        go_ret
        exact ⟨rfl, rfl⟩
    · have e : errVal (reachN L false i) = .nilIface := by simp [errVal, reachN, hbad]
      have h0 : ¬ i < 0 := by omega
      have h1 : ¬ (L : Int) ≤ i := by omega
      rw [e]
      clear hbad
      go_enter Tryd.func29, Tryd.ntmps29
      go_wp2_with (go_at_call 14; refine hoff.mono ?_; rintro e w' ⟨rfl, rfl⟩)
      go_ret
      exact ⟨rfl, rfl⟩

theorem step_any (h : DiskAt g vf vn vp firm newest ats what fuel off w) (hf : fuel ≤ 9223372036854775807) :
    Calls Tryd.prog 31 #[.pointer (some ⟨g, 0, none⟩)] w fun e w' => e = .returned (errVal (stepS fuel off).2.2) ∧ DiskAt g vf vn vp firm newest ats what (stepS fuel off).1 (stepS fuel off).2.1 w' ∧ w.grownBy w' (some g) := by
  have c3 : w.cell? ⟨g, 3, none⟩ = some (.int .i64 fuel) := h.cell 3
  have f3 := h.thaw 3
  have f4 := h.thaw 4
  have hoff := off_any h
  have c4 : w.cell? ⟨g, 4, none⟩ = some (.bool off) := h.cell 4
  cases off with
  | true =>
    have hs : stepS fuel true = (fuel, true, 10) := by simp [stepS]
    have e : errVal 10 = .iface 61 (.int .i64 10) := rfl
    rw [hs]
    simp only [e]
    go_enter Tryd.func31, Tryd.ntmps31
    go_wp2_with (go_at_call 14; refine hoff.mono ?_; rintro e w' ⟨rfl, rfl⟩)
    go_ret
    exact ⟨rfl, h, ⟨rfl, rfl, rfl, Nat.le_refl _, fun _ _ _ => rfl⟩⟩
  | false =>
    by_cases h0 : fuel = 0
    · have hs : stepS fuel false = (fuel, true, 10) := by simp [stepS, h0]
      have e : errVal 10 = .iface 61 (.int .i64 10) := rfl
      have hr := h.setOff true
      have hgr := grown_setCell w ⟨g, 4, none⟩ (.bool true)
      rw [hs]
      simp only [e]
      subst h0
      go_enter Tryd.func31, Tryd.ntmps31
      go_wp2_with (go_at_call 14; refine hoff.mono ?_; rintro e w' ⟨rfl, rfl⟩)
      go_ret
      exact ⟨rfl, hr, hgr⟩
    · by_cases hp : 0 < fuel
      · have hs : stepS fuel false = (fuel - 1, false, 0) := by simp [stepS, h0, hp]
        have e : errVal 0 = .nilIface := rfl
        have hw : IntKind.i64.wrap (fuel - 1) = fuel - 1 := IntWalk.i64_in _ (by omega)
        have hr := h.setFuel (fuel - 1)
        have hgr := grown_setCell w ⟨g, 3, none⟩ (.int .i64 (fuel - 1))
        rw [hs]
        simp only [e]
        go_enter Tryd.func31, Tryd.ntmps31
        go_wp2_with (go_at_call 14; refine hoff.mono ?_; rintro e w' ⟨rfl, rfl⟩)
        go_ret
        exact ⟨rfl, hr, hgr⟩
      · have hs : stepS fuel false = (fuel, false, 0) := by simp [stepS, h0, hp]
        have e : errVal 0 = .nilIface := rfl
        rw [hs]
        simp only [e]
        go_enter Tryd.func31, Tryd.ntmps31
        go_wp2_with (go_at_call 14; refine hoff.mono ?_; rintro e w' ⟨rfl, rfl⟩)
        go_ret
        exact ⟨rfl, h, ⟨rfl, rfl, rfl, Nat.le_refl _, fun _ _ _ => rfl⟩⟩
end
end Go.Proofs.YtbmpbcnoclhhgaaDoor
