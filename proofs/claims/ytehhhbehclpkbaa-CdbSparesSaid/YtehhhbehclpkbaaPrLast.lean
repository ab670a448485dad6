/-
  A region that draws and whose last operations may turn what its loads read: the condition on worlds is asked behind each operation ahead of number z.
-/
import Derived.Deep.RegionHeld
import Derived.StillTail
namespace Go.Proofs.Ytehhhbehclpkbaa
open Go

section
variable {P : Program} {ops : Array Oper} {Q : Exit → Act → World → Prop} {md : Region.Mode} {S : World → Prop} {z : Nat}

def upAny (P : Program) (md : Region.Mode) (ops : Array Oper) (Q : Exit → Act → World → Prop) (S : World → Prop) (z : Nat) : Nat → Array Bool → Act → World → Prop
  | 0, l, a, w => Region.ready md ops l = [] ∧ Q .normal a w
  | n + 1, l, a, w => (Region.ready md ops l = [] → Q .normal a w) ∧ ∀ k ∈ Region.ready md ops l,
      wpOp P ops Q k (fun b v => (z ≤ k ∨ S v) ∧ upAny P md ops Q S z n (l.setIfInBounds k true) b v) a w
/-- .. ahead of number z. -/
def upHead (P : Program) (md : Region.Mode) (ops : Array Oper) (Q : Exit → Act → World → Prop) (S : World → Prop) (z n : Nat) (l : Array Bool) (a : Act) (w : World) : Prop := HeadInv md ops z l → upAny P md ops Q S z n l a w

theorem any_of_up : ∀ (n : Nat) (l : Array Bool) (a : Act) (w : World), upAny P md ops Q S z n l a w → wpAny P md ops Q n l a w
  | 0, _, _, _, h => h
  | n + 1, _, _, _, h => ⟨h.1, fun k hk => wpOp_mono (fun b v hb => any_of_up n _ b v hb.2) (h.2 k hk)⟩
theorem wp_region_up (z : Nat) (S : World → Prop) {id : Nat} {a : Act} {w : World} (hm : P.follows .mixedOrders = true)
    (h : upHead P .any ops Q S z ops.size (Array.replicate ops.size false) a { w with drawn := w.drawn + 1 }) : (Code.region id ops true).wp P Q a w :=
  wp_region_any hm (any_of_up _ _ _ _ (h ⟨by simp, fun j _ _ hl => (by rw [getD_replicate_false] at hl; cases hl), fun t _ ht => by simp [ht]⟩))

theorem up_first {i : Nat} {oi : Oper} {x : Value} (hi : ops[i]? = some oi) (hsel : ∀ (j : Nat) (o : Oper) cs b, ops[j]? = some o → o.op ≠ .select cs b) (hQ : ∀ c a w, Q (.panic c) (a.put oi.dst x) w → Q (.panic c) a w)
    (hs : Region.sinkB md ops z = true) (hc : Region.chainB md ops z = true) (hz : z < ops.size) (hiz : i < z) :
    ∀ (n : Nat) (l : Array Bool) (a : Act) (w : World), HeadInv md ops z l → (∀ j oj, ops[j]? = some oj → j ≠ i → l.getD j true = false → (∀ e ∈ oj.after, Region.binds md e = true → e.on ≠ i) → oi.apart ops oj = true) →
      i ∈ Region.ready md ops l → YieldsIf P ops S oi x a → S w → upAny P md ops Q S z n (l.setIfInBounds i true) (a.put oi.dst x) w → upAny P md ops Q S z (n + 1) l a w
  | 0, l, a, w => fun _ _ hr hy hS H => ⟨(fun h => by rw [h] at hr; cases hr), fun j hj => by
      by_cases e : j = i
      · rw [e]; exact hy.wpOp hi hS ⟨.inr hS, H⟩
      · have := ready_mono hj e
        rw [H.1] at this; cases this⟩
  | n + 1, l, a, w => fun hV hfree hr hy hS H => ⟨(fun h => by rw [h] at hr; cases hr), fun j hj => by
      by_cases e : j = i
      · rw [e]; exact hy.wpOp hi hS ⟨.inr hS, H⟩
      · have hiu := (mem_ready.1 hr).1
        have hjz : j < z := Nat.lt_of_not_le fun hge => tail_waits hs hc hz hV _ i rfl hiz hiu j hge hj
        have hstep := H.2 j (ready_mono hj e)
        obtain ⟨hun, oj, hoj, hall⟩ := mem_ready.1 hj
        have hno : ∀ d ∈ oj.after, Region.binds md d = true → d.on ≠ i := fun d hd hb hq => by
          have u1 := hall d hd hb
          rw [hq, getD_both hiu] at u1
          cases u1
        refine wpOp_mono (fun b v hb => ?_) (wpOp_putIf hoj (hfree j oj hoj e hun hno) (fun cs b => hsel i oi cs b hi) (fun cs b => hsel j oj cs b hoj) hQ hy hstep)
        have hSv : S v := hb.2.1.resolve_left (Nat.not_le_of_lt hjz)
        exact ⟨.inr hSv, up_first hi hsel hQ hs hc hz hiz n _ b v (hV.set hj hjz) (fun k ok hk hki hku hkn => hfree k ok hk hki (by
            by_cases q : j = k
            · rw [← q]; exact hun
            · rwa [getD_set_ne true q] at hku) hkn) (ready_mono hr (Ne.symm e)) hb.1 hSv (by rw [Array.setIfInBounds_comm _ _ e]; exact hb.2.2)⟩⟩

theorem up_take {i : Nat} {oi : Oper} {v : Value} {fuel : Nat} {listed : Array Bool} {a : Act} {w : World} (hi : ops[i]? = some oi)
    (hs : Region.noSelect ops = true) (hf : (Region.free md ops listed i && (Region.ready md ops listed).contains i && Region.sinkB md ops z && Region.chainB md ops z && decide (z < ops.size) && decide (i < z)) = true)
    (hQ : ∀ c a w, Q (.panic c) (a.put oi.dst v) w → Q (.panic c) a w) (hy : YieldsIf P ops S oi v a) (hS : S w)
    (h : upHead P md ops Q S z fuel (listed.setIfInBounds i true) (a.put oi.dst v) w) : upHead P md ops Q S z (fuel + 1) listed a w := fun hV => by
  simp only [Bool.and_eq_true, decide_eq_true_eq] at hf
  obtain ⟨⟨⟨⟨⟨f1, f2⟩, f3⟩, f4⟩, f5⟩, f6⟩ := hf
  have hr : i ∈ Region.ready md ops listed := by simpa using f2
  exact up_first hi (Region.noSelect_spec hs) hQ f3 f4 f5 f6 fuel listed a w hV (Region.free_spec hi f1) hr hy hS (h (hV.set hr f6))
/-- One operation comes up, and no other. -/
theorem up_one {fuel : Nat} {listed : Array Bool} {a : Act} {w : World} (i : Nat) (o : Oper) (hi : ops[i]? = some o) (hr : Region.ready md ops listed = [i]) (hiz : i < z)
    (hw : Region.wanted o (yielded ops a.tmps) = true) (h : ∀ K : Act → World → Prop, (∀ a' w', S w' → upHead P md ops Q S z fuel (listed.setIfInBounds i true) a' w' → K a' w') → Oper.wp P o a w K Q) : upHead P md ops Q S z (fuel + 1) listed a w := fun hV =>
  ⟨(fun h0 => by rw [hr] at h0; cases h0), fun j hj => by
    rw [hr] at hj
    obtain rfl : j = i := by simpa using hj
    unfold wpOp
    simp only [hi, hw, if_true]
    exact .inl (h _ fun _ _ h1 h2 => ⟨.inr h1, h2 (hV.set (by rw [hr]; simp) hiz)⟩)⟩
theorem wp_alloc_arr {P : Program} {o : Oper} {a : Act} {w : World} {K : Act → World → Prop} {Q : Exit → Act → World → Prop} (ty : TypeId) (ho : o.op = .alloc ty) (cells : Array Value)
    (hal : ∀ w : World, (Instr.alloc ty true (.tuple #[])).run P w = .ok (.pointer (some ⟨w.heap.size, 0, none⟩)) (w.alloc (.cells cells ty)))
    (h : K (a.put o.dst (.pointer (some ⟨w.heap.size, 0, none⟩))) (w.alloc (.cells cells ty))) : o.wp P a w K Q := by
  unfold Oper.wp execOp
  simp only [ho, Sem.run_bind, hal w, Result.andThen_ok, Sem.run_pure]
  exact h
/-- Two operations may come up. -/
theorem up_two {fuel : Nat} {listed : Array Bool} {a : Act} {w : World} (i j : Nat) (oi oj : Oper) (hi : ops[i]? = some oi) (hj : ops[j]? = some oj) (hr : Region.ready md ops listed = [i, j]) (hiz : i < z) (hjz : j < z)
    (hwi : Region.wanted oi (yielded ops a.tmps) = true) (hwj : Region.wanted oj (yielded ops a.tmps) = true)
    (h1 : ∀ K : Act → World → Prop, (∀ a' w', S w' → upHead P md ops Q S z fuel (listed.setIfInBounds i true) a' w' → K a' w') → Oper.wp P oi a w K Q)
    (h2 : ∀ K : Act → World → Prop, (∀ a' w', S w' → upHead P md ops Q S z fuel (listed.setIfInBounds j true) a' w' → K a' w') → Oper.wp P oj a w K Q) : upHead P md ops Q S z (fuel + 1) listed a w := fun hV =>
  ⟨(fun h0 => by rw [hr] at h0; cases h0), fun k hk => by
    have hk' := hk
    rw [hr] at hk'
    rcases List.mem_cons.1 hk' with rfl | hk'
    · unfold wpOp
      simp only [hi, hwi, if_true]
      exact .inl (h1 _ fun _ _ h1 h2 => ⟨.inr h1, h2 (hV.set hk hiz)⟩)
    · obtain rfl : k = j := by simpa using hk'
      unfold wpOp
      simp only [hj, hwj, if_true]
      exact .inl (h2 _ fun _ _ h1 h2 => ⟨.inr h1, h2 (hV.set hk hjz)⟩)⟩
/-- .. from number z on. -/
theorem up_last {fuel : Nat} {listed : Array Bool} {a : Act} {w : World} (i : Nat) (o : Oper) (hi : ops[i]? = some o) (hr : Region.ready md ops listed = [i]) (hiz : z ≤ i)
    (hw : Region.wanted o (yielded ops a.tmps) = true) (h : ∀ K : Act → World → Prop, (∀ a' w', upAny P md ops Q S z fuel (listed.setIfInBounds i true) a' w' → K a' w') → Oper.wp P o a w K Q) : upAny P md ops Q S z (fuel + 1) listed a w :=
  ⟨(fun h0 => by rw [hr] at h0; cases h0), fun j hj => by
    rw [hr] at hj
    obtain rfl : j = i := by simpa using hj
    unfold wpOp
    simp only [hi, hw, if_true]
    exact .inl (h _ fun _ _ h2 => ⟨.inl hiz, h2⟩)⟩
theorem up_tail {fuel : Nat} {listed : Array Bool} {a : Act} {w : World} (h : upAny P md ops Q S z fuel listed a w) : upHead P md ops Q S z fuel listed a w := fun _ => h
theorem up_done {listed : Array Bool} {a : Act} {w : World} (hr : Region.ready md ops listed = []) (h : Q .normal a w) : ∀ fuel, upAny P md ops Q S z fuel listed a w
  | 0 => ⟨hr, h⟩
  | _ + 1 => ⟨fun _ => h, by rw [hr]; simp⟩
end
end Go.Proofs.Ytehhhbehclpkbaa
