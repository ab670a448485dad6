/-
  Small laws for regions that draw and rows of the call's own (as in PePersActs and PeRunsM, for texts that need no order).
-/
import Derived.Test.YtkpogmigfjmacaaPeSame
import Derived.Test.YtkpogmigfjmacaaPeStands
import Derived.Test.YtkpogmigfjmacaaPeOpen
set_option linter.unusedSimpArgs false
set_option linter.unusedVariables false
namespace Go.Proofs.Ytkpogmigfjmacaa
open Go.RowKit

theorem wpAnyH_two {P : Program} {md : Region.Mode} {ops : Array Oper} {Q : Exit → Act → World → Prop} {S : World → Prop} {fuel : Nat} {listed : Array Bool} {a : Act} {w : World} (i j : Nat) (oi oj : Oper) (hi : ops[i]? = some oi) (hj : ops[j]? = some oj) (hr : Region.ready md ops listed = [i, j])
    (hwi : Region.wanted oi (yielded ops a.tmps) = true) (hwj : Region.wanted oj (yielded ops a.tmps) = true)
    (h1 : ∀ K : Act → World → Prop, (∀ a' w', S w' → wpAnyH P md ops Q S fuel (listed.setIfInBounds i true) a' w' → K a' w') → Oper.wp P oi a w K Q)
    (h2 : ∀ K : Act → World → Prop, (∀ a' w', S w' → wpAnyH P md ops Q S fuel (listed.setIfInBounds j true) a' w' → K a' w') → Oper.wp P oj a w K Q) : wpAnyH P md ops Q S (fuel + 1) listed a w := by
  refine wpAnyH_all hr (by simp) (fun k hk => ?_)
  unfold wpOp
  rcases (by simpa using hk : k = i ∨ k = j) with rfl | rfl
  · simp only [hi, hwi, if_true]
    exact .inl (h1 _ fun _ _ h1 h2 => ⟨h1, h2⟩)
  · simp only [hj, hwj, if_true]
    exact .inl (h2 _ fun _ _ h1 h2 => ⟨h1, h2⟩)
theorem own_keep {B size n q : Nat} {e T : TypeId} {w w' : World} {v : Value} {xs : List Value} {cs : Array Value} (h : w.ownsRow B e size v n xs) (hoth : ∀ i, i ≠ q → w'.heap[i]? = w.heap[i]?) (hq : w.heap[q]? = some (.cells cs T (0, 0))) (hne : e ≠ T) : w'.ownsRow B e size v n xs := by
  have hno := own_other h hq hne
  refine ⟨h.1, h.2.imp id fun ⟨g, cap, cur, h1, h2, h3, h4⟩ => ⟨g, cap, cur, h1, h2, ?_, h4⟩⟩
  subst h1
  exact (hoth g (fun e => hno (by rw [e]; rfl))).trans h3
theorem OwnI.keep {B q : Nat} {T : TypeId} {w w' : World} {v : Value} {l : List Int} {cs : Array Value} (h : OwnI B w v l) (hoth : ∀ i, i ≠ q → w'.heap[i]? = w.heap[i]?) (hq : w.heap[q]? = some (.cells cs T (0, 0))) (hne : 3 ≠ T) : OwnI B w' v l := own_keep h hoth hq hne
theorem box2 {w : World} {b : Nat} {T : TypeId} {v0 v1 : Value} (h : w.heap[b]? = some (.cells #[v0, v1] T (0, 0))) :
    b < w.heap.size ∧ w.cell? ⟨b, 0, none⟩ = some v0 ∧ w.cell? ⟨b, 1, none⟩ = some v1 ∧ ∀ o, w.frozen? ⟨b, o, none⟩ = false :=
  ⟨(Array.getElem?_eq_some_iff.1 h).1, cell_of_row w b 0 _ _ _ h, cell_of_row w b 1 _ _ _ h, fun o => by simp [World.frozen?, h]⟩
theorem OwnR.sl2 {B : Nat} {w : World} {A : Option Addr} {n c : Nat} {l : List (Int × Int)} (h : OwnR B w (.slice A n c) l) : SlR w A n c l := by
  obtain ⟨A', c', he, hs⟩ := h.sl
  injection he with h1 h2 h3
  subst h1 h2 h3
  exact hs
theorem exec_load_at {w : World} {o : Oper} {ρ : Operand → Value} {ty : TypeId} {x : Operand} {a : Addr} {cs : Array Value} (ho : o.op = .load ty x) (hx : ρ x = .pointer (some a))
    (hr : (Instr.loadAt ty (.pointer (some a))).run Try.prog w = .ok (.agg cs) w) : (execOp ρ o).run Try.prog w = .ok (.value (.agg cs)) w := by
  unfold execOp
  simp only [ho, hx, Sem.run_bind, hr, Result.andThen_ok, Sem.run_pure]
end Go.Proofs.Ytkpogmigfjmacaa
