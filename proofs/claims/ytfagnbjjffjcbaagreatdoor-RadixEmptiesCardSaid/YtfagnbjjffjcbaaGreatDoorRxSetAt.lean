/-
  A set of numbers: a map from numbers to true, in memory, beside a book.
-/
import Derived.Test.YtfagnbjjffjcbaaGreatDoorRxLaw
import Derived.Maps.Views
set_option linter.unusedSimpArgs false
set_option linter.unusedVariables false
namespace Go.Proofs.YtfagnbjjffjcbaaGreatDoor
open Go.RowKit Sh Go.Maps Go.ChangeMaps Go.MapKept Go.Extern.Stop Go.Stop Go.Extern

theorem plainBool_inv {P : Program} {e : TypeId} (he : P.underlying e = some .bool) {v : Value} {x : Bool} {ps : List MemPlace} (h : plainElem (H := Unit) P e v = some (.lit (.bool x), ps)) : v = .bool x := by
  unfold plainElem at h
  rw [he] at h
  cases v <;> simp at h
  rw [h.1]
theorem zero_bool (w : World) : (zeroValue 4).run Tryz.prog w = .ok (.bool false) w := by kernel_rfl
theorem intLit (k : Nat) : WideAt.IsKeyLit (.int .i64 (k : Int)) := by trivial
theorem tight_bool {w : World} {b n : Nat} {D : DataW Unit} (h : w.ownsMap Tryz.prog 3 (plainElem Tryz.prog 4) b n D) : w.ownsMap Tryz.prog 3 (plainElem Tryz.prog 4) b (Maps.size D) D := by
  obtain ⟨es, clock, hb, F, hs, rfl⟩ := h
  refine ⟨es, clock, hb, F, ?_, rfl⟩
  simp [Maps.size, length_sorted]
/-- Block b is a set: of c numbers, those of S. -/
def SetAt (b : Nat) (S : Nat → Bool) (c : Nat) (w : World) : Prop := ∃ (D : DataW Unit) (n : Nat), w.ownsMap Tryz.prog 3 (plainElem Tryz.prog 4) b n D ∧ n ≤ c ∧ (∀ k : Nat, Maps.has D (.int .i64 (k : Int)) = S k) ∧ (∀ k : Nat, D.atKey (.int .i64 (k : Int)) (.lit (.bool false)) = .lit (.bool (S k))) ∧ Maps.size D = c
section
variable {b c : Nat} {S : Nat → Bool} {w w' : World}
theorem SetAt.of_block (h : SetAt b S c w) (e : w'.heap[b]? = w.heap[b]?) : SetAt b S c w' := by
  obtain ⟨D, n, ⟨es, clock, h1, h2⟩, h3⟩ := h
  exact ⟨D, n, ⟨es, clock, e.trans h1, h2⟩, h3⟩
theorem SetAt.made (w : World) : SetAt w.heap.size (fun _ => false) 0 (w.alloc (.map #[] 0)) := ⟨_, 0, World.ownsMap_made w _ _ _, by omega, fun _ => rfl, fun _ => rfl, rfl⟩
theorem SetAt.look (h : SetAt b S c w) (k : Nat) (hk : k < 9223372036854775807) : (Instr.lookup 56 (.map (some b)) (.int .i64 (k : Int)) false).run Tryz.prog w = .ok (.bool (S k)) w := by
  obtain ⟨D, n, ho, _, _, hat, _⟩ := h
  obtain ⟨v, ps, hrun, hv⟩ := World.ownsMap.lookup ho keyedInt Tryz.underlying56 (zero_bool w) (plainElem_bool Tryz.underlying4 false) (key_int k (by omega))
  rw [hat k] at hv
  rw [hrun]
  rw [plainBool_inv Tryz.underlying4 hv]
theorem SetAt.len (h : SetAt b S c w) (ty : TypeId) : (Builtin.len_ #[56] ty #[.map (some b)]).run Tryz.prog w = .ok (.int .i64 c) w := by
  obtain ⟨D, n, ho, _, _, _, hs⟩ := h
  rw [World.ownsMap.len ho Tryz.underlying56 ty, hs]
theorem SetAt.store (h : SetAt b S c w) (hc : c ≤ 100) (k : Nat) (hk : k < 9223372036854775807) : ∃ w', (Instr.mapUpdate 56 (.map (some b)) (.int .i64 (k : Int)) (.bool true)).run Tryz.prog w = .ok () w' ∧ SetAt b (fun j => j == k || S j) (if S k then c else c + 1) w' ∧ w.grownBy w' (some b) := by
  obtain ⟨D, n, ho, hn, hh, hat, hs⟩ := h
  have hmax : (100000 : Nat) ≤ maxLen := by unfold maxLen; omega
  have hn2 : n < maxLen := by omega
  obtain ⟨w', hrun, hown, ht⟩ := World.ownsMap.store ho keyedInt Tryz.underlying56 hn2 (key_int (k : Int) (by omega)) (plainElem_bool Tryz.underlying4 true)
  have hI := World.ownsMap.isMap ho
  have hT := World.ownsMap.tidy ho keyedInt
  have hne : ∀ j : Nat, j ≠ k → (Lit.int .i64 (j : Int)) ≠ .int .i64 (k : Int) := fun j hj h => hj (by simp only [Lit.int.injEq, true_and] at h; omega)
  have hsp : Maps.size (D.put (.int .i64 (k : Int)) (.lit (.bool true))) = if S k then c else c + 1 := by rw [Maps.size_put hT, hh, hs]
  refine ⟨w', hrun, ⟨_, _, tight_bool hown, Nat.le_of_eq hsp, fun j => ?_, fun j => ?_, hsp⟩, ht.grown⟩
  · by_cases e : j = k
    · subst e; rw [Maps.has_put_same hI (intLit j)]; simp
    · rw [Maps.has_put_other (hne j e), hh]; simp [e]
  · by_cases e : j = k
    · subst e; rw [Maps.atKey_put_same hI (intLit j)]; simp
    · rw [Maps.atKey_put_other (hne j e), hat]; simp [e]
theorem wpList_store_set {ops : Array Oper} {rest : List Oper} {o : Oper} {a : Act} {Q : Exit → Act → World → Prop} (hg : o.guard = none) (m x y : Operand) (hop : o.op = .mapUpdate 56 m x y) (h : SetAt b S c w) (hc : c ≤ 100) (k : Nat) (hk : k < 9223372036854775807)
    (hm : a.eval m = .map (some b)) (hx : a.eval x = .int .i64 (k : Int)) (hy : a.eval y = .bool true)
    (hK : ∀ w', Hid (SetAt b (fun j => j == k || S j) (if S k then c else c + 1) w') → Hid (w.grownBy w' (some b)) → wpList Tryz.prog ops Q rest (a.put o.dst undef) w') :
    wpList Tryz.prog ops Q (o :: rest) a w := by
  refine wpList_plain hg fun K' hK' => ?_
  obtain ⟨w', hrun, hown, ht⟩ := h.store hc k hk
  unfold Oper.wp
  simp only [execOp, hop, hm, hx, hy, Sem.run_bind, hrun, Result.andThen, Sem.run_pure]
  exact hK' _ _ (hK w' (Lib.hid hown) (Lib.hid ht))
end
/-- The first block beside a book turns. -/
theorem OwnX.setHead {bk : Bk} {gd g nb : Nat} {o o' : Obj} {T : List (Nat × Obj)} {w0 w w' : World} (h : OwnX bk gd g ((nb, o) :: T) w0 w) (hne : ∀ y ∈ T, y.1 ≠ nb) (hg : w.grownBy w' (some nb)) (ha : w'.heap[nb]? = some o') : OwnX bk gd g ((nb, o') :: T) w0 w' := by
  obtain ⟨Fd, gr, bn, bt, hi, hF⟩ := h.ex
  have ho := Only.of_grown (F := fun k => k = nb) hg (fun k e => by simpa using e.symm)
  have hbase := (h.arr (nb, o) (by simp)).2
  refine ⟨⟨Fd, gr, bn, bt, hi.only ho (fun k hk e => (hF k hk).2 (nb, o) (by simp) e), fun k hk => ⟨(hF k hk).1, fun x hx => ?_⟩⟩,
    h.bel.trans (ho.base h.bel.size (fun k hk => by have e : k = nb := hk; rw [e]; exact hbase)), fun x hx => ?_⟩
  · rcases List.mem_cons.1 hx with rfl | hx
    · exact (hF k hk).2 (nb, o) (by simp)
    · exact (hF k hk).2 x (by simp [hx])
  · rcases List.mem_cons.1 hx with rfl | hx
    · exact ⟨ha, hbase⟩
    · obtain ⟨h1, h2⟩ := h.arr x (by simp [hx])
      exact ⟨(hg.block x.1 (Array.getElem?_eq_some_iff.1 h1).1 (by simp; exact fun e => hne x hx e)).trans h1, h2⟩
end Go.Proofs.YtfagnbjjffjcbaaGreatDoor
