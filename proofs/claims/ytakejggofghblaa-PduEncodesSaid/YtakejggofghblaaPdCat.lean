/-
  Bytes put behind one another in a row of the call's own; slices.Grow of none, slices.Concat of two.
-/
import Derived.Test.YtakejggofghblaaPdHead
import Derived.Deep.RegionLaw
import Derived.Lib.AppendZerosOnto
import Derived.Lib.Walk
set_option linter.unusedSimpArgs false
set_option linter.unusedVariables false
namespace Go.Proofs.Ytakejggofghblaa
open Go.RowKit Sh Cr Pd

theorem grownBy_of_below {a b : World} {r : Option Nat} (h : Below a.heap.size a b) : a.grownBy b r := ⟨h.os, h.tape, h.output, h.size, fun j hj _ => h.block j hj⟩
/-- A slice of the call's own: what was there at w0 is as it was. -/
structure Own (w0 : World) (v : Value) (n : Nat) (l : List UInt8) (w : World) : Prop where
  below : Below w0.heap.size w0 w
  own : w.ownsRow w0.heap.size 5 1 v n (l.map cu8)
section
variable {w0 w : World} {v : Value} {n : Nat} {l : List UInt8}
theorem Own.start (h : Below w0.heap.size w0 w) : Own w0 (.slice none 0 0) 0 [] w := ⟨h, World.ownsRow_nil _ _ _ _⟩
theorem Own.bytes (h : Own w0 v n l w) : ∃ bp cap, v = .slice bp n cap ∧ Bytes w.heap.size w bp n cap l := Bytes.of_own h.own
theorem Own.keep {wm : World} (h : Own w0 v n l w) (hm : Below w.heap.size w wm) : Own w0 v n l wm :=
  ⟨h.below.trans (hm.mono h.below.size), h.own.kept (grownBy_of_below (r := none) hm) (by cases hv : v.ownBlock <;> simp)⟩
end

/-- Nothing but the slice's own block is turned by an append. -/
def Beside (v : Value) (w : World) (v' : Value) (w' : World) : Prop := w.heap.size ≤ w'.heap.size ∧ ∀ k, k < w.heap.size → v.ownBlock ≠ some k → w'.heap[k]? = w.heap[k]? ∧ v'.ownBlock ≠ some k

theorem infoU8 : (Try.prog.info? 5).map (fun i => (i.zero, i.size, i.bytes)) = some (some (.int .u8 0), 1, 1) := by kernel_rfl

theorem wp_join (w0 w : World) {o : Oper} {a : Act} {K : Act → World → Prop} {Q : Exit → Act → World → Prop} (s x : Operand)
    (ho : o.op = .call { callee := .builtin .append, args := #[s, x], argTypes := #[23, 23] })
    (v : Value) (n : Nat) (l : List UInt8) (hs : a.eval s = v) (hO : Own w0 v n l w) (N : Nat) (bp : Option Addr) (m c : Nat) (bs : List UInt8) (hx : a.eval x = .slice bp m c) (hB : Bytes N w bp m c bs) (r : Nat) (hr : n + m = r) (hsz : r ≤ 140737488355328)
    (h : ∀ v' w', Own w0 v' r (l ++ bs) w' → Beside v w v' w' → K (a.put o.dst v') w') : o.wp Try.prog a w K Q := by
  subst hr
  obtain ⟨i, hi, hzz⟩ := Option.map_eq_some_iff.1 infoU8
  simp only [Prod.mk.injEq] at hzz
  obtain ⟨hz, hs1, hb1⟩ := hzz
  refine wp_append_bytes (P := Try.prog) w s x 23 ho w0.heap.size 5 i (.int .u8 0) 1 Try.underlying23 hi hz hs1 hb1 rfl v n (l.map cu8) hs hO.own N bp m c bs hx hB (by unfold maxLen; omega) (by omega) hO.below.size fun v' w' h1 h2 h3 => h v' w' ⟨?_, by rw [List.map_append]; exact h1⟩ ⟨h2.size, fun k hk hne => ⟨h2.block k hk (fun e => hne e.symm), ?_⟩⟩
  · exact hO.below.grown h2 hO.below.size (fun k hk => (hO.own.lt k hk).1)
  · rcases h3 with e | e
    · rw [e]; exact hne
    · rw [e]; intro e2; simp only [Option.some.injEq] at e2; omega


theorem wpList_join (w0 w : World) {ops : Array Oper} {rest : List Oper} {o : Oper} {a : Act} {Q : Exit → Act → World → Prop} (hgd : o.guard = none) (s x : Operand)
    (ho : o.op = .call { callee := .builtin .append, args := #[s, x], argTypes := #[23, 23] })
    (v : Value) (n : Nat) (l : List UInt8) (hs : a.eval s = v) (hO : Own w0 v n l w) (N : Nat) (bp : Option Addr) (m c : Nat) (bs : List UInt8) (hx : a.eval x = .slice bp m c) (hB : Bytes N w bp m c bs) (r : Nat) (hr : n + m = r) (hsz : r ≤ 140737488355328)
    (h : ∀ v' w', Own w0 v' r (l ++ bs) w' → Beside v w v' w' → wpList Try.prog ops Q rest (a.put o.dst v') w') : wpList Try.prog ops Q (o :: rest) a w :=
  wpList_plain hgd fun _ hK => wp_join w0 w s x ho v n l hs hO N bp m c bs hx hB r hr hsz fun v' w' h1 h2 => hK _ _ (h v' w' h1 h2)

/-- A row of the call's own that holds these bytes is handed back. -/
def OwnP (w : World) (l : List UInt8) (e : Ending) (w' : World) : Prop := ∃ v, e = .returned v ∧ Own w v l.length l w'
theorem Own.of_row {w w' : World} {g cap : Nat} {cur : Array Value} (hb : Below w.heap.size w w') (hg : w'.heap[g]? = some (.cells cur 5 (0, 0))) (hw : w.heap.size ≤ g) (hc : cur.size = cap) (hm : cap ≤ maxLen) : Own w (.slice (some ⟨g, 0, none⟩) 0 cap) 0 [] w' :=
  ⟨hb, by refine ⟨rfl, .inr ⟨g, cap, cur, rfl, hw, hg, by omega, hm, by omega, by simp⟩⟩⟩
set_option maxRecDepth 100000 in
set_option maxHeartbeats 2000000 in
theorem growNil_any (n : Nat) (hn : n ≤ 100000) (w : World) : Calls Try.prog 35 #[.slice none 0 0, .int .i64 (n : Int)] w (OwnP w []) := by
  have g0 : ¬ ((n : Int) < 0) := by omega
  by_cases h0 : n = 0
  · subst h0
    go_enter Try.func35, Try.ntmps35
    go_wp2
    go_ret
    exact ⟨_, rfl, Own.start (Below.refl _ _)⟩
  · have g1 : (0 : Int) < n := by omega
    obtain ⟨i, hi, hzz⟩ := Option.map_eq_some_iff.1 infoU8
    simp only [Prod.mk.injEq] at hzz
    obtain ⟨hz, hs1, hb1⟩ := hzz
    have hrz : ∀ ty, (Builtin.append_ #[23, 3] ty #[.slice none 0 0, .int .i64 (n : Int)]).run Try.prog w = _ := fun ty =>
      Lib.run_append_grow_zeros (P := Try.prog) w 23 3 ty 5 i (.int .u8 0) .i64 .i64 Try.underlying23 Try.underlying3 hi hz none 0 0 [] (run_firstCells_none w.drew i.size 0 0 0) n (by omega) (by omega) (by omega) (by omega) (by rw [hb1]; omega)
        (by rw [hb1]; exact growslice_fits (by omega) (by omega))
    rw [Nat.zero_add] at hrz
    have hge : n ≤ grownCap w n 0 5 := grownCap_ge w _ _ _
    have hle : grownCap w n 0 5 ≤ maxLen := grownCap_le_maxLen w n 0 5 (by unfold maxLen; omega)
    generalize grownCap w n 0 5 = G at hrz hge hle
    have hO : Own w (.slice (some ⟨w.heap.size, 0, none⟩) 0 G) 0 [] (w.drew.alloc (.cells (([] : List Value).toArray ++ Builtin.zeroCells (Value.int .u8 0).cells n ++ Builtin.zeroCells (Value.int .u8 0).cells (G - n)) 5)) :=
      Own.of_row ((Below.refl _ w).drew.alloc (Nat.le_refl _) _) (heap_alloc_new w.drew _) (Nat.le_refl _) (by
        have h1 : (Value.int IntKind.u8 0).cells.size = 1 := rfl
        simp only [Array.size_append, List.size_toArray, size_zeroCells, h1, List.length_nil]; omega) hle
    generalize w.drew.alloc (.cells (([] : List Value).toArray ++ Builtin.zeroCells (Value.int .u8 0).cells n ++ Builtin.zeroCells (Value.int .u8 0).cells (G - n)) 5) = w1 at hrz hO
    unfold maxLen at hle
    go_enter Try.func35, Try.ntmps35
    go_wp2_with (at_builtin; refine Lib.wpList_append_run _ rfl _ _ _ _ rfl _ _ rfl rfl _ _ (hrz _) ?_)
    all_goals
      go_ret
      exact ⟨_, rfl, hO⟩
end Go.Proofs.Ytakejggofghblaa
