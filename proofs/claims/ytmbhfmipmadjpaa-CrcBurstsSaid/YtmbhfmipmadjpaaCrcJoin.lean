/-
  Bytes put together behind one another in a slice of the call's own; the steps of a drawn region.
-/
import Derived.Test.YtmbhfmipmadjpaaCrcTable
import Derived.Deep.RegionLaw
namespace Go.Proofs.Ytmbhfmipmadjpaa
open Go.RowKit Sh Cr

theorem grownBy_of_below {a b : World} {r : Option Nat} (h : Below a.heap.size a b) : a.grownBy b r := ⟨h.os, h.tape, h.output, h.size, fun j hj _ => h.block j hj⟩
/-- A slice of the call's own: what was there at w0 is as it was. -/
structure Own (w0 : World) (v : Value) (n : Nat) (l : List UInt8) (w : World) : Prop where
  below : Below w0.heap.size w0 w
  own : w.ownsRow w0.heap.size 5 1 v n (l.map cu8)
section
variable {w0 w : World} {v : Value} {n : Nat} {l : List UInt8}
theorem Own.start (h : Below w0.heap.size w0 w) : Own w0 (.slice none 0 0) 0 [] w := ⟨h, World.ownsRow_nil _ _ _ _⟩
theorem Own.bytes (h : Own w0 v n l w) : ∃ bp cap, v = .slice bp n cap ∧ Bytes w.heap.size w bp n cap l := Bytes.of_own h.own
theorem Own.keep {wm : World} (h : Own w0 v n l w) (hm : Below w.heap.size w wm) : Own w0 v n l wm :=
  ⟨h.below.trans (hm.mono h.below.size), h.own.kept (grownBy_of_below (r := none) hm) (by cases hv : v.ownBlock <;> simp)⟩
end

/-- Nothing but the slice's own block is turned by an append. -/
def Beside (v : Value) (w : World) (v' : Value) (w' : World) : Prop := w.heap.size ≤ w'.heap.size ∧ ∀ k, k < w.heap.size → v.ownBlock ≠ some k → w'.heap[k]? = w.heap[k]? ∧ v'.ownBlock ≠ some k

theorem infoU8 : (Try.prog.info? 5).map (fun i => (i.zero, i.size, i.bytes)) = some (some (.int .u8 0), 1, 1) := by kernel_rfl

theorem wp_join (w0 w : World) {o : Oper} {a : Act} {K : Act → World → Prop} {Q : Exit → Act → World → Prop} (s x : Operand)
    (ho : o.op = .call { callee := .builtin .append, args := #[s, x], argTypes := #[29, 29] })
    (v : Value) (n : Nat) (l : List UInt8) (hs : a.eval s = v) (hO : Own w0 v n l w) (N : Nat) (bp : Option Addr) (m c : Nat) (bs : List UInt8) (hx : a.eval x = .slice bp m c) (hB : Bytes N w bp m c bs) (r : Nat) (hr : n + m = r) (hsz : r ≤ 140737488355328)
    (h : ∀ v' w', Own w0 v' r (l ++ bs) w' → Beside v w v' w' → K (a.put o.dst v') w') : o.wp Try.prog a w K Q := by
  subst hr
  obtain ⟨i, hi, hzz⟩ := Option.map_eq_some_iff.1 infoU8
  simp only [Prod.mk.injEq] at hzz
  obtain ⟨hz, hs1, hb1⟩ := hzz
  refine wp_append_bytes (P := Try.prog) w s x 29 ho w0.heap.size 5 i (.int .u8 0) 1 Try.underlying29 hi hz hs1 hb1 rfl v n (l.map cu8) hs hO.own N bp m c bs hx hB (by unfold maxLen; omega) (by omega) hO.below.size fun v' w' h1 h2 h3 => h v' w' ⟨?_, by rw [List.map_append]; exact h1⟩ ⟨h2.size, fun k hk hne => ⟨h2.block k hk (fun e => hne e.symm), ?_⟩⟩
  · exact hO.below.grown h2 hO.below.size (fun k hk => (hO.own.lt k hk).1)
  · rcases h3 with e | e
    · rw [e]; exact hne
    · rw [e]; intro e2; simp only [Option.some.injEq] at e2; omega

/-- Four zeros that a make laid. -/
def Made (g : Nat) (w : World) : Prop := w.heap[g]? = some (.cells (madeCells #[.int .u8 0] 4) 5 (0, 0))
theorem Made.lt {g : Nat} {w : World} (h : Made g w) : g < w.heap.size := (Array.getElem?_eq_some_iff.1 h).1
theorem Made.bytes {g : Nat} {w : World} (h : Made g w) : Bytes w.heap.size w (some ⟨g, 0, none⟩) 4 4 [0, 0, 0, 0] :=
  ⟨rfl, Nat.le_refl _, by unfold maxLen; omega, .inr ⟨g, 0, rfl, h.lt, fun j hj => by
    rw [cell_of_row w g _ _ _ _ h]
    obtain rfl | rfl | rfl | rfl : j = 0 ∨ j = 1 ∨ j = 2 ∨ j = 3 := by omega
    all_goals kernel_rfl⟩⟩
theorem Made.keep {g : Nat} {w w' : World} (h : Made g w) (hb : Below w.heap.size w w') : Made g w' := (hb.block g h.lt).trans h
theorem Made.beside {g : Nat} {w w' : World} {v v' : Value} (h : Made g w) (hb : Beside v w v' w') (hne : v.ownBlock ≠ some g) : Made g w' := (hb.2 g h.lt hne).1.trans h

theorem a4_bytes {w : World} {g : Nat} {rv : Array Value} {s : UInt32} {t : TypeId} (h : w.heap[g]? = some (.cells rv t (0, 0))) (hr : Hid (rv = a4 s)) : Bytes w.heap.size w (some ⟨g, 0, none⟩) 4 4 (le4 s) :=
  ⟨rfl, Nat.le_refl _, by unfold maxLen; omega, .inr ⟨g, 0, rfl, (Array.getElem?_eq_some_iff.1 h).1, fun j hj => by
    rw [cell_of_row w g _ _ _ _ h, hr.out]
    obtain rfl | rfl | rfl | rfl : j = 0 ∨ j = 1 ∨ j = 2 ∨ j = 3 := by omega
    all_goals rfl⟩⟩
theorem a4_size {rv : Array Value} {s : UInt32} (hr : Hid (rv = a4 s)) : Hid (rv.size = 4) := by rw [hr.out]; rfl
theorem a4_one {rv : Array Value} {s : UInt32} (hr : Hid (rv = a4 s)) : Hid (rv.all (·.oneCell') = true) := by
  have : (a4 s).all (·.oneCell') = true := all_oneCell_toArray (fun v hv => by obtain ⟨x, _, rfl⟩ := List.mem_map.1 hv; rfl)
  rw [hr.out]; exact this

theorem wp_make4 (w : World) {o : Oper} {a : Act} {K : Act → World → Prop} {Q : Exit → Act → World → Prop} (ho : o.op = .makeSlice 29 (.const (.int .i64 4)) (.const (.int .i64 4)))
    (h : ∀ g w', w.heap.size ≤ g → Below w.heap.size w w' → Made g w' → K (a.put o.dst (.slice (some ⟨g, 0, none⟩) 4 4)) w') : o.wp Try.prog a w K Q := by
  have hrun := run_make_row' (P := Try.prog) 29 5 (.int .u8 0) 1 Try.underlying29 infoU8 rfl .i64 .i64 4 (by omega) (by omega) w
  have hrun' : (Instr.makeSlice 29 (.int .i64 4) (.int .i64 4)).run Try.prog w = .ok (.slice (some ⟨w.heap.size, 0, none⟩) 4 4) (w.alloc (.cells (madeCells #[.int .u8 0] 4) 5)) := hrun
  unfold Oper.wp
  simp only [execOp, ho, Act.eval, Sem.run_bind, hrun', Result.andThen_ok, Sem.run_pure]
  exact h _ _ (Nat.le_refl _) ((Below.refl _ _).alloc (Nat.le_refl _) _) (heap_alloc_new w _)

theorem wpAnyH_two {P : Program} {md : Region.Mode} {ops : Array Oper} {Q : Exit → Act → World → Prop} {S : World → Prop} {fuel : Nat} {listed : Array Bool} {a : Act} {w : World} (i j : Nat) (oi oj : Oper) (hi : ops[i]? = some oi) (hj : ops[j]? = some oj) (hr : Region.ready md ops listed = [i, j])
    (hwi : Region.wanted oi (yielded ops a.tmps) = true) (hwj : Region.wanted oj (yielded ops a.tmps) = true)
    (h1 : ∀ K : Act → World → Prop, (∀ a' w', S w' → wpAnyH P md ops Q S fuel (listed.setIfInBounds i true) a' w' → K a' w') → Oper.wp P oi a w K Q)
    (h2 : ∀ K : Act → World → Prop, (∀ a' w', S w' → wpAnyH P md ops Q S fuel (listed.setIfInBounds j true) a' w' → K a' w') → Oper.wp P oj a w K Q) : wpAnyH P md ops Q S (fuel + 1) listed a w := by
  refine wpAnyH_all hr (by simp) (fun k hk => ?_)
  unfold wpOp
  rcases (by simpa using hk : k = i ∨ k = j) with rfl | rfl
  · simp only [hi, hwi, if_true]
    exact .inl (h1 _ fun _ _ h1 h2 => ⟨h1, h2⟩)
  · simp only [hj, hwj, if_true]
    exact .inl (h2 _ fun _ _ h1 h2 => ⟨h1, h2⟩)
end Go.Proofs.Ytmbhfmipmadjpaa
