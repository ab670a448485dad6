/-
  pdu.fields: what a header tells but lengths.
-/
import Derived.Test.YtakejggofghblaaPdEnds
set_option linter.unusedSimpArgs false
set_option linter.unusedVariables false
namespace Go.Proofs.Ytakejggofghblaa
open Go.RowKit Sh Cr Pd

theorem cutK {K G : Prop} (walk : K → G) (pf : K) : G := walk pf
theorem wpAnyH_two {P : Program} {md : Region.Mode} {ops : Array Oper} {Q : Exit → Act → World → Prop} {S : World → Prop} {fuel : Nat} {listed : Array Bool} {a : Act} {w : World} (i j : Nat) (oi oj : Oper) (hi : ops[i]? = some oi) (hj : ops[j]? = some oj) (hr : Region.ready md ops listed = [i, j])
    (hwi : Region.wanted oi (yielded ops a.tmps) = true) (hwj : Region.wanted oj (yielded ops a.tmps) = true)
    (h1 : ∀ K : Act → World → Prop, (∀ a' w', S w' → wpAnyH P md ops Q S fuel (listed.setIfInBounds i true) a' w' → K a' w') → Oper.wp P oi a w K Q)
    (h2 : ∀ K : Act → World → Prop, (∀ a' w', S w' → wpAnyH P md ops Q S fuel (listed.setIfInBounds j true) a' w' → K a' w') → Oper.wp P oj a w K Q) : wpAnyH P md ops Q S (fuel + 1) listed a w := by
  refine wpAnyH_all hr (by simp) (fun k hk => ?_)
  unfold wpOp
  rcases (by simpa using hk : k = i ∨ k = j) with rfl | rfl
  · simp only [hi, hwi, if_true]
    exact .inl (h1 _ fun _ _ h1 h2 => ⟨h1, h2⟩)
  · simp only [hj, hwj, if_true]
    exact .inl (h2 _ fun _ _ h1 h2 => ⟨h1, h2⟩)
set_option maxRecDepth 100000 in
theorem and63 (c : UInt8) : bits .and .u8 (bz c) 63 = ((c.toNat % 64 : Nat) : Int) := by
  have h : ∀ n : Fin 256, bits .and .u8 (n.1 : Int) 63 = ((n.1 % 64 : Nat) : Int) := by decide
  exact h ⟨c.toNat, c.toNat_lt⟩
set_option maxRecDepth 100000 in
theorem and64 (c : UInt8) : bits .and .u8 (bz c) 64 = if 64 ≤ c.toNat % 128 then 64 else 0 := by
  have h : ∀ n : Fin 256, bits .and .u8 (n.1 : Int) 64 = if 64 ≤ n.1 % 128 then 64 else 0 := by decide
  exact h ⟨c.toNat, c.toNat_lt⟩
/-- What has been read of the words. -/
def fK (B : List UInt8) (k : Nat) : P := { fieldsB B with ws := (List.range 7).map fun i => if i < k then beL ((B.drop (20 + 4 * i)).take 4) else 0 }
theorem fK_seven (B : List UInt8) : fK B 7 = fieldsB B := by
  unfold fK fieldsB
  congr 1
theorem fK_set (B : List UInt8) (k : Nat) (hk : k < 7) (av dv : Value) : ((fK B k).cs av dv).setIfInBounds (8 + k) (.int .u32 (beL ((B.drop (20 + 4 * k)).take 4) : Nat)) = (fK B (k + 1)).cs av dv := by
  rcases (by omega : k = 0 ∨ k = 1 ∨ k = 2 ∨ k = 3 ∨ k = 4 ∨ k = 5 ∨ k = 6) with rfl | rfl | rfl | rfl | rfl | rfl | rfl <;> rfl
def zP : Array Value := #[.int .i64 0, .bool false, .int .u8 0, .int .u8 0, .int .u8 0, .slice none 0 0, .int .u64 0, .int .u32 0, .int .u32 0, .int .u32 0, .int .u32 0, .int .u32 0, .int .u32 0, .int .u32 0, .int .u32 0, .slice none 0 0]
theorem zP_eq : zP = ({} : P).cs (.slice none 0 0) (.slice none 0 0) := rfl
theorem allocPdu (w : World) : (Instr.alloc 28 true (.tuple #[])).run Try.prog w = .ok (.pointer (some ⟨w.heap.size, 0, none⟩)) (w.alloc (.cells zP 28)) := by kernel_rfl
structure FdI (w : World) (cs : Array Value) (W : World) : Prop where
  h0 : W.heap[w.heap.size]? = some (.cells zP 28 (0, 0))
  h1 : W.heap[w.heap.size + 1]? = some (.cells cs 28 (0, 0))
  hb : Below w.heap.size w W
theorem FdI.set {w W : World} {cs : Array Value} (h : FdI w cs W) (i : Nat) (v : Value) : FdI w (cs.setIfInBounds i v) (W.setCell ⟨w.heap.size + 1, i, none⟩ v) := by
  refine ⟨?_, ?_, h.hb.setCell (p := ⟨w.heap.size + 1, i, none⟩) (by show w.heap.size ≤ w.heap.size + 1; omega) _⟩
  · exact ((grown_set W (w.heap.size + 1) i _).block _ (Array.getElem?_eq_some_iff.1 h.h0).1 (by simp)).trans h.h0
  · simp [World.setCell, Array.getElem?_modify, h.h1]
theorem builtF (op : Int) (im : Bool) (f s t x y : Int) : Try.prog.built 28 [(0, .int .i64 op), (1, .bool im), (2, .int .u8 f), (3, .agg #[.int .u8 s, .int .u8 t]), (5, .int .u64 x), (6, .int .u32 y)] =
    some #[.int .i64 op, .bool im, .int .u8 f, .int .u8 s, .int .u8 t, .slice none 0 0, .int .u64 x, .int .u32 y, .int .u32 0, .int .u32 0, .int .u32 0, .int .u32 0, .int .u32 0, .int .u32 0, .int .u32 0, .slice none 0 0] := by kernel_rfl
def FldP (w : World) (B : List UInt8) (e : Ending) (w' : World) : Prop := e = .returned (.agg ((fieldsB B).cs (.slice none 0 0) (.slice none 0 0))) ∧ Below w.heap.size w w'
end Go.Proofs.Ytakejggofghblaa
