/-
  law 12: stands.
-/
import Derived.Test.YtehhhbehclpkbaaCdTop
set_option linter.unusedSimpArgs false
set_option linter.unusedVariables false
namespace Go.Proofs.Ytehhhbehclpkbaa
open Go.RowKit Sh Cd

theorem exec_build {P : Program} {o : Oper} {ρ : Operand → Value} (w : World) {t : TypeId} {parts : Array (Nat × Operand)} (_h : o.op = .build t parts) {cells : Array Value} (hb : P.built t (parts.map fun (i, x) => (i, ρ x)).toList = some cells) :
    (execOp ρ o).run P w = .ok (.value (.agg cells)) w := by
  unfold execOp
  simp only [_h, Sem.run_bind, run_build w t _ cells hb, Result.andThen_ok, Sem.run_pure]
theorem wpList_val {P : Program} {ops : Array Oper} {Q : Exit → Act → World → Prop} {a : Act} {w : World} {o : Oper} {rest : List Oper} (hw : Region.wanted o (yielded ops a.tmps) = true) {v : Value} (hrun : (execOp a.eval o).run P w = .ok (.value v) w)
    (h : wpList P ops Q rest (a.put o.dst v) w) : wpList P ops Q (o :: rest) a w := by
  unfold wpList
  rw [if_pos hw]
  left
  unfold Oper.wp
  rw [hrun]
  exact h
theorem wpList_buildP {P : Program} {ops : Array Oper} {Q : Exit → Act → World → Prop} {a : Act} {w : World} {o : Oper} {rest : List Oper} (t : TypeId) (parts : Array (Nat × Operand)) (ho : o.op = .build t parts) (cs : Array Value)
    (hb : P.built t (parts.map fun (i, x) => (i, a.eval x)).toList = some cs) (hw : Region.wanted o (yielded ops a.tmps) = true) (h : wpList P ops Q rest (a.put o.dst (.agg cs)) w) : wpList P ops Q (o :: rest) a w :=
  wpList_val hw (exec_build w ho hb) h
def TkG (cs : Array Value) (c : Int) (w : World) (e : Ending) (w' : World) : Prop := e = .returned (.tuple #[.agg cs, .int .i64 c]) ∧ Below w.heap.size w w'
theorem stepB {w w1 w2 : World} (h : Below w.heap.size w w1) (hb : Below w1.heap.size w1 w2) : Below w.heap.size w w2 := h.trans (hb.mono h.size)
def TrueP (w : World) (e : Ending) (w' : World) : Prop := e = .returned (.bool true) ∧ Below w.heap.size w w'
set_option maxRecDepth 100000 in
theorem stands_one (W : World) : Calls Try.prog 10 #[.agg #[.int .u8 40, .int .u8 0, .int .u8 0, .int .u8 0, .int .u8 0, .int .u8 5, .int .u8 0, .int .u8 0, .int .u8 2, .int .u8 0, .int .u8 0, .int .u8 0, .int .u8 0, .int .u8 0, .int .u8 0, .int .u8 0]] W (TkG #[.int .i64 6, .int .u64 5, .int .u64 2, .bool false, .bool false, .int .i64 0, .int .i64 0, .int .i64 0, .int .i64 128, .int .i64 0, .int .i64 0, .bool false] 0 W) := Decode_any [40, 0, 0, 0, 0, 5, 0, 0, 2, 0, 0, 0, 0, 0, 0, 0] rfl W
set_option maxRecDepth 100000 in
theorem stands_two (W : World) : Calls Try.prog 10 #[.agg #[.int .u8 255, .int .u8 0, .int .u8 0, .int .u8 0, .int .u8 0, .int .u8 0, .int .u8 0, .int .u8 0, .int .u8 0, .int .u8 0, .int .u8 0, .int .u8 0, .int .u8 0, .int .u8 0, .int .u8 0, .int .u8 0]] W (TkG #[.int .i64 0, .int .u64 0, .int .u64 0, .bool false, .bool false, .int .i64 0, .int .i64 0, .int .i64 0, .int .i64 0, .int .i64 0, .int .i64 0, .bool false] 8192 W) := Decode_any [255, 0, 0, 0, 0, 0, 0, 0, 0, 0, 0, 0, 0, 0, 0, 0] rfl W
set_option maxRecDepth 100000 in
set_option maxHeartbeats 4000000 in
theorem stands_any (w : World) : Calls Try.prog 7 #[] w (TrueP w) := by
  have K1 := Lib.hid stands_one
  have K2 := Lib.hid stands_two
  obtain ⟨cs, Hcs⟩ : ∃ cs : Array Value, Hid (cs = #[.int .i64 6, .int .u64 5, .int .u64 2, .bool false, .bool false, .int .i64 0, .int .i64 0, .int .i64 0, .int .i64 128, .int .i64 0, .int .i64 0, .bool false]) := ⟨_, Lib.hid rfl⟩
  have hci : Hid ((Try.prog.info? 25).map (·.size) = some cs.size) := Lib.hid (by rw [Hcs.out]; exact infoTk)
  have heq : ∀ W, (binOp .eql 25 (.agg cs) (.agg cs)).run Try.prog W = .ok (.bool true) W := task_refl cs { op := 6, lba := 5, blk := 2, all := 128 } Hcs.out
  have Heq := Lib.hid heq
  have HBd : Hid (Try.prog.built 25 [(0, .int .i64 6), (1, .int .u64 5), (2, .int .u64 2), (8, .int .i64 128)] = some cs) := Lib.hid (by rw [Hcs.out]; kernel_rfl)
  clear heq
  go_enter Try.func7, Try.ntmps7
  go_upto_region 2 with (go_at_call 10; refine (K1.out _).mono ?_; rintro e w1 ⟨rfl, hb1⟩; have Hb1 := Lib.hid hb1; clear hb1)
  have Hx1 : Hid ((w1.alloc (.cells #[.int .i64 6, .int .u64 5, .int .u64 2, .bool false, .bool false, .int .i64 0, .int .i64 0, .int .i64 0, .int .i64 128, .int .i64 0, .int .i64 0, .bool false] 25)).heap[w1.heap.size]? = some (.cells cs 25 (0, 0))) := Lib.hid (by rw [Hcs.out]; exact heap_alloc_new w1 _)
  have hl : w1.heap.size < (w1.alloc (.cells #[.int .i64 6, .int .u64 5, .int .u64 2, .bool false, .bool false, .int .i64 0, .int .i64 0, .int .i64 0, .int .i64 128, .int .i64 0, .int .i64 0, .bool false] 25)).heap.size := by simp
  have Hb2 : Hid (Below w.heap.size w (w1.alloc (.cells #[.int .i64 6, .int .u64 5, .int .u64 2, .bool false, .bool false, .int .i64 0, .int .i64 0, .int .i64 0, .int .i64 128, .int .i64 0, .int .i64 0, .bool false] 25))) := Lib.hid (Hb1.out.alloc Hb1.out.size _)
  generalize w1.alloc (.cells #[.int .i64 6, .int .u64 5, .int .u64 2, .bool false, .bool false, .int .i64 0, .int .i64 0, .int .i64 0, .int .i64 128, .int .i64 0, .int .i64 0, .bool false] 25) = w2 at Hx1 Hb2 hl ⊢
  have Hl := Lib.hid hl; clear hl
  go_upto_region 3 with (go_at_call 10; refine (K2.out _).mono ?_; rintro e w3 ⟨rfl, hb3⟩; have Hb3 := Lib.hid hb3; have Hx3 : Hid (w3.heap[w1.heap.size]? = some (.cells cs 25 (0, 0))) := Lib.hid ((hb3.block _ Hl.out).trans Hx1.out); clear hb3)
  have Hx4 : Hid ((w3.alloc (.cells #[.int .i64 0, .int .u64 0, .int .u64 0, .bool false, .bool false, .int .i64 0, .int .i64 0, .int .i64 0, .int .i64 0, .int .i64 0, .int .i64 0, .bool false] 25)).heap[w1.heap.size]? = some (.cells cs 25 (0, 0))) := Lib.hid (by rw [Below.heap_alloc _ _ _ (Array.getElem?_eq_some_iff.1 Hx3.out).1]; exact Hx3.out)
  have Hb4 : Hid (Below w.heap.size w (w3.alloc (.cells #[.int .i64 0, .int .u64 0, .int .u64 0, .bool false, .bool false, .int .i64 0, .int .i64 0, .int .i64 0, .int .i64 0, .int .i64 0, .int .i64 0, .bool false] 25))) := Lib.hid ((stepB Hb2.out Hb3.out).alloc (stepB Hb2.out Hb3.out).size _)
  generalize w3.alloc (.cells #[.int .i64 0, .int .u64 0, .int .u64 0, .bool false, .bool false, .int .i64 0, .int .i64 0, .int .i64 0, .int .i64 0, .int .i64 0, .int .i64 0, .bool false] 25) = w4 at Hx4 Hb4 ⊢
  have heq := Heq.out
  have HLD := Lib.hid (load_task Hx4.out hci.out)
  go_wp2_with (first
    | (refine wpList_val (by rfl) (exec_load _ _ 25 _ rfl w1.heap.size 0 rfl cs HLD.out) ?_)
    | (refine wpList_buildP 25 _ rfl cs (Eq.trans (congrArg (Program.built _ _) (by simp [Act.eval, Act.put])) HBd.out) (by rfl) ?_))
  go_ret
  exact ⟨rfl, Hb4.out⟩
end Go.Proofs.Ytehhhbehclpkbaa
