/-
  The reference's Same, of two PDUs that are one.
-/
import Derived.Test.YtakejggofghblaaPdNext
set_option linter.unusedSimpArgs false
set_option linter.unusedVariables false
namespace Go.Proofs.Ytakejggofghblaa
open Go.RowKit Sh Cr Pd

theorem run_eql_nums {P : Program} (T E : TypeId) (n : Nat) (K : IntKind) (hT : P.underlying T = some (.array n E)) (hE : P.underlying E = some (.int K)) (hs : (P.info? E).map (·.size) = some 1)
    (l : List Int) (h1 : l.length = n) (w : World) :
    (binOp .eql T (.agg (l.map (Value.int K)).toArray) (.agg (l.map (Value.int K)).toArray)).run P w = .ok (.bool true) w := by
  have hagg : (isAgg E).run P w = .ok false w := by
    unfold isAgg
    rw [Sem.run_bind, run_underlying hE w]
    rfl
  obtain ⟨i0, hi, hi1⟩ : ∃ i, P.info? E = some i ∧ i.size = 1 := by
    cases hq : P.info? E with
    | none => simp [hq] at hs
    | some i => exact ⟨i, rfl, by simpa [hq] using hs⟩
  have hp : ∀ k, k < n → (part E (l.map (Value.int K)).toArray k).run P w = .ok (.int K (l.getD k 0)) w := fun k hk => by
    have hk' : k < l.length := by omega
    have hv : (l.map (Value.int K)).toArray[k]? = some (.int K (l.getD k 0)) := by
      rw [List.getElem?_toArray, List.getElem?_map, List.getElem?_eq_getElem hk', List.getD_eq_getElem?_getD, List.getElem?_eq_getElem hk']; rfl
    unfold part
    rw [Sem.run_bind, hagg]
    simp only [Result.andThen_ok, hv, Bool.false_eq_true, if_false]
    simp
  have hitems : ∀ (d : Nat) (is : List Nat), (∀ k ∈ is, k < n) → (Op.eqItems (d + 1) E 1 (l.map (Value.int K)).toArray (l.map (Value.int K)).toArray is).run P w = .ok true w := fun d is => by
    induction is with
    | nil => intro _; simp [Op.eqItems]
    | cons k is ih =>
      intro h
      have hk := h k (by simp)
      have ih' := ih (fun j hj => h j (by simp [hj]))
      simp only [Op.eqItems, Nat.mul_one, Sem.run_bind, hp k hk, Result.andThen_ok, run_equalIn_int w d E K K (l.getD k 0) (l.getD k 0) hE]
      simpa using ih'
  have hc : P.cellsOf E = 1 := by simp [Program.cellsOf, hi, hi1]
  rw [run_eql_struct, run_equalIn_array w 9999 _ _ hT hi, hc, hitems 9998 _ (fun k hk => by simpa using hk)]
  rfl
theorem loadW {w : World} {g : Nat} {p : P} {av dv : Value} (h : BxP w g p av dv) : (Instr.loadAt 26 (.pointer (some ⟨g, 8, none⟩))).run Try.prog w = .ok (.agg #[.int .u32 (p.w 0 : Int), .int .u32 (p.w 1 : Int), .int .u32 (p.w 2 : Int), .int .u32 (p.w 3 : Int), .int .u32 (p.w 4 : Int), .int .u32 (p.w 5 : Int), .int .u32 (p.w 6 : Int)]) w :=
  run_loadAt_mid w g 8 26 [.int .u32 (p.w 0 : Int), .int .u32 (p.w 1 : Int), .int .u32 (p.w 2 : Int), .int .u32 (p.w 3 : Int), .int .u32 (p.w 4 : Int), .int .u32 (p.w 5 : Int), .int .u32 (p.w 6 : Int)] _ (fun j v hv => by
    have hj : j < 7 := lt_of_get hv
    have h7 : j = 0 ∨ j = 1 ∨ j = 2 ∨ j = 3 ∨ j = 4 ∨ j = 5 ∨ j = 6 := by omega
    rcases h7 with rfl | rfl | rfl | rfl | rfl | rfl | rfl <;> (injection hv with hv; subst hv; exact h.cell _ _ rfl)) Try.underlying26 rfl (by kernel_rfl)
theorem loadS {w : World} {g : Nat} {p : P} {av dv : Value} (h : BxP w g p av dv) : (Instr.loadAt 22 (.pointer (some ⟨g, 3, none⟩))).run Try.prog w = .ok (.agg #[.int .u8 (bz p.s0), .int .u8 (bz p.s1)]) w :=
  run_loadAt_mid w g 3 22 [.int .u8 (bz p.s0), .int .u8 (bz p.s1)] _ (fun j v hv => by
    have hj : j < 2 := lt_of_get hv
    have h7 : j = 0 ∨ j = 1 := by omega
    rcases h7 with rfl | rfl <;> (injection hv with hv; subst hv; exact h.cell _ _ rfl)) Try.underlying22 rfl info2
theorem eqlS (p : P) (w : World) : (binOp .eql 22 (.agg #[.int .u8 (bz p.s0), .int .u8 (bz p.s1)]) (.agg #[.int .u8 (bz p.s0), .int .u8 (bz p.s1)])).run Try.prog w = .ok (.bool true) w :=
  run_eql_nums (P := Try.prog) 22 5 2 .u8 Try.underlying22 Try.underlying5 (by kernel_rfl) [bz p.s0, bz p.s1] rfl w
theorem eqlW (p : P) (w : World) : (binOp .eql 26 (.agg #[.int .u32 (p.w 0 : Int), .int .u32 (p.w 1 : Int), .int .u32 (p.w 2 : Int), .int .u32 (p.w 3 : Int), .int .u32 (p.w 4 : Int), .int .u32 (p.w 5 : Int), .int .u32 (p.w 6 : Int)]) (.agg #[.int .u32 (p.w 0 : Int), .int .u32 (p.w 1 : Int), .int .u32 (p.w 2 : Int), .int .u32 (p.w 3 : Int), .int .u32 (p.w 4 : Int), .int .u32 (p.w 5 : Int), .int .u32 (p.w 6 : Int)])).run Try.prog w = .ok (.bool true) w :=
  run_eql_nums (P := Try.prog) 26 25 7 .u32 Try.underlying26 Try.underlying25 (by kernel_rfl) [(p.w 0 : Int), (p.w 1 : Int), (p.w 2 : Int), (p.w 3 : Int), (p.w 4 : Int), (p.w 5 : Int), (p.w 6 : Int)] rfl w
set_option maxRecDepth 100000 in
set_option maxHeartbeats 8000000 in
theorem same_any (p : P) (cs1 cs2 : Array Value) (w : World) (h1 : PduV w p cs1) (h2 : PduV w p cs2) : Calls Try.prog 18 #[.agg cs1, .agg cs2] w (SayPost true w) := by
  obtain ⟨ap1, ac1, dp1, dc1, e1, ha1, hd1⟩ := h1
  obtain ⟨ap2, ac2, dp2, dc2, e2, ha2, hd2⟩ := h2
  have hb1 : Below w.heap.size w (w.alloc (.cells cs1 28)) := (Below.refl _ w).alloc (Nat.le_refl _) _
  have hb2 : Below w.heap.size w ((w.alloc (.cells cs1 28)).alloc (.cells cs2 28)) := hb1.alloc (by simp) _
  have x1 : BxP ((w.alloc (.cells cs1 28)).alloc (.cells cs2 28)) w.heap.size p (.slice ap1 p.ahs.length ac1) (.slice dp1 p.data.length dc1) := by
    unfold BxP; rw [Below.heap_alloc _ _ _ (by simp), ← e1]; exact heap_alloc_new w _
  have x2 : BxP ((w.alloc (.cells cs1 28)).alloc (.cells cs2 28)) (w.heap.size + 1) p (.slice ap2 p.ahs.length ac2) (.slice dp2 p.data.length dc2) := by
    have := heap_alloc_new (w.alloc (.cells cs1 28)) (.cells cs2 28)
    rw [World.size_alloc] at this; unfold BxP; rw [← e2]; exact this
  have sa1 := (ha1.below hb2).str
  have sd1 := (hd1.below hb2).str
  have sa2 := (ha2.below hb2).str
  have sd2 := (hd2.below hb2).str
  have HB := Lib.hid hb2
  have X1 := Lib.hid x1; have X2 := Lib.hid x2
  clear hb1 hb2 ha1 hd1 ha2 hd2 e1 e2 x1 x2
  have a0 := X1.out.cell 0 (.int .i64 p.op) rfl
  have a1 := X1.out.cell 1 (.bool p.imm) rfl
  have a2 := X1.out.cell 2 (.int .u8 (bz p.fl)) rfl
  have a5 := X1.out.cell 5 (.slice ap1 p.ahs.length ac1) rfl
  have a6 := X1.out.cell 6 (.int .u64 (p.lun : Int)) rfl
  have a7 := X1.out.cell 7 (.int .u32 (p.tag : Int)) rfl
  have a15 := X1.out.cell 15 (.slice dp1 p.data.length dc1) rfl
  have b0 := X2.out.cell 0 (.int .i64 p.op) rfl
  have b1 := X2.out.cell 1 (.bool p.imm) rfl
  have b2 := X2.out.cell 2 (.int .u8 (bz p.fl)) rfl
  have b5 := X2.out.cell 5 (.slice ap2 p.ahs.length ac2) rfl
  have b6 := X2.out.cell 6 (.int .u64 (p.lun : Int)) rfl
  have b7 := X2.out.cell 7 (.int .u32 (p.tag : Int)) rfl
  have b15 := X2.out.cell 15 (.slice dp2 p.data.length dc2) rfl
  have a3 := X1.out.cell 3 (.int .u8 (bz p.s0)) rfl
  have a4 := X1.out.cell 4 (.int .u8 (bz p.s1)) rfl
  have a8 := X1.out.cell 8 (.int .u32 (p.w 0 : Int)) rfl
  have a9 := X1.out.cell 9 (.int .u32 (p.w 1 : Int)) rfl
  have a10 := X1.out.cell 10 (.int .u32 (p.w 2 : Int)) rfl
  have a11 := X1.out.cell 11 (.int .u32 (p.w 3 : Int)) rfl
  have a12 := X1.out.cell 12 (.int .u32 (p.w 4 : Int)) rfl
  have a13 := X1.out.cell 13 (.int .u32 (p.w 5 : Int)) rfl
  have a14 := X1.out.cell 14 (.int .u32 (p.w 6 : Int)) rfl
  have b3 := X2.out.cell 3 (.int .u8 (bz p.s0)) rfl
  have b4 := X2.out.cell 4 (.int .u8 (bz p.s1)) rfl
  have b8 := X2.out.cell 8 (.int .u32 (p.w 0 : Int)) rfl
  have b9 := X2.out.cell 9 (.int .u32 (p.w 1 : Int)) rfl
  have b10 := X2.out.cell 10 (.int .u32 (p.w 2 : Int)) rfl
  have b11 := X2.out.cell 11 (.int .u32 (p.w 3 : Int)) rfl
  have b12 := X2.out.cell 12 (.int .u32 (p.w 4 : Int)) rfl
  have b13 := X2.out.cell 13 (.int .u32 (p.w 5 : Int)) rfl
  have b14 := X2.out.cell 14 (.int .u32 (p.w 6 : Int)) rfl
  have qS := eqlS p
  have qW := eqlW p
  go_enter Try.func18, Try.ntmps18
  go_upto_region 1 with (fail)
  generalize (w.alloc (.cells cs1 28)).alloc (.cells cs2 28) = w1 at *
  go_wp2
  go_ret
  exact ⟨rfl, HB.out⟩
end Go.Proofs.Ytakejggofghblaa
