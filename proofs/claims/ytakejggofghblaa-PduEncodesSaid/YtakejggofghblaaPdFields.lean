/-
  pdu.fields: the walk.
-/
import Derived.Test.YtakejggofghblaaPdFld
set_option linter.unusedSimpArgs false
set_option linter.unusedVariables false
namespace Go.Proofs.Ytakejggofghblaa
open Go.RowKit Sh Cr Pd

theorem wp_alloc_arr {P : Program} {o : Oper} {a : Act} {w : World} {K : Act → World → Prop} {Q : Exit → Act → World → Prop} (ty : TypeId) (ho : o.op = .alloc ty) (cells : Array Value)
    (hal : ∀ w : World, (Instr.alloc ty true (.tuple #[])).run P w = .ok (.pointer (some ⟨w.heap.size, 0, none⟩)) (w.alloc (.cells cells ty)))
    (h : K (a.put o.dst (.pointer (some ⟨w.heap.size, 0, none⟩))) (w.alloc (.cells cells ty))) : o.wp P a w K Q := by
  unfold Oper.wp execOp
  simp only [ho, Sem.run_bind, hal w, Result.andThen_ok, Sem.run_pure]
  exact h
theorem wp_store_new {P : Program} {o : Oper} {a : Act} {w : World} {K : Act → World → Prop} {Q : Exit → Act → World → Prop} (ty : TypeId) (x y : Operand) (ho : o.op = .store ty x y)
    (n : Nat) (hn : w.heap.size = n) (cells : Array Value) (hx : a.eval x = .pointer (some ⟨n, 0, none⟩)) (hy : a.eval y = .agg cells) (t : TypeId) (old : Array Value) (hi : (P.info? ty).map (·.size) = some cells.size)
    (hold : old.size = cells.size) (h1 : cells.all (·.oneCell') = true) (h : K (a.put o.dst undef) (w.alloc (.cells cells t))) : o.wp P a (w.alloc (.cells old t)) K Q := by
  subst hn
  have hg := heap_alloc_new w (.cells old t)
  have hst := run_storeCells_at P w.heap.size 0 t cells.toList 0 old (w.alloc (.cells old t)) hg (by simp; omega) (fun v hv => by rw [Array.all_eq_true'] at h1; exact h1 v (by simpa using hv))
  have hsp : (old.toList.take 0 ++ cells.toList ++ old.toList.drop (0 + cells.toList.length)).toArray = cells := by
    rw [List.drop_eq_nil_of_le (by simp; omega)]; simp
  have hrun : (storeVar ty ⟨w.heap.size, 0, none⟩ (.agg cells)).run P (w.alloc (.cells old t)) = .ok () (w.alloc (.cells cells t)) := by
    cases hq : P.info? ty with
    | none => simp [hq] at hi
    | some i =>
      have hs : cells.size = i.size := by simp [hq] at hi; omega
      simp only [Nat.add_zero, hsp] at hst
      rw [World.setRow_alloc_new] at hst
      simp [storeVar, sizeOf, typeInfo, hq, Value.cells, hs, hst]
  unfold Oper.wp execOp
  simp only [ho, hx, hy, Instr.storeAt, Instr.sureAddr, Sem.run_bind, Sem.run_pure, Result.andThen_ok, hrun]
  exact h
theorem info2 : (Try.prog.info? 22).map (·.size) = some 2 := by kernel_rfl
theorem load2 {N g o len cap : Nat} {B : List UInt8} {w : World} (hB : Bytes N w (some ⟨g, o, none⟩) len cap B) (h : 48 ≤ len) : (Instr.loadAt 22 (.pointer (some ⟨g, o + 2, none⟩))).run Try.prog w = .ok (.agg #[.int .u8 (bz (at8 B 2)), .int .u8 (bz (at8 B 3))]) w :=
  run_loadAt_mid w g (o + 2) 22 [.int .u8 (bz (at8 B 2)), .int .u8 (bz (at8 B 3))] _ (fun j v hv => by
    have hj : j < 2 := lt_of_get hv
    obtain rfl | rfl : j = 0 ∨ j = 1 := by omega
    · injection hv with hv; subst hv; exact hB.cell0 2 (by omega)
    · injection hv with hv; subst hv; exact hB.cell0 3 (by omega)) Try.underlying22 rfl info2
/-- What the drawn region keeps. -/
def FS (w : World) (W : World) : Prop := W.heap[w.heap.size]? = some (.cells zP 28 (0, 0)) ∧ Below w.heap.size w W
theorem FS_alloc {w W : World} {cs : Array Value} (h : FS w W) : FS w (W.alloc (.cells cs 28)) :=
  ⟨by rw [Below.heap_alloc _ _ _ (Array.getElem?_eq_some_iff.1 h.1).1]; exact h.1, h.2.alloc h.2.size _⟩
set_option maxRecDepth 100000 in
set_option maxHeartbeats 8000000 in
theorem fields_any {N g o len cap : Nat} {B : List UInt8} (w : World) (hB : Bytes N w (some ⟨g, o, none⟩) len cap B) (hN : N ≤ w.heap.size) (h48 : 48 ≤ len) :
    Calls Try.prog 42 #[.slice (some ⟨g, o, none⟩) len cap] w (FldP w B) := by
  have hr := hB.hroom
  have hm := hB.hmax
  unfold maxLen at hm
  have HB := Lib.hid hB
  have hb8 := Lib.hid (hB.sub 8 16 (by omega) (by omega) (by omega))
  have hb16 := Lib.hid (hB.sub 16 20 (by omega) (by omega) (by omega))
  have s2 : ∀ w : World, (Instr.sliceAt 23 (.slice (some ⟨g, o, none⟩) len cap) (some (.int .i64 2)) (some (.int .i64 4)) none).run Try.prog w = .ok (.slice (some ⟨g, o + 2, none⟩) 2 (cap - 2)) w := fun w => sub_slice g o len cap 2 4 (by omega) (by omega) (by omega) w
  have s8 : ∀ w : World, (Instr.sliceAt 23 (.slice (some ⟨g, o, none⟩) len cap) (some (.int .i64 8)) (some (.int .i64 16)) none).run Try.prog w = .ok (.slice (some ⟨g, o + 8, none⟩) 8 (cap - 8)) w := fun w => sub_slice g o len cap 8 16 (by omega) (by omega) (by omega) w
  have s16 : ∀ w : World, (Instr.sliceAt 23 (.slice (some ⟨g, o, none⟩) len cap) (some (.int .i64 16)) (some (.int .i64 20)) none).run Try.prog w = .ok (.slice (some ⟨g, o + 16, none⟩) 4 (cap - 16)) w := fun w => sub_slice g o len cap 16 20 (by omega) (by omega) (by omega) w
  obtain ⟨c2, hc2⟩ : ∃ c2, Hid (cap - 2 = c2) := ⟨_, Lib.hid rfl⟩
  obtain ⟨c8, hc8⟩ : ∃ c8, Hid (cap - 8 = c8) := ⟨_, Lib.hid rfl⟩
  obtain ⟨c16, hc16⟩ : ∃ c16, Hid (cap - 16 = c16) := ⟨_, Lib.hid rfl⟩
  rw [hc2.out] at s2
  rw [hc8.out] at s8 hb8
  rw [hc16.out] at s16 hb16
  have s3 : ∀ w : World, (Instr.arrayAt 22 (.slice (some ⟨g, o + 2, none⟩) 2 c2)).run Try.prog w = .ok (.pointer (some ⟨g, o + 2, none⟩)) w := fun w => by kernel_rfl
  obtain ⟨lu, hlu⟩ : ∃ lu, Hid (beL ((B.drop 8).take 8) = lu) := ⟨_, Lib.hid rfl⟩
  obtain ⟨tg, htg⟩ : ∃ tg, Hid (beL ((B.drop 16).take 4) = tg) := ⟨_, Lib.hid rfl⟩
  have htl : tg < 4294967296 := by
    rw [← htg.out]
    refine Nat.lt_of_lt_of_le (beL_lt _) (Nat.le_trans (Nat.pow_le_pow_right (by omega) (List.length_take_le _ _)) (by decide))
  have HN1 : Hid (∀ W, Below w.heap.size w W → Calls Try.prog 47 #[.slice (some ⟨g, o + 8, none⟩) 8 c8] W fun e w' => e = .returned (.int .u64 (lu : Int)) ∧ W = w') := Lib.hid (fun W hW => by rw [← hlu.out]; exact number_any (hb8.out.below (hW.mono hN)) (by omega))
  have HN2 : Hid (∀ W, Below w.heap.size w W → Calls Try.prog 47 #[.slice (some ⟨g, o + 16, none⟩) 4 c16] W fun e w' => e = .returned (.int .u64 (tg : Int)) ∧ W = w') := Lib.hid (fun W hW => by rw [← htg.out]; exact number_any (hb16.out.below (hW.mono hN)) (by omega))
  have htw : IntKind.u32.wrap (tg : Int) = (tg : Int) := by rw [IntKind.wrap_u32]; omega
  obtain ⟨b0, hb0⟩ : ∃ b0, Hid (at8 B 0 = b0) := ⟨_, Lib.hid rfl⟩
  obtain ⟨q6, hq6⟩ : ∃ q6, Hid (b0.toNat % 64 = q6) := ⟨_, Lib.hid rfl⟩
  obtain ⟨im, him⟩ : ∃ im, Hid (decide (64 ≤ b0.toNat % 128) = im) := ⟨_, Lib.hid rfl⟩
  obtain ⟨v64, hv64⟩ : ∃ v64 : Int, Hid ((if 64 ≤ b0.toNat % 128 then 64 else 0) = v64) := ⟨_, Lib.hid rfl⟩
  have ha63 := and63 b0
  have ha64 := and64 b0
  rw [hq6.out] at ha63
  rw [hv64.out] at ha64
  have hne : (v64 != 0) = im := by
    rw [← him.out, ← hv64.out]
    by_cases h : 64 ≤ b0.toNat % 128
    · rw [if_pos h, decide_eq_true h]; rfl
    · rw [if_neg h, decide_eq_false h]; rfl
  have hq64 : q6 < 64 := by rw [← hq6.out]; omega
  have hqw : IntKind.i64.wrap (q6 : Int) = (q6 : Int) := IntWalk.i64_in _ (by omega)
  have hbu := builtF q6 im (bz (at8 B 1)) (bz (at8 B 2)) (bz (at8 B 3)) lu tg
  obtain ⟨cs, hcs⟩ : ∃ cs : Array Value, Hid (cs = #[.int .i64 (q6 : Int), .bool im, .int .u8 (bz (at8 B 1)), .int .u8 (bz (at8 B 2)), .int .u8 (bz (at8 B 3)), .slice none 0 0, .int .u64 (lu : Int), .int .u32 (tg : Int), .int .u32 0, .int .u32 0, .int .u32 0, .int .u32 0, .int .u32 0, .int .u32 0, .int .u32 0, .slice none 0 0]) := ⟨_, Lib.hid rfl⟩
  rw [← hcs.out] at hbu
  have hci : (Try.prog.info? 28).map (·.size) = some cs.size := by rw [hcs.out]; exact infoPdu
  have hc1 : Hid (cs.all (·.oneCell') = true) := Lib.hid (by rw [hcs.out]; simp [Value.oneCell'])
  have hcF : Hid (cs = (fK B 0).cs (.slice none 0 0) (.slice none 0 0)) := Lib.hid (by
    rw [hcs.out, ← hq6.out, ← him.out, ← hlu.out, ← htg.out, ← hb0.out]; rfl)
  have l0 : (0 : Int) < len := by omega
  have l00 : 0 < len := by omega
  have l1 : (1 : Int) < len := by omega
  have hS0 : FS w (w.alloc (.cells zP 28)) := ⟨heap_alloc_new w _, (Below.refl _ w).alloc (Nat.le_refl _) _⟩
  have HS0 := Lib.hid hS0
  clear hB hS0
  go_enter Try.func42, Try.ntmps42
  go_upto_region 1 with (refine wpList_alloc_arr rfl 28 rfl _ allocPdu ?_)
  have hS := HS0.out
  clear HS0
  have hsz : (w.alloc (.cells zP 28)).heap.size = w.heap.size + 1 := by simp
  generalize w.alloc (.cells zP 28) = w1 at hS hsz ⊢
  refine wp_region_held (S := FS w) (by kernel_rfl) ?_
  change wpAnyH _ _ _ _ _ _ _ _ (World.drew _)
  replace hS : FS w w1.drew := ⟨hS.1, hS.2.drew⟩
  replace hsz : w1.drew.heap.size = w.heap.size + 1 := hsz
  generalize w1.drew = wd at hS hsz ⊢
  have HSZ := Lib.hid hsz; clear hsz
  refine wpAnyH_take (i := 0) (v := .slice (some ⟨g, o, none⟩) len cap) rfl (by kernel_rfl) (by kernel_rfl) (by kernel_rfl) (fun _ _ _ h => h) (Or.inl ⟨by rfl, ?_⟩) hS ?_
  · intro w _; go_simp
  try simp only [List.getElem_toArray, List.getElem_cons_succ, List.getElem_cons_zero, Act.put, List.setIfInBounds_toArray, List.set]
  refine wpAnyH_take (i := 1) (v := .pointer (some ⟨g, o, none⟩)) rfl (by kernel_rfl) (by kernel_rfl) (by kernel_rfl) (fun _ _ _ h => h) (Or.inl ⟨by rfl, ?_⟩) hS ?_
  · intro w _; go_simp
  try simp only [List.getElem_toArray, List.getElem_cons_succ, List.getElem_cons_zero, Act.put, List.setIfInBounds_toArray, List.set]
  refine wpAnyH_take (i := 2) (v := .int .u8 (bz b0)) rfl (by kernel_rfl) (by kernel_rfl) (by kernel_rfl) (fun _ _ _ h => h) (Or.inl ⟨by rfl, ?_⟩) hS ?_
  · intro w' hw; have c := ((HB.out.below (hw.2.mono hN)).cell0 0 (by omega)); rw [Nat.add_zero, hb0.out] at c; go_simp
  try simp only [List.getElem_toArray, List.getElem_cons_succ, List.getElem_cons_zero, Act.put, List.setIfInBounds_toArray, List.set]
  refine wpAnyH_take (i := 3) (v := .int .u8 (q6 : Int)) rfl (by kernel_rfl) (by kernel_rfl) (by kernel_rfl) (fun _ _ _ h => h) (Or.inl ⟨by rfl, ?_⟩) hS ?_
  · intro w _; go_simp
  try simp only [List.getElem_toArray, List.getElem_cons_succ, List.getElem_cons_zero, Act.put, List.setIfInBounds_toArray, List.set]
  refine wpAnyH_take (i := 4) (v := .int .i64 (q6 : Int)) rfl (by kernel_rfl) (by kernel_rfl) (by kernel_rfl) (fun _ _ _ h => h) (Or.inl ⟨by rfl, ?_⟩) hS ?_
  · intro w _; go_simp
  try simp only [List.getElem_toArray, List.getElem_cons_succ, List.getElem_cons_zero, Act.put, List.setIfInBounds_toArray, List.set]
  refine wpAnyH_take (i := 5) (v := .slice (some ⟨g, o, none⟩) len cap) rfl (by kernel_rfl) (by kernel_rfl) (by kernel_rfl) (fun _ _ _ h => h) (Or.inl ⟨by rfl, ?_⟩) hS ?_
  · intro w _; go_simp
  try simp only [List.getElem_toArray, List.getElem_cons_succ, List.getElem_cons_zero, Act.put, List.setIfInBounds_toArray, List.set]
  refine wpAnyH_take (i := 6) (v := .pointer (some ⟨g, o, none⟩)) rfl (by kernel_rfl) (by kernel_rfl) (by kernel_rfl) (fun _ _ _ h => h) (Or.inl ⟨by rfl, ?_⟩) hS ?_
  · intro w _; go_simp
  try simp only [List.getElem_toArray, List.getElem_cons_succ, List.getElem_cons_zero, Act.put, List.setIfInBounds_toArray, List.set]
  refine wpAnyH_take (i := 7) (v := .int .u8 (bz b0)) rfl (by kernel_rfl) (by kernel_rfl) (by kernel_rfl) (fun _ _ _ h => h) (Or.inl ⟨by rfl, ?_⟩) hS ?_
  · intro w' hw; have c := ((HB.out.below (hw.2.mono hN)).cell0 0 (by omega)); rw [Nat.add_zero, hb0.out] at c; go_simp
  try simp only [List.getElem_toArray, List.getElem_cons_succ, List.getElem_cons_zero, Act.put, List.setIfInBounds_toArray, List.set]
  refine wpAnyH_take (i := 8) (v := .int .u8 v64) rfl (by kernel_rfl) (by kernel_rfl) (by kernel_rfl) (fun _ _ _ h => h) (Or.inl ⟨by rfl, ?_⟩) hS ?_
  · intro w _; go_simp
  try simp only [List.getElem_toArray, List.getElem_cons_succ, List.getElem_cons_zero, Act.put, List.setIfInBounds_toArray, List.set]
  refine wpAnyH_take (i := 9) (v := .bool im) rfl (by kernel_rfl) (by kernel_rfl) (by kernel_rfl) (fun _ _ _ h => h) (Or.inl ⟨by rfl, ?_⟩) hS ?_
  · intro w _; go_simp
  try simp only [List.getElem_toArray, List.getElem_cons_succ, List.getElem_cons_zero, Act.put, List.setIfInBounds_toArray, List.set]
  refine wpAnyH_take (i := 10) (v := .slice (some ⟨g, o, none⟩) len cap) rfl (by kernel_rfl) (by kernel_rfl) (by kernel_rfl) (fun _ _ _ h => h) (Or.inl ⟨by rfl, ?_⟩) hS ?_
  · intro w _; go_simp
  try simp only [List.getElem_toArray, List.getElem_cons_succ, List.getElem_cons_zero, Act.put, List.setIfInBounds_toArray, List.set]
  refine wpAnyH_take (i := 11) (v := .pointer (some ⟨g, o + 1, none⟩)) rfl (by kernel_rfl) (by kernel_rfl) (by kernel_rfl) (fun _ _ _ h => h) (Or.inl ⟨by rfl, ?_⟩) hS ?_
  · intro w _; go_simp
  try simp only [List.getElem_toArray, List.getElem_cons_succ, List.getElem_cons_zero, Act.put, List.setIfInBounds_toArray, List.set]
  refine wpAnyH_take (i := 12) (v := .int .u8 (bz (at8 B 1))) rfl (by kernel_rfl) (by kernel_rfl) (by kernel_rfl) (fun _ _ _ h => h) (Or.inl ⟨by rfl, ?_⟩) hS ?_
  · intro w' hw; have c := ((HB.out.below (hw.2.mono hN)).cell0 1 (by omega)); go_simp
  try simp only [List.getElem_toArray, List.getElem_cons_succ, List.getElem_cons_zero, Act.put, List.setIfInBounds_toArray, List.set]
  refine wpAnyH_take (i := 13) (v := .slice (some ⟨g, o, none⟩) len cap) rfl (by kernel_rfl) (by kernel_rfl) (by kernel_rfl) (fun _ _ _ h => h) (Or.inl ⟨by rfl, ?_⟩) hS ?_
  · intro w _; go_simp
  try simp only [List.getElem_toArray, List.getElem_cons_succ, List.getElem_cons_zero, Act.put, List.setIfInBounds_toArray, List.set]
  refine wpAnyH_take (i := 14) (v := .slice (some ⟨g, o + 2, none⟩) 2 c2) rfl (by kernel_rfl) (by kernel_rfl) (by kernel_rfl) (fun _ _ _ h => h) (Or.inl ⟨by rfl, ?_⟩) hS ?_
  · intro w _; go_simp
  try simp only [List.getElem_toArray, List.getElem_cons_succ, List.getElem_cons_zero, Act.put, List.setIfInBounds_toArray, List.set]
  refine wpAnyH_take (i := 15) (v := .pointer (some ⟨g, o + 2, none⟩)) rfl (by kernel_rfl) (by kernel_rfl) (by kernel_rfl) (fun _ _ _ h => h) (Or.inl ⟨by rfl, ?_⟩) hS ?_
  · intro w _; go_simp
  try simp only [List.getElem_toArray, List.getElem_cons_succ, List.getElem_cons_zero, Act.put, List.setIfInBounds_toArray, List.set]
  refine wpAnyH_take (i := 16) (v := .agg #[.int .u8 (bz (at8 B 2)), .int .u8 (bz (at8 B 3))]) rfl (by kernel_rfl) (by kernel_rfl) (by kernel_rfl) (fun _ _ _ h => h) (Or.inl ⟨by rfl, fun W hW => exec_load _ _ 22 _ rfl g (o + 2) rfl _ (load2 (HB.out.below (hW.2.mono hN)) (by omega))⟩) hS ?_
  try simp only [List.getElem_toArray, List.getElem_cons_succ, List.getElem_cons_zero, Act.put, List.setIfInBounds_toArray, List.set]
  refine wpAnyH_take (i := 17) (v := .slice (some ⟨g, o, none⟩) len cap) rfl (by kernel_rfl) (by kernel_rfl) (by kernel_rfl) (fun _ _ _ h => h) (Or.inl ⟨by rfl, ?_⟩) hS ?_
  · intro w _; go_simp
  try simp only [List.getElem_toArray, List.getElem_cons_succ, List.getElem_cons_zero, Act.put, List.setIfInBounds_toArray, List.set]
  refine wpAnyH_take (i := 18) (v := .slice (some ⟨g, o + 8, none⟩) 8 c8) rfl (by kernel_rfl) (by kernel_rfl) (by kernel_rfl) (fun _ _ _ h => h) (Or.inl ⟨by rfl, ?_⟩) hS ?_
  · intro w _; go_simp
  try simp only [List.getElem_toArray, List.getElem_cons_succ, List.getElem_cons_zero, Act.put, List.setIfInBounds_toArray, List.set]
  refine wpAnyH_take (i := 20) (v := .slice (some ⟨g, o, none⟩) len cap) rfl (by kernel_rfl) (by kernel_rfl) (by kernel_rfl) (fun _ _ _ h => h) (Or.inl ⟨by rfl, ?_⟩) hS ?_
  · intro w _; go_simp
  try simp only [List.getElem_toArray, List.getElem_cons_succ, List.getElem_cons_zero, Act.put, List.setIfInBounds_toArray, List.set]
  refine wpAnyH_take (i := 21) (v := .slice (some ⟨g, o + 16, none⟩) 4 c16) rfl (by kernel_rfl) (by kernel_rfl) (by kernel_rfl) (fun _ _ _ h => h) (Or.inl ⟨by rfl, ?_⟩) hS ?_
  · intro w _; go_simp
  try simp only [List.getElem_toArray, List.getElem_cons_succ, List.getElem_cons_zero, Act.put, List.setIfInBounds_toArray, List.set]
  apply cutK
  case walk =>
    intro key
    refine wpAnyH_two 19 25 _ _ rfl rfl (by kernel_rfl) (by rfl) (by rfl) (fun K hK => ?_) (fun K hK => ?_)
    · skip
      go_simp
      refine (HN1.out _ hS.2).mono ?_
      rintro e w' ⟨rfl, rfl⟩
      refine hK _ _ hS ?_
      clear hK K
      try simp only [List.getElem_toArray, List.getElem_cons_succ, List.getElem_cons_zero, Act.put, List.setIfInBounds_toArray, List.set]
      refine wpAnyH_two 22 25 _ _ rfl rfl (by kernel_rfl) (by rfl) (by rfl) (fun K hK => ?_) (fun K hK => ?_)
      · skip
        go_simp
        refine (HN2.out _ hS.2).mono ?_
        rintro e w' ⟨rfl, rfl⟩
        refine hK _ _ hS ?_
        clear hK K
        try simp only [List.getElem_toArray, List.getElem_cons_succ, List.getElem_cons_zero, Act.put, List.setIfInBounds_toArray, List.set]
        refine wpAnyH_take (i := 23) (v := .int .u32 (tg : Int)) rfl (by kernel_rfl) (by kernel_rfl) (by kernel_rfl) (fun _ _ _ h => h) (Or.inl ⟨by rfl, ?_⟩) hS ?_
        · intro w _; go_simp
        try simp only [List.getElem_toArray, List.getElem_cons_succ, List.getElem_cons_zero, Act.put, List.setIfInBounds_toArray, List.set]
        refine wpAnyH_take (i := 24) (v := .agg cs) rfl (by kernel_rfl) (by kernel_rfl) (by kernel_rfl) (fun _ _ _ h => h) (Or.inl ⟨by rfl, ?_⟩) hS ?_
        · intro W hW; refine exec_build W rfl (Eq.trans (congrArg (Program.built _ _) ?_) hbu); simp [Act.eval]
        try simp only [List.getElem_toArray, List.getElem_cons_succ, List.getElem_cons_zero, Act.put, List.setIfInBounds_toArray, List.set]
        refine wpAnyH_one 25 _ rfl (by kernel_rfl) (by rfl) (fun K hK => ?_)
        refine wp_alloc_arr 28 rfl _ allocPdu ?_
        refine hK _ _ (FS_alloc hS) ?_
        clear hK K
        try simp only [List.getElem_toArray, List.getElem_cons_succ, List.getElem_cons_zero, Act.put, List.setIfInBounds_toArray, List.set]
        refine wpAnyH_one 26 _ rfl (by kernel_rfl) (by rfl) (fun K hK => ?_)
        refine wp_store_new 28 _ _ rfl _ rfl cs rfl rfl 28 zP hci (by rw [hcs.out]; rfl) hc1.out ?_
        refine hK _ _ (FS_alloc hS) ?_
        clear hK K
        try simp only [List.getElem_toArray, List.getElem_cons_succ, List.getElem_cons_zero, Act.put, List.setIfInBounds_toArray, List.set]
        refine wpAnyH_done (by kernel_rfl) ?_ _
        exact key
      · skip
        refine wp_alloc_arr 28 rfl _ allocPdu ?_
        refine hK _ _ (FS_alloc hS) ?_
        clear hK K
        try simp only [List.getElem_toArray, List.getElem_cons_succ, List.getElem_cons_zero, Act.put, List.setIfInBounds_toArray, List.set]
        have hSa := FS_alloc (cs := zP) hS
        refine wpAnyH_one 22 _ rfl (by kernel_rfl) (by rfl) (fun K hK => ?_)
        go_simp
        refine (HN2.out _ hSa.2).mono ?_
        rintro e w' ⟨rfl, rfl⟩
        refine hK _ _ hSa ?_
        clear hK K
        try simp only [List.getElem_toArray, List.getElem_cons_succ, List.getElem_cons_zero, Act.put, List.setIfInBounds_toArray, List.set]
        refine wpAnyH_take (i := 23) (v := .int .u32 (tg : Int)) rfl (by kernel_rfl) (by kernel_rfl) (by kernel_rfl) (fun _ _ _ h => h) (Or.inl ⟨by rfl, ?_⟩) hSa ?_
        · intro w _; go_simp
        try simp only [List.getElem_toArray, List.getElem_cons_succ, List.getElem_cons_zero, Act.put, List.setIfInBounds_toArray, List.set]
        refine wpAnyH_take (i := 24) (v := .agg cs) rfl (by kernel_rfl) (by kernel_rfl) (by kernel_rfl) (fun _ _ _ h => h) (Or.inl ⟨by rfl, ?_⟩) hSa ?_
        · intro W hW; refine exec_build W rfl (Eq.trans (congrArg (Program.built _ _) ?_) hbu); simp [Act.eval]
        try simp only [List.getElem_toArray, List.getElem_cons_succ, List.getElem_cons_zero, Act.put, List.setIfInBounds_toArray, List.set]
        refine wpAnyH_one 26 _ rfl (by kernel_rfl) (by rfl) (fun K hK => ?_)
        refine wp_store_new 28 _ _ rfl _ rfl cs rfl rfl 28 zP hci (by rw [hcs.out]; rfl) hc1.out ?_
        refine hK _ _ (FS_alloc hS) ?_
        clear hK K
        try simp only [List.getElem_toArray, List.getElem_cons_succ, List.getElem_cons_zero, Act.put, List.setIfInBounds_toArray, List.set]
        refine wpAnyH_done (by kernel_rfl) ?_ _
        exact key
    · skip
      refine wp_alloc_arr 28 rfl _ allocPdu ?_
      refine hK _ _ (FS_alloc hS) ?_
      clear hK K
      try simp only [List.getElem_toArray, List.getElem_cons_succ, List.getElem_cons_zero, Act.put, List.setIfInBounds_toArray, List.set]
      have hSa := FS_alloc (cs := zP) hS
      refine wpAnyH_one 19 _ rfl (by kernel_rfl) (by rfl) (fun K hK => ?_)
      go_simp
      refine (HN1.out _ hSa.2).mono ?_
      rintro e w' ⟨rfl, rfl⟩
      refine hK _ _ hSa ?_
      clear hK K
      try simp only [List.getElem_toArray, List.getElem_cons_succ, List.getElem_cons_zero, Act.put, List.setIfInBounds_toArray, List.set]
      refine wpAnyH_one 22 _ rfl (by kernel_rfl) (by rfl) (fun K hK => ?_)
      go_simp
      refine (HN2.out _ hSa.2).mono ?_
      rintro e w' ⟨rfl, rfl⟩
      refine hK _ _ hSa ?_
      clear hK K
      try simp only [List.getElem_toArray, List.getElem_cons_succ, List.getElem_cons_zero, Act.put, List.setIfInBounds_toArray, List.set]
      refine wpAnyH_take (i := 23) (v := .int .u32 (tg : Int)) rfl (by kernel_rfl) (by kernel_rfl) (by kernel_rfl) (fun _ _ _ h => h) (Or.inl ⟨by rfl, ?_⟩) hSa ?_
      · intro w _; go_simp
      try simp only [List.getElem_toArray, List.getElem_cons_succ, List.getElem_cons_zero, Act.put, List.setIfInBounds_toArray, List.set]
      refine wpAnyH_take (i := 24) (v := .agg cs) rfl (by kernel_rfl) (by kernel_rfl) (by kernel_rfl) (fun _ _ _ h => h) (Or.inl ⟨by rfl, ?_⟩) hSa ?_
      · intro W hW; refine exec_build W rfl (Eq.trans (congrArg (Program.built _ _) ?_) hbu); simp [Act.eval]
      try simp only [List.getElem_toArray, List.getElem_cons_succ, List.getElem_cons_zero, Act.put, List.setIfInBounds_toArray, List.set]
      refine wpAnyH_one 26 _ rfl (by kernel_rfl) (by rfl) (fun K hK => ?_)
      refine wp_store_new 28 _ _ rfl _ rfl cs rfl rfl 28 zP hci (by rw [hcs.out]; rfl) hc1.out ?_
      refine hK _ _ (FS_alloc hS) ?_
      clear hK K
      try simp only [List.getElem_toArray, List.getElem_cons_succ, List.getElem_cons_zero, Act.put, List.setIfInBounds_toArray, List.set]
      refine wpAnyH_done (by kernel_rfl) ?_ _
      exact key
  case pf =>
    have HF : Hid (FdI w ((fK B 0).cs (.slice none 0 0) (.slice none 0 0)) (wd.alloc (.cells cs 28))) := Lib.hid ⟨(FS_alloc hS).1, by rw [← HSZ.out, hcF.out]; exact heap_alloc_new wd _, (FS_alloc hS).2⟩
    rw [HSZ.out]
    generalize wd.alloc (.cells cs 28) = wf at HF ⊢
    clear hS HSZ hcF hc1 hci hbu
    go_upto_region 3 with (fail)
    go_loopg [30] 7 (fun gg i wr => ∃ k : Nat, k ≤ 7 ∧ gg = 7 - k ∧ i = .int .i64 k ∧ Hid (FdI w ((fK B k).cs (.slice none 0 0) (.slice none 0 0)) wr))
    case atStart => exact ⟨0, by omega, rfl, rfl, HF⟩
    case round =>
      clear HF
      obtain ⟨k, hk7, rfl, rfl, HI⟩ := hrel
      by_cases hlt : k < 7
      · have hlt' : (k : Int) < 7 := by omega
        obtain ⟨qo, hqo⟩ : ∃ qo, Hid (o + (20 + 4 * k) = qo) := ⟨_, Lib.hid rfl⟩
        obtain ⟨co, hco⟩ : ∃ co, Hid (cap - (20 + 4 * k) = co) := ⟨_, Lib.hid rfl⟩
        obtain ⟨x, hx⟩ : ∃ x, Hid (beL ((B.drop (20 + 4 * k)).take 4) = x) := ⟨_, Lib.hid rfl⟩
        have hxl : x < 4294967296 := by
          rw [← hx.out]
          refine Nat.lt_of_lt_of_le (beL_lt _) (Nat.le_trans (Nat.pow_le_pow_right (by omega) (List.length_take_le _ _)) (by decide))
        have hbs := (HB.out.below (HI.out.hb.mono hN)).sub (20 + 4 * k) (20 + 4 * k + 4) (by omega) (by omega) (by omega)
        rw [hqo.out, hco.out, show 20 + 4 * k + 4 - (20 + 4 * k) = 4 by omega] at hbs
        have HNb : Hid (Calls Try.prog 47 #[.slice (some ⟨g, qo, none⟩) 4 co] wr fun e w' => e = .returned (.int .u64 (x : Int)) ∧ wr = w') := Lib.hid (by rw [← hx.out]; exact number_any hbs (by omega))
        have hxw : IntKind.u32.wrap (x : Int) = (x : Int) := by rw [IntKind.wrap_u32]; omega
        obtain ⟨v, cx⟩ : ∃ v, wr.cell? ⟨w.heap.size + 1, 8 + k, none⟩ = some v := ⟨_, (cell_of_cur HI.out.h1 (8 + k)).trans (Array.getElem?_eq_getElem (by show 8 + k < 16; omega))⟩
        have fx : wr.frozen? ⟨w.heap.size + 1, 8 + k, none⟩ = false := by simp [World.frozen?, HI.out.h1]
        have HI2 := Lib.hid (HI.out.set (8 + k) (.int .u32 (x : Int)))
        have HFS := Lib.hid (fK_set B k hlt (.slice none 0 0) (.slice none 0 0))
        rw [hx.out] at HFS
        rw [HFS.out] at HI2
        clear hbs
        go_wp2_with (first
          | (go_at_call 37; refine (wordOf_at g o len cap k qo co (by omega) (by omega) hqo.out hco.out _).mono ?_; rintro e w' ⟨rfl, rfl⟩)
          | (go_at_call 47; refine HNb.out.mono ?_; rintro e w' ⟨rfl, rfl⟩))
        go_roundg (7 - (k + 1))
        case measure => omega
        case rel => exact ⟨k + 1, by omega, rfl, by go_num, HI2⟩
      · obtain rfl : k = 7 := by omega
        have hR := HI.out.h1
        rw [fK_seven] at hR
        obtain ⟨R, hR2⟩ : ∃ R, Hid ((fieldsB B).cs (.slice none 0 0) (.slice none 0 0) = R) := ⟨_, Lib.hid rfl⟩
        rw [hR2.out] at hR
        have hR5 : Hid (R.size = 16) := Lib.hid (by rw [← hR2.out]; rfl)
        have hR1 : Hid (R.all (·.oneCell') = true) := Lib.hid (by rw [← hR2.out]; simp [P.cs, Value.oneCell'])
        have hld := load_pdu hR hR5
        have hW0 := Lib.hid HI.out.h0
        have HB0 := Lib.hid HI.out.hb
        clear hR HI
        go_wp2_with (first
          | (refine wpList_val (by rfl) (exec_load _ _ 28 _ rfl (w.heap.size + 1) 0 rfl R hld) ?_; clear hld)
          | (refine wpList_store_row rfl 28 _ _ rfl w.heap.size R rfl rfl 28 zP hW0.out (by rw [hR5.out]; exact infoPdu) (by rw [hR5.out]; rfl) hR1.out ?_))
        refine bodyPost_ret (v := .agg R) ?_ rfl ⟨by rw [hR2.out], below_setRow HB0.out (Nat.le_refl _) R⟩
        exact results_cell_row (ty := 28) rfl _ _ w.heap.size 28 R (0, 0) _ rfl (setRow_heap _ _ _ _ _ _ hW0.out) Try.underlying28 rfl (by rw [hR5.out]; exact infoPdu)
end Go.Proofs.Ytakejggofghblaa
