/-
  the law CdbBounds.
-/
import Derived.Test.YtehhhbehclpkbaaCdStands
set_option linter.unusedSimpArgs false
set_option linter.unusedVariables false
namespace Go.Proofs.Ytehhhbehclpkbaa
open Go.RowKit Sh Cd

theorem code_cases (b : Bool) : code b = 0 ∨ code b = 9216 := by cases b <;> simp [code]
theorem code_zero {b : Bool} (h : code b = 0) : b = false := by cases b <;> simp_all [code]
theorem rowC_cases (B : List UInt8) : rowC B = 0 ∨ rowC B = 8192 ∨ rowC B = 9216 ∨ rowC B = 6656 := by
  have hc : ∀ b, code b = 0 ∨ code b = 8192 ∨ code b = 9216 ∨ code b = 6656 := fun b => by rcases code_cases b with h | h <;> simp [h]
  unfold rowC
  split
  · simp
  split
  · exact hc _
  split
  · simp
  split
  · exact hc _
  split
  · exact hc _
  split
  · exact hc _
  split
  · unfold ordC
    split
    · simp
    split <;> simp
  split
  · unfold unmC
    split <;> simp
  unfold blkC
  split
  · simp
  split
  · exact hc _
  split
  · exact hc _
  split
  · simp
  · exact hc _
theorem bounds_plain (B : List UInt8) (h : rowC B = 0) :
    1 ≤ (rowT B).op ∧ (rowT B).op ≤ 13 ∧ (rowT B).len ≤ 1024 ∧ ((rowT B).op = 11 ∨ (rowT B).blk ≤ 8) ∧ (rowT B).typ < 16 ∧ (rowT B).sco = 0 := by
  have h2 := b8_lt B 2
  unfold rowC at h
  unfold rowT
  split at h
  · rename_i h0; simp [h0]
  split at h
  · rename_i h1; simp [h1, inqT]
  split at h
  · rename_i h0 h1 h2; simp [h2]
  split at h
  · rename_i h0 h1 h2 h3; simp [h3]
  split at h
  · rename_i h0 h1 h2 h3 h4; simp [h4]
  split at h
  · rename_i h0 h1 h2 h3 h4 h5; simp [h5]
  split at h
  · rename_i h0 h1 h2' h3 h4 h5 h6
    unfold ordC at h
    split at h
    · cases h
    split at h
    · cases h
    · rename_i g1 g2
      have e1 : b8 B 2 / 16 = 0 := by
        cases hq : (b8 B 2 / 16 != 0) with
        | true => exact absurd (by rw [hq, Bool.or_true]) g1
        | false => simpa using hq
      have e2 : be B 5 4 = 24 := by
        cases hq : (be B 5 4 != 24) with
        | true => exact absurd hq g2
        | false => simpa using hq
      have e3 : b8 B 2 % 16 < 16 := by omega
      simp [h6, ordT, e1, e2, e3]
  split at h
  · rename_i h0 h1 h2' h3 h4 h5 h6 h7
    unfold unmC at h
    split at h
    · cases h
    · rename_i g1
      have e2 : be B 7 2 = 0 ∨ be B 7 2 = 24 := by
        cases hq : (be B 7 2 != 0 && be B 7 2 != 24) with
        | true => exact absurd hq g1
        | false => simp at hq; omega
      have e3 : be B 7 2 ≤ 1024 := by omega
      simp [h7, unmT, e3]
  rename_i n1 n2 n3 n4 n5 n6 n7 n8
  rw [if_neg n1, if_neg n2, if_neg n3, if_neg n4, if_neg n5, if_neg n6, if_neg n7, if_neg n8]
  unfold blkC at h
  unfold blkT
  rcases doing_cases (b8 B 0) with hd | hd | hd | hd | hd | hd
  · simp [hd] at h
  · simp only [hd, reduceIte, Nat.reduceEqDiff, false_and] at h ⊢
    have := code_zero h
    simp [spanT, hd] at this ⊢
    omega
  · simp only [hd, reduceIte, Nat.reduceEqDiff, false_and] at h ⊢
    have := code_zero h
    simp [spanT, hd] at this ⊢
    omega
  · simp only [hd, reduceIte, Nat.reduceEqDiff, false_and] at h ⊢
    have := code_zero h
    simp [spanT, hd] at this ⊢
    omega
  · simp only [hd, reduceIte, Nat.reduceEqDiff, true_and] at h ⊢
    split at h
    · cases h
    have := code_zero h
    simp [spanT, hd] at this ⊢
    omega
  · simp [spanT, hd]
set_option maxRecDepth 100000 in
set_option maxHeartbeats 4000000 in
theorem cdbBounds_any (B : List UInt8) (hB : B.length = 16) (w : World) :
    Calls Try.prog 6 #[.agg (B.map cu8).toArray] w (TrueP w) := by
  have HKS := Lib.hid stands_any
  have hcc := rowC_cases B
  have hbd := bounds_plain B
  have hdt : decT B = if rowC B = 0 then rowT B else {} := rfl
  have KD : Hid (∀ W, Calls Try.prog 10 #[.agg (B.map cu8).toArray] W (TkP (decT B) (rowC B) W)) := Lib.hid (Decode_any B hB)
  obtain ⟨c, hc⟩ : ∃ c, rowC B = c := ⟨_, rfl⟩
  rw [hc] at hcc hbd hdt KD
  obtain ⟨R, hR⟩ : ∃ R, rowT B = R := ⟨_, rfl⟩
  rw [hR] at hbd hdt
  obtain ⟨D, hD⟩ : ∃ D, decT B = D := ⟨_, rfl⟩
  rw [hD] at hdt KD
  clear hR hD hc
  obtain ⟨av, Hav⟩ : ∃ av : Array Value, Hid (av = (B.map cu8).toArray) := ⟨_, Lib.hid rfl⟩
  have hai : Hid ((Try.prog.info? 34).map (·.size) = some av.size) := Lib.hid (by rw [Hav.out, List.size_toArray, List.length_map, hB]; exact infoB16)
  rw [← Hav.out] at KD ⊢
  have Hx0 : Hid ((w.alloc (.cells av 34)).heap[w.heap.size]? = some (.cells av 34 (0, 0))) := Lib.hid (heap_alloc_new _ _)
  have Hb0 : Hid (Below w.heap.size w (w.alloc (.cells av 34))) := Lib.hid ((Below.refl _ _).alloc (Nat.le_refl _) _)
  by_cases h0 : c = 0
  · subst h0
    rw [if_pos rfl] at hdt
    subst hdt
    obtain ⟨b1, b2, b3, b4, b5, b6⟩ := hbd rfl
    obtain ⟨o, l, k, f, u, a, s, ty, al, ln, pg, v⟩ := D
    simp only at b1 b2 b3 b4 b5 b6
    subst b6
    have KG : Hid (∀ W, Calls Try.prog 10 #[.agg av] W (TkG #[.int .i64 (o : Nat), .int .u64 (l : Nat), .int .u64 (k : Nat), .bool f, .bool u, .int .i64 (a : Nat), .int .i64 ((0 : Nat) : Int), .int .i64 (ty : Nat), .int .i64 (al : Nat), .int .i64 (ln : Nat), .int .i64 (pg : Nat), .bool v] 0 W)) := Lib.hid fun W => KD.out W
    clear KD hbd hcc hB
    have q1 : decide (1 ≤ (o : Int)) = true := by simpa using (by omega : (1 : Int) ≤ o)
    have q2 : decide ((o : Int) ≤ 13) = true := by simpa using (by omega : (o : Int) ≤ 13)
    have q3 : decide (0 ≤ (ln : Int)) = true := by simp
    have q4 : decide ((ln : Int) ≤ 1024) = true := by simpa using (by omega : (ln : Int) ≤ 1024)
    have q5 : decide (0 ≤ (al : Int)) = true := by simp
    have q7 : decide (0 ≤ (ty : Int)) = true := by simp
    have q8 : decide ((ty : Int) < 16) = true := by simpa using (by omega : (ty : Int) < 16)
    by_cases h11 : o = 11
    · subst h11
      clear b1 b2 b3 b4 b5
      go_enter Try.func6, Try.ntmps6
      go_upto_region 3 with (go_at_call 7; refine (HKS.out _).mono ?_; rintro e w1 ⟨rfl, hb1⟩; have hx1 := (hb1.block w.heap.size (by simp)).trans Hx0.out; have Hx1 := Lib.hid hx1; have Hb1 := Lib.hid (stepB Hb0.out hb1); clear hb1 hx1)
      go_wp2_with (first
        | (refine wpList_load_row rfl 34 _ rfl w.heap.size rfl 34 av (0, 0) _ Hx1.out Try.underlying34 rfl hai.out ?_)
        | (go_at_call 10; refine (KG.out _).mono ?_; rintro e w2 ⟨rfl, hb2⟩; have Hb2 := Lib.hid (stepB Hb1.out hb2); clear hb2))
      all_goals
        go_ret
        exact ⟨rfl, Hb2.out.alloc Hb2.out.size _⟩
    · have q9 := ne_beq h11
      have q10 : decide ((k : Int) ≤ 8) = true := by simpa using (by omega : (k : Int) ≤ 8)
      clear b1 b2 b3 b4 b5 h11
      go_enter Try.func6, Try.ntmps6
      go_upto_region 3 with (go_at_call 7; refine (HKS.out _).mono ?_; rintro e w1 ⟨rfl, hb1⟩; have hx1 := (hb1.block w.heap.size (by simp)).trans Hx0.out; have Hx1 := Lib.hid hx1; have Hb1 := Lib.hid (stepB Hb0.out hb1); clear hb1 hx1)
      go_wp2_with (first
        | (refine wpList_load_row rfl 34 _ rfl w.heap.size rfl 34 av (0, 0) _ Hx1.out Try.underlying34 rfl hai.out ?_)
        | (go_at_call 10; refine (KG.out _).mono ?_; rintro e w2 ⟨rfl, hb2⟩; have Hb2 := Lib.hid (stepB Hb1.out hb2); clear hb2))
      all_goals
        go_ret
        exact ⟨rfl, Hb2.out.alloc Hb2.out.size _⟩
  · rw [if_neg h0] at hdt
    subst hdt
    have KG : Hid (∀ W, Calls Try.prog 10 #[.agg av] W (TkG #[.int .i64 0, .int .u64 0, .int .u64 0, .bool false, .bool false, .int .i64 0, .int .i64 0, .int .i64 0, .int .i64 0, .int .i64 0, .int .i64 0, .bool false] (c : Nat) W)) := Lib.hid fun W => KD.out W
    obtain ⟨zc, Hzc⟩ : ∃ cs : Array Value, Hid (cs = #[.int .i64 0, .int .u64 0, .int .u64 0, .bool false, .bool false, .int .i64 0, .int .i64 0, .int .i64 0, .int .i64 0, .int .i64 0, .int .i64 0, .bool false]) := ⟨_, Lib.hid rfl⟩
    have hci : Hid ((Try.prog.info? 25).map (·.size) = some zc.size) := Lib.hid (by rw [Hzc.out]; exact infoTk)
    have Heq : Hid (∀ W, (binOp .eql 25 (.agg zc) (.agg zc)).run Try.prog W = .ok (.bool true) W) := Lib.hid (task_refl zc {} Hzc.out)
    have HBd : Hid (Try.prog.built 25 [] = some zc) := Lib.hid (by rw [Hzc.out]; kernel_rfl)
    clear KD hbd hB
    rcases hcc with rfl | rfl | rfl | rfl
    · exact absurd rfl h0
    all_goals
      clear h0
      go_enter Try.func6, Try.ntmps6
      go_upto_region 3 with (go_at_call 7; refine (HKS.out _).mono ?_; rintro e w1 ⟨rfl, hb1⟩; have hx1 := (hb1.block w.heap.size (by simp)).trans Hx0.out; have Hx1 := Lib.hid hx1; have Hb1 := Lib.hid (stepB Hb0.out hb1); clear hb1 hx1)
      go_upto_region 5 with (first
        | (refine wpList_load_row rfl 34 _ rfl w.heap.size rfl 34 av (0, 0) _ Hx1.out Try.underlying34 rfl hai.out ?_)
        | (go_at_call 10; refine (KG.out _).mono ?_; rintro e w2 ⟨rfl, hb2⟩; have Hb2 := Lib.hid (stepB Hb1.out hb2); clear hb2))
      have Hx4 : Hid ((w2.alloc (.cells #[.int .i64 0, .int .u64 0, .int .u64 0, .bool false, .bool false, .int .i64 0, .int .i64 0, .int .i64 0, .int .i64 0, .int .i64 0, .int .i64 0, .bool false] 25)).heap[w2.heap.size]? = some (.cells zc 25 (0, 0))) := Lib.hid (by rw [Hzc.out]; exact heap_alloc_new w2 _)
      have Hb4 : Hid (Below w.heap.size w (w2.alloc (.cells #[.int .i64 0, .int .u64 0, .int .u64 0, .bool false, .bool false, .int .i64 0, .int .i64 0, .int .i64 0, .int .i64 0, .int .i64 0, .int .i64 0, .bool false] 25))) := Lib.hid (Hb2.out.alloc Hb2.out.size _)
      generalize w2.alloc (.cells #[.int .i64 0, .int .u64 0, .int .u64 0, .bool false, .bool false, .int .i64 0, .int .i64 0, .int .i64 0, .int .i64 0, .int .i64 0, .int .i64 0, .bool false] 25) = w4 at Hx4 Hb4 ⊢
      have heq := Heq.out
      have HLD := Lib.hid (load_task Hx4.out hci.out)
      go_wp2_with (first
        | (refine wpList_val (by rfl) (exec_load _ _ 25 _ rfl w2.heap.size 0 rfl zc HLD.out) ?_)
        | (refine wpList_buildP 25 _ rfl zc (Eq.trans (congrArg (Program.built _ _) (by simp [Act.eval, Act.put])) HBd.out) (by rfl) ?_))
      go_ret
      exact ⟨rfl, Hb4.out⟩
end Go.Proofs.Ytehhhbehclpkbaa
