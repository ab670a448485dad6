/-
  cdb.Fits, the reference's, the law CdbFits.
-/
import Derived.Test.YtehhhbehclpkbaaCdStands
set_option linter.unusedSimpArgs false
set_option linter.unusedVariables false
namespace Go.Proofs.Ytehhhbehclpkbaa
open Go.RowKit Sh Cd

def fitsB (A K : Nat) (s : Int) : Bool := decide (0 ≤ s ∧ (A : Int) + K ≤ s)
set_option maxRecDepth 100000 in
set_option maxHeartbeats 2000000 in
theorem fits_any (A K : Nat) (hA : A < 18446744073709551616) (hK : K < 18446744073709551616) (s : Int) (hs1 : -9223372036854775808 ≤ s) (hs2 : s ≤ 9223372036854775807) (w : World) :
    Calls Try.prog 8 #[.agg #[.int .i64 0, .int .u64 (A : Nat), .int .u64 (K : Nat), .bool false, .bool false, .int .i64 0, .int .i64 0, .int .i64 0, .int .i64 0, .int .i64 0, .int .i64 0, .bool false], .int .i64 s] w fun e w' => e = .returned (.bool (fitsB A K s)) ∧ Below w.heap.size w w' := by
  obtain ⟨F, HF⟩ : ∃ F, Hid (F = fitsB A K s) := ⟨_, Lib.hid rfl⟩
  rw [← HF.out]
  have hbel := (Below.refl w.heap.size w).alloc (Nat.le_refl _) (.cells #[.int .i64 0, .int .u64 (A : Nat), .int .u64 (K : Nat), .bool false, .bool false, .int .i64 0, .int .i64 0, .int .i64 0, .int .i64 0, .int .i64 0, .int .i64 0, .bool false] 25)
  by_cases h0 : s < 0
  · obtain rfl : F = false := by rw [HF.out, fitsB, decide_eq_false_iff_not]; omega
    have h1 : decide (s < 0) = true := by simpa using h0
    clear h0 HF
    go_enter Try.func8, Try.ntmps8
    go_wp2
    go_ret
    exact ⟨rfl, hbel⟩
  have h1 : decide (s < 0) = false := by simpa using (by omega : 0 ≤ s)
  have hw : IntKind.u64.wrap s = s := by rw [IntKind.wrap_u64]; omega
  by_cases h2 : (A : Int) ≤ s
  · have h3 : decide ((A : Int) ≤ s) = true := by simpa using h2
    have h4 : IntKind.u64.wrap (s - (A : Int)) = s - (A : Int) := by rw [IntKind.wrap_u64]; omega
    have h5 : decide ((K : Int) ≤ s - (A : Int)) = F := by rw [HF.out, fitsB, decide_eq_decide]; omega
    clear HF h0
    go_enter Try.func8, Try.ntmps8
    go_wp2
    go_ret
    exact ⟨rfl, hbel⟩
  · obtain rfl : F = false := by rw [HF.out, fitsB, decide_eq_false_iff_not]; omega
    have h3 : decide ((A : Int) ≤ s) = false := by simpa using (by omega : s < (A : Int))
    clear HF h0 h2
    go_enter Try.func8, Try.ntmps8
    go_wp2
    go_ret
    exact ⟨rfl, hbel⟩
set_option maxRecDepth 100000 in
set_option maxHeartbeats 2000000 in
theorem rfits_any (A K : Nat) (hA : A < 18446744073709551616) (hK : K < 18446744073709551616) (s : Int) (hs1 : -9223372036854775808 ≤ s) (hs2 : s ≤ 9223372036854775807) (w : World) :
    Calls Try.prog 9 #[.agg #[.int .i64 0, .int .u64 (A : Nat), .int .u64 (K : Nat), .bool false, .bool false, .int .i64 0, .int .i64 0, .int .i64 0, .int .i64 0, .int .i64 0, .int .i64 0, .bool false], .int .i64 s] w fun e w' => e = .returned (.bool (fitsB A K s)) ∧ Below w.heap.size w w' := by
  obtain ⟨F, HF⟩ : ∃ F, Hid (F = fitsB A K s) := ⟨_, Lib.hid rfl⟩
  rw [← HF.out]
  have hbel := (Below.refl w.heap.size w).alloc (Nat.le_refl _) (.cells #[.int .i64 0, .int .u64 (A : Nat), .int .u64 (K : Nat), .bool false, .bool false, .int .i64 0, .int .i64 0, .int .i64 0, .int .i64 0, .int .i64 0, .int .i64 0, .bool false] 25)
  by_cases h0 : s < 0
  · obtain rfl : F = false := by rw [HF.out, fitsB, decide_eq_false_iff_not]; omega
    have h1 : decide (s < 0) = true := by simpa using h0
    clear h0 HF
    go_enter Try.func9, Try.ntmps9
    go_wp2
    go_ret
    exact ⟨rfl, hbel⟩
  have h1 : decide (s < 0) = false := by simpa using (by omega : 0 ≤ s)
  have hw : IntKind.u64.wrap s = s := by rw [IntKind.wrap_u64]; omega
  by_cases h2 : (A : Int) ≤ s
  · have h3 : decide (s < (A : Int)) = false := by simpa using h2
    have h4 : IntKind.u64.wrap (s - (A : Int)) = s - (A : Int) := by rw [IntKind.wrap_u64]; omega
    have h5 : decide ((K : Int) ≤ s - (A : Int)) = F := by rw [HF.out, fitsB, decide_eq_decide]; omega
    clear HF h0
    go_enter Try.func9, Try.ntmps9
    go_wp2
    go_ret
    exact ⟨rfl, hbel⟩
  · obtain rfl : F = false := by rw [HF.out, fitsB, decide_eq_false_iff_not]; omega
    have h3 : decide (s < (A : Int)) = true := by simpa using (by omega : s < (A : Int))
    clear HF h0 h2
    go_enter Try.func9, Try.ntmps9
    go_wp2
    go_ret
    exact ⟨rfl, hbel⟩
set_option maxRecDepth 100000 in
set_option maxHeartbeats 4000000 in
theorem cdbFits_any (A : Nat) (hA : A < 18446744073709551616) (K : Nat) (hK : K < 18446744073709551616) (s : Int) (hs1 : -9223372036854775808 ≤ s) (hs2 : s ≤ 9223372036854775807) (w : World) :
    Calls Try.prog 3 #[.int .u64 (A : Int), .int .u64 (K : Int), .int .i64 s] w (TrueP w) := by
  have K1 := Lib.hid fits_any
  have HK8 : Hid (∀ W, Calls Try.prog 8 #[.agg #[.int .i64 0, .int .u64 (A : Nat), .int .u64 (K : Nat), .bool false, .bool false, .int .i64 0, .int .i64 0, .int .i64 0, .int .i64 0, .int .i64 0, .int .i64 0, .bool false], .int .i64 s] W fun e w' => e = .returned (.bool (fitsB A K s)) ∧ Below W.heap.size W w') := Lib.hid (fits_any A K hA hK s hs1 hs2)
  have HK0 : Hid (∀ W, Calls Try.prog 8 #[.agg #[.int .i64 0, .int .u64 (A : Nat), .int .u64 0, .bool false, .bool false, .int .i64 0, .int .i64 0, .int .i64 0, .int .i64 0, .int .i64 0, .int .i64 0, .bool false], .int .i64 s] W fun e w' => e = .returned (.bool (fitsB A 0 s)) ∧ Below W.heap.size W w') := Lib.hid (fits_any A 0 hA (by omega) s hs1 hs2)
  have HK9 : Hid (∀ W, Calls Try.prog 9 #[.agg #[.int .i64 0, .int .u64 (A : Nat), .int .u64 (K : Nat), .bool false, .bool false, .int .i64 0, .int .i64 0, .int .i64 0, .int .i64 0, .int .i64 0, .int .i64 0, .bool false], .int .i64 s] W fun e w' => e = .returned (.bool (fitsB A K s)) ∧ Below W.heap.size W w') := Lib.hid (rfits_any A K hA hK s hs1 hs2)
  have HKS := Lib.hid stands_any
  obtain ⟨cs, Hcs⟩ : ∃ cs : Array Value, Hid (cs = #[.int .i64 0, .int .u64 (A : Nat), .int .u64 (K : Nat), .bool false, .bool false, .int .i64 0, .int .i64 0, .int .i64 0, .int .i64 0, .int .i64 0, .int .i64 0, .bool false]) := ⟨_, Lib.hid rfl⟩
  have hci : Hid ((Try.prog.info? 25).map (·.size) = some cs.size) := Lib.hid (by rw [Hcs.out]; exact infoTk)
  rw [← Hcs.out] at HK8 HK9
  obtain ⟨F, HF⟩ : ∃ F, Hid (fitsB A K s = F) := ⟨_, Lib.hid rfl⟩
  rw [HF.out] at HK8 HK9
  clear K1
  cases F
  all_goals
    have hdec := of_decide_eq_true (p := fitsB A K s = fitsB A K s) (by simp)
    clear hdec
    go_enter Try.func3, Try.ntmps3
    go_upto_region 4 with (go_at_call 7; refine (HKS.out _).mono ?_; rintro e w1 ⟨rfl, hb1⟩; have Hb1 := Lib.hid hb1; clear hb1)
    have Hx1 : Hid ((w1.alloc (.cells #[.int .i64 0, .int .u64 (A : Nat), .int .u64 (K : Nat), .bool false, .bool false, .int .i64 0, .int .i64 0, .int .i64 0, .int .i64 0, .int .i64 0, .int .i64 0, .bool false] 25)).heap[w1.heap.size]? = some (.cells cs 25 (0, 0))) := Lib.hid (by rw [Hcs.out]; exact heap_alloc_new w1 _)
    have Hl : Hid (w1.heap.size < (w1.alloc (.cells #[.int .i64 0, .int .u64 (A : Nat), .int .u64 (K : Nat), .bool false, .bool false, .int .i64 0, .int .i64 0, .int .i64 0, .int .i64 0, .int .i64 0, .int .i64 0, .bool false] 25)).heap.size) := Lib.hid (by simp)
    have Hb2 : Hid (Below w.heap.size w (w1.alloc (.cells #[.int .i64 0, .int .u64 (A : Nat), .int .u64 (K : Nat), .bool false, .bool false, .int .i64 0, .int .i64 0, .int .i64 0, .int .i64 0, .int .i64 0, .int .i64 0, .bool false] 25))) := Lib.hid (Hb1.out.alloc Hb1.out.size _)
    generalize w1.alloc (.cells #[.int .i64 0, .int .u64 (A : Nat), .int .u64 (K : Nat), .bool false, .bool false, .int .i64 0, .int .i64 0, .int .i64 0, .int .i64 0, .int .i64 0, .int .i64 0, .bool false] 25) = w2 at Hx1 Hb2 Hl ⊢
  · go_wp2_with (first
      | (refine wpList_load_row rfl 25 _ rfl w1.heap.size rfl 25 cs (0, 0) _ Hx1.out Try.underlying25 rfl hci.out ?_)
      | (go_at_call 8; refine (HK8.out _).mono ?_; rintro e w3 ⟨rfl, hb3⟩; have Hb3 := Lib.hid hb3; have hx3 := (hb3.block _ Hl.out).trans Hx1.out; have Hx3 := Lib.hid hx3; clear hb3 hx3)
      | (refine wpList_load_row rfl 25 _ rfl w1.heap.size rfl 25 cs (0, 0) _ Hx3.out Try.underlying25 rfl hci.out ?_)
      | (go_at_call 9; refine (HK9.out _).mono ?_; rintro e w4 ⟨rfl, hb4⟩; have Hb4 := Lib.hid hb4; clear hb4))
    go_ret
    exact ⟨rfl, stepB (stepB Hb2.out Hb3.out) Hb4.out⟩
  · have hf := HF.out
    have hd := of_decide_eq_true hf
    have hf0 : fitsB A 0 s = true := by rw [fitsB, decide_eq_true_eq]; omega
    rw [hf0] at HK0
    have q1 : decide (0 ≤ s) = true := by simpa using hd.1
    have hw : IntKind.u64.wrap s = s := by rw [IntKind.wrap_u64]; omega
    have q2 : decide ((A : Int) ≤ s) = true := by simpa using (by omega : (A : Int) ≤ s)
    have q3 : decide ((K : Int) ≤ s) = true := by simpa using (by omega : (K : Int) ≤ s)
    clear hd hf hf0 HF
    go_upto_region 7 with (first
      | (refine wpList_load_row rfl 25 _ rfl w1.heap.size rfl 25 cs (0, 0) _ Hx1.out Try.underlying25 rfl hci.out ?_)
      | (go_at_call 8; refine (HK8.out _).mono ?_; rintro e w3 ⟨rfl, hb3⟩; have Hb3 := Lib.hid hb3; have hx3 := (hb3.block _ Hl.out).trans Hx1.out; have Hx3 := Lib.hid hx3; clear hb3 hx3)
      | (refine wpList_load_row rfl 25 _ rfl w1.heap.size rfl 25 cs (0, 0) _ Hx3.out Try.underlying25 rfl hci.out ?_)
      | (go_at_call 9; refine (HK9.out _).mono ?_; rintro e w4 ⟨rfl, hb4⟩; have Hb4 := Lib.hid hb4; clear hb4))
    clear HK8 HK9
    go_wp2_with (go_at_call 8; refine (HK0.out _).mono ?_; rintro e w5 ⟨rfl, hb5⟩; have Hb5 := Lib.hid hb5; clear hb5)
    go_ret
    exact ⟨rfl, stepB (stepB (stepB Hb2.out Hb3.out) Hb4.out) Hb5.out⟩
end Go.Proofs.Ytehhhbehclpkbaa
