/-
  the law CdbForms.
-/
import Derived.Test.YtehhhbehclpkbaaCdBounds
import Derived.BigQuiet
import Derived.Deep.QuietTactic
set_option linter.unusedSimpArgs false
set_option linter.unusedVariables false
namespace Go.Proofs.Ytehhhbehclpkbaa
open Go.RowKit Sh Cd

theorem blk_dep {B1 B2 : List UInt8} (hd : doing (b8 B1 0) = doing (b8 B2 0)) (h1 : b8 B1 1 = b8 B2 1) (hl : lbaN B1 = lbaN B2) (hb : blkN B1 = blkN B2) : blkC B1 = blkC B2 ∧ blkT B1 = blkT B2 := by
  unfold blkC blkT spanT
  rw [hd, h1, hl, hb]
  exact ⟨rfl, rfl⟩
theorem row_blk {B : List UInt8} (h : b8 B 0 ≠ 0 ∧ b8 B 0 ≠ 18 ∧ b8 B 0 ≠ 37 ∧ b8 B 0 ≠ 158 ∧ b8 B 0 ≠ 160 ∧ b8 B 0 ≠ 94 ∧ b8 B 0 ≠ 95 ∧ b8 B 0 ≠ 66) : rowC B = blkC B ∧ rowT B = blkT B := by
  obtain ⟨h1, h2, h3, h4, h5, h6, h7, h8⟩ := h
  simp [rowC, rowT, h1, h2, h3, h4, h5, h6, h7, h8]
theorem blk_lba (B : List UInt8) : (blkT B).lba = lbaN B ∧ (blkT B).blk = blkN B := by
  unfold blkT
  split
  · exact ⟨rfl, rfl⟩
  split
  · exact ⟨rfl, rfl⟩
  split
  · exact ⟨rfl, rfl⟩
  split <;> exact ⟨rfl, rfl⟩
/-- Two forms of one command: the same code, the same task, and its blocks. -/
theorem forms_plain (a b : UInt8) (hab : (a = 40 ∧ b = 136) ∨ (a = 42 ∧ b = 138) ∨ (a = 65 ∧ b = 147) ∨ (a = 53 ∧ b = 145)) (f c3 c2 c1 c0 n1 n0 : UInt8) :
    rowC [a, f, c3, c2, c1, c0, 0, n1, n0, 0, 0, 0, 0, 0, 0, 0] = rowC [b, f, 0, 0, 0, 0, c3, c2, c1, c0, 0, 0, n1, n0, 0, 0] ∧
    decT [a, f, c3, c2, c1, c0, 0, n1, n0, 0, 0, 0, 0, 0, 0, 0] = decT [b, f, 0, 0, 0, 0, c3, c2, c1, c0, 0, 0, n1, n0, 0, 0] ∧
    (rowC [a, f, c3, c2, c1, c0, 0, n1, n0, 0, 0, 0, 0, 0, 0, 0] = 0 → (decT [a, f, c3, c2, c1, c0, 0, n1, n0, 0, 0, 0, 0, 0, 0, 0]).lba = ((c3.toNat * 256 + c2.toNat) * 256 + c1.toNat) * 256 + c0.toNat ∧ (decT [a, f, c3, c2, c1, c0, 0, n1, n0, 0, 0, 0, 0, 0, 0, 0]).blk = n1.toNat * 256 + n0.toNat) := by
  obtain ⟨B1, hB1⟩ : ∃ B, B = [a, f, c3, c2, c1, c0, 0, n1, n0, 0, 0, 0, 0, 0, 0, 0] := ⟨_, rfl⟩
  obtain ⟨B2, hB2⟩ : ∃ B, B = [b, f, 0, 0, 0, 0, c3, c2, c1, c0, 0, 0, n1, n0, 0, 0] := ⟨_, rfl⟩
  rw [← hB1, ← hB2]
  have e0 : b8 B1 0 = a.toNat := by rw [hB1]; rfl
  have e1 : b8 B2 0 = b.toNat := by rw [hB2]; rfl
  have f0 : b8 B1 1 = f.toNat := by rw [hB1]; rfl
  have f1 : b8 B2 1 = f.toNat := by rw [hB2]; rfl
  have l0 : be B1 2 4 = ((c3.toNat * 256 + c2.toNat) * 256 + c1.toNat) * 256 + c0.toNat := by rw [hB1]; simp [be, beL]
  have l1 : be B2 2 8 = ((c3.toNat * 256 + c2.toNat) * 256 + c1.toNat) * 256 + c0.toNat := by rw [hB2]; simp [be, beL]
  have m0 : be B1 7 2 = n1.toNat * 256 + n0.toNat := by rw [hB1]; simp [be, beL]
  have m1 : be B2 10 4 = n1.toNat * 256 + n0.toNat := by rw [hB2]; simp [be, beL]
  have hs : shortB (b8 B1 0) = true ∧ shortB (b8 B2 0) = false ∧ b8 B2 0 ≠ 137 ∧ doing (b8 B1 0) = doing (b8 B2 0) := by
    rw [e0, e1]
    rcases hab with ⟨rfl, rfl⟩ | ⟨rfl, rfl⟩ | ⟨rfl, rfl⟩ | ⟨rfl, rfl⟩ <;> decide
  have r1 : rowC B1 = blkC B1 ∧ rowT B1 = blkT B1 := row_blk (by rw [e0]; rcases hab with ⟨rfl, _⟩ | ⟨rfl, _⟩ | ⟨rfl, _⟩ | ⟨rfl, _⟩ <;> decide)
  have r2 : rowC B2 = blkC B2 ∧ rowT B2 = blkT B2 := row_blk (by rw [e1]; rcases hab with ⟨_, rfl⟩ | ⟨_, rfl⟩ | ⟨_, rfl⟩ | ⟨_, rfl⟩ <;> decide)
  have hl1 : lbaN B1 = be B1 2 4 := by rw [lbaN, hs.1]; rfl
  have hl2 : lbaN B2 = be B2 2 8 := by rw [lbaN, hs.2.1]; rfl
  have hk1 : blkN B1 = be B1 7 2 := by rw [blkN, hs.1]; rfl
  have hk2 : blkN B2 = be B2 10 4 := by rw [blkN, hs.2.1, if_neg (by decide), if_neg hs.2.2.1]
  have hd := blk_dep (B1 := B1) (B2 := B2) hs.2.2.2 (by rw [f0, f1]) (by rw [hl1, hl2, l0, l1]) (by rw [hk1, hk2, m0, m1])
  have hc : rowC B1 = rowC B2 := by rw [r1.1, r2.1, hd.1]
  have ht : rowT B1 = rowT B2 := by rw [r1.2, r2.2, hd.2]
  refine ⟨hc, by unfold decT; rw [hc, ht], fun h => ?_⟩
  have hx := blk_lba B1
  unfold decT
  rw [if_pos h, r1.2, hx.1, hx.2, hl1, hk1, l0, m0]
  exact ⟨rfl, rfl⟩
theorem four_at (w : World) (a b c d : Obj) : ((((w.alloc a).alloc b).alloc c).alloc d).heap[w.heap.size + 1 + 1]? = some c ∧ ((((w.alloc a).alloc b).alloc c).alloc d).heap[w.heap.size + 1 + 1 + 1]? = some d ∧ Below w.heap.size w ((((w.alloc a).alloc b).alloc c).alloc d) := by
  refine ⟨?_, ?_, ((((Below.refl _ _).alloc (Nat.le_refl _) _).alloc (by simp) _).alloc (by simp; omega) _).alloc (by simp; omega) _⟩
  · rw [Below.heap_alloc _ _ _ (by simp only [World.size_alloc]; omega)]
    exact (three_at w a b c).2.2
  · simpa using heap_alloc_new (((w.alloc a).alloc b).alloc c) d
theorem byte_at (L k : Nat) : IntKind.u8.wrap ((L : Int) / (2 ^ k : Nat)) = bz (UInt8.ofNat (L / 2 ^ k)) := by
  have : ((L : Int) / (2 ^ k : Nat)) = ((L / 2 ^ k : Nat) : Int) := by simp
  rw [this, IntKind.wrap_u8', bz_eq, UInt8.toNat_ofNat']; omega
set_option maxRecDepth 100000 in
set_option maxHeartbeats 4000000 in
theorem forms_0 (x y : Int) (hx1 : -9223372036854775808 ≤ x) (hx2 : x ≤ 9223372036854775807) (hy1 : -9223372036854775808 ≤ y) (hy2 : y ≤ 9223372036854775807) (hxq : (x.tmod 4 + 4) % 4 = 0) (L : Nat) (hL : L < 4294967296) (F : UInt8) (w : World) :
    Calls Try.prog 4 #[.agg #[.int .i64 x, .int .i64 y], .int .u32 (L : Int), .int .u8 (bz F)] w (TrueP w) := by
  have HKS := Lib.hid stands_any
  obtain ⟨t4, ht4⟩ : ∃ t, x.tmod 4 = t := ⟨_, rfl⟩
  have t1 : -4 < t4 := by rw [← ht4]; have := Int.lt_tmod_of_pos x (by decide : (0 : Int) < 4); omega
  have t2 : t4 < 4 := by rw [← ht4]; exact Int.tmod_lt_of_pos x (by decide)
  rw [ht4] at hxq
  have hxq2 : (t4 + 4).tmod 4 = 0 := by rw [Int.tmod_eq_emod_of_nonneg (by omega)]; exact hxq
  obtain ⟨N, hN⟩ : ∃ N : Nat, IntKind.u16.wrap y = (N : Int) ∧ N < 65536 := ⟨(IntKind.u16.wrap y).toNat, by rw [IntKind.wrap_u16]; omega, by rw [IntKind.wrap_u16]; omega⟩
  obtain ⟨hN, hN2⟩ := hN
  obtain ⟨C3, hC3⟩ : ∃ c, UInt8.ofNat (L / 16777216) = c := ⟨_, rfl⟩
  obtain ⟨C2, hC2⟩ : ∃ c, UInt8.ofNat (L / 65536) = c := ⟨_, rfl⟩
  obtain ⟨C1, hC1⟩ : ∃ c, UInt8.ofNat (L / 256) = c := ⟨_, rfl⟩
  obtain ⟨C0, hC0⟩ : ∃ c, UInt8.ofNat L = c := ⟨_, rfl⟩
  obtain ⟨N1, hN1⟩ : ∃ c, UInt8.ofNat (N / 256) = c := ⟨_, rfl⟩
  obtain ⟨N0, hN0⟩ : ∃ c, UInt8.ofNat N = c := ⟨_, rfl⟩
  have g3 : IntKind.u8.wrap ((L : Int) / 16777216) = bz C3 := by rw [← hC3]; exact byte_at L 24
  have g2 : IntKind.u8.wrap ((L : Int) / 65536) = bz C2 := by rw [← hC2]; exact byte_at L 16
  have g1 : IntKind.u8.wrap ((L : Int) / 256) = bz C1 := by rw [← hC1]; exact byte_at L 8
  have g0 : IntKind.u8.wrap (L : Int) = bz C0 := by rw [← hC0, IntKind.wrap_u8', bz_eq, UInt8.toNat_ofNat']; omega
  have k1 : IntKind.u8.wrap ((N : Int) / 256) = bz N1 := by rw [← hN1]; exact byte_at N 8
  have k0 : IntKind.u8.wrap (N : Int) = bz N0 := by rw [← hN0, IntKind.wrap_u8', bz_eq, UInt8.toNat_ofNat']; omega
  have hsum : ((C3.toNat * 256 + C2.toNat) * 256 + C1.toNat) * 256 + C0.toNat = L := by
    rw [← hC3, ← hC2, ← hC1, ← hC0]
    simp only [UInt8.toNat_ofNat']; omega
  have nsum : N1.toNat * 256 + N0.toNat = N := by
    rw [← hN1, ← hN0]
    simp only [UInt8.toNat_ofNat']; omega
  obtain ⟨hc, ht, hz⟩ := forms_plain 40 136 (by simp) F C3 C2 C1 C0 N1 N0
  rw [hsum, nsum] at hz
  obtain ⟨c, hcc⟩ : ∃ c, rowC [40, F, C3, C2, C1, C0, 0, N1, N0, 0, 0, 0, 0, 0, 0, 0] = c := ⟨_, rfl⟩
  obtain ⟨D, hDD⟩ : ∃ D, decT [40, F, C3, C2, C1, C0, 0, N1, N0, 0, 0, 0, 0, 0, 0, 0] = D := ⟨_, rfl⟩
  have hcas := rowC_cases [40, F, C3, C2, C1, C0, 0, N1, N0, 0, 0, 0, 0, 0, 0, 0]
  rw [hcc] at hc hz hcas
  rw [hDD] at ht hz
  have KA : Hid (∀ W, Calls Try.prog 10 #[.agg #[.int .u8 40, .int .u8 (bz F), .int .u8 (bz C3), .int .u8 (bz C2), .int .u8 (bz C1), .int .u8 (bz C0), .int .u8 0, .int .u8 (bz N1), .int .u8 (bz N0), .int .u8 0, .int .u8 0, .int .u8 0, .int .u8 0, .int .u8 0, .int .u8 0, .int .u8 0]] W (TkP D c W)) := Lib.hid fun W => by
    have := Decode_any [40, F, C3, C2, C1, C0, 0, N1, N0, 0, 0, 0, 0, 0, 0, 0] rfl W
    rw [hDD, hcc] at this
    exact this
  have KB : Hid (∀ W, Calls Try.prog 10 #[.agg #[.int .u8 136, .int .u8 (bz F), .int .u8 0, .int .u8 0, .int .u8 0, .int .u8 0, .int .u8 (bz C3), .int .u8 (bz C2), .int .u8 (bz C1), .int .u8 (bz C0), .int .u8 0, .int .u8 0, .int .u8 (bz N1), .int .u8 (bz N0), .int .u8 0, .int .u8 0]] W (TkP D c W)) := Lib.hid fun W => by
    have := Decode_any [136, F, 0, 0, 0, 0, C3, C2, C1, C0, 0, 0, N1, N0, 0, 0] rfl W
    rw [← ht, ← hc] at this
    exact this
  obtain ⟨o, l, k, f, u, a, s, ty, al, ln, pg, v⟩ := D
  have KA : Hid (∀ W, Calls Try.prog 10 #[.agg #[.int .u8 40, .int .u8 (bz F), .int .u8 (bz C3), .int .u8 (bz C2), .int .u8 (bz C1), .int .u8 (bz C0), .int .u8 0, .int .u8 (bz N1), .int .u8 (bz N0), .int .u8 0, .int .u8 0, .int .u8 0, .int .u8 0, .int .u8 0, .int .u8 0, .int .u8 0]] W (TkG #[.int .i64 (o : Nat), .int .u64 (l : Nat), .int .u64 (k : Nat), .bool f, .bool u, .int .i64 (a : Nat), .int .i64 (s : Nat), .int .i64 (ty : Nat), .int .i64 (al : Nat), .int .i64 (ln : Nat), .int .i64 (pg : Nat), .bool v] (c : Nat) W)) := KA
  have KB : Hid (∀ W, Calls Try.prog 10 #[.agg #[.int .u8 136, .int .u8 (bz F), .int .u8 0, .int .u8 0, .int .u8 0, .int .u8 0, .int .u8 (bz C3), .int .u8 (bz C2), .int .u8 (bz C1), .int .u8 (bz C0), .int .u8 0, .int .u8 0, .int .u8 (bz N1), .int .u8 (bz N0), .int .u8 0, .int .u8 0]] W (TkG #[.int .i64 (o : Nat), .int .u64 (l : Nat), .int .u64 (k : Nat), .bool f, .bool u, .int .i64 (a : Nat), .int .i64 (s : Nat), .int .i64 (ty : Nat), .int .i64 (al : Nat), .int .i64 (ln : Nat), .int .i64 (pg : Nat), .bool v] (c : Nat) W)) := KB
  obtain ⟨cs, Hcs⟩ : ∃ cs : Array Value, Hid (cs = #[.int .i64 (o : Nat), .int .u64 (l : Nat), .int .u64 (k : Nat), .bool f, .bool u, .int .i64 (a : Nat), .int .i64 (s : Nat), .int .i64 (ty : Nat), .int .i64 (al : Nat), .int .i64 (ln : Nat), .int .i64 (pg : Nat), .bool v]) := ⟨_, Lib.hid rfl⟩
  have hci : Hid ((Try.prog.info? 25).map (·.size) = some cs.size) := Lib.hid (by rw [Hcs.out]; exact infoTk)
  have Heq : Hid (∀ W, (binOp .eql 25 (.agg cs) (.agg cs)).run Try.prog W = .ok (.bool true) W) := Lib.hid (task_refl cs ⟨o, l, k, f, u, a, s, ty, al, ln, pg, v⟩ Hcs.out)
  have Hz := Lib.hid hz
  clear hz hc ht hDD hcc hsum nsum hC3 hC2 hC1 hC0 hN1 hN0
  go_enter Try.func4, Try.ntmps4
  go_upto_region 1 with (fail)
  go_quiet (fail)
  go_upto_region 4 with (go_at_call 7; refine (HKS.out _).mono ?_; rintro e w1 ⟨rfl, hb1⟩; have Hb1 := Lib.hid hb1; clear hb1)
  go_upto_region 8 with (fail)
  obtain ⟨av1, Ha1⟩ : ∃ av : Array Value, Hid (av = #[.int .u8 40, .int .u8 (bz F), .int .u8 (bz C3), .int .u8 (bz C2), .int .u8 (bz C1), .int .u8 (bz C0), .int .u8 0, .int .u8 (bz N1), .int .u8 (bz N0), .int .u8 0, .int .u8 0, .int .u8 0, .int .u8 0, .int .u8 0, .int .u8 0, .int .u8 0]) := ⟨_, Lib.hid rfl⟩
  obtain ⟨av2, Ha2⟩ : ∃ av : Array Value, Hid (av = #[.int .u8 136, .int .u8 (bz F), .int .u8 0, .int .u8 0, .int .u8 0, .int .u8 0, .int .u8 (bz C3), .int .u8 (bz C2), .int .u8 (bz C1), .int .u8 (bz C0), .int .u8 0, .int .u8 0, .int .u8 (bz N1), .int .u8 (bz N0), .int .u8 0, .int .u8 0]) := ⟨_, Lib.hid rfl⟩
  have hi1 : Hid ((Try.prog.info? 34).map (·.size) = some av1.size) := Lib.hid (by rw [Ha1.out]; exact infoB16)
  have hi2 : Hid ((Try.prog.info? 34).map (·.size) = some av2.size) := Lib.hid (by rw [Ha2.out]; exact infoB16)
  obtain ⟨e1, e2, e3⟩ := four_at w1 (.cells #[.int .u8 40, .int .u8 136, .int .u8 42, .int .u8 138, .int .u8 65, .int .u8 147, .int .u8 53, .int .u8 145] 32) (.cells #[.int .u8 40, .int .u8 136] 31) (.cells #[.int .u8 40, .int .u8 (bz F), .int .u8 (bz C3), .int .u8 (bz C2), .int .u8 (bz C1), .int .u8 (bz C0), .int .u8 0, .int .u8 (bz N1), .int .u8 (bz N0), .int .u8 0, .int .u8 0, .int .u8 0, .int .u8 0, .int .u8 0, .int .u8 0, .int .u8 0] 34) (.cells #[.int .u8 136, .int .u8 (bz F), .int .u8 0, .int .u8 0, .int .u8 0, .int .u8 0, .int .u8 (bz C3), .int .u8 (bz C2), .int .u8 (bz C1), .int .u8 (bz C0), .int .u8 0, .int .u8 0, .int .u8 (bz N1), .int .u8 (bz N0), .int .u8 0, .int .u8 0] 34)
  have hb0 : Below w.heap.size w w1 := by
    have h := (Below.refl w.heap.size w).alloc (Nat.le_refl _) (.cells #[.int .i64 x, .int .i64 y] 28)
    have h2 : Below w.heap.size w ((w.alloc (.cells #[.int .i64 x, .int .i64 y] 28)).drewN nq) := ⟨h.os, h.tape, h.output, h.size, h.block⟩
    exact stepB h2 Hb1.out
  have Hb2 := Lib.hid (stepB hb0 e3)
  generalize ((((w1.alloc (.cells #[.int .u8 40, .int .u8 136, .int .u8 42, .int .u8 138, .int .u8 65, .int .u8 147, .int .u8 53, .int .u8 145] 32)).alloc (.cells #[.int .u8 40, .int .u8 136] 31)).alloc (.cells #[.int .u8 40, .int .u8 (bz F), .int .u8 (bz C3), .int .u8 (bz C2), .int .u8 (bz C1), .int .u8 (bz C0), .int .u8 0, .int .u8 (bz N1), .int .u8 (bz N0), .int .u8 0, .int .u8 0, .int .u8 0, .int .u8 0, .int .u8 0, .int .u8 0, .int .u8 0] 34)).alloc (.cells #[.int .u8 136, .int .u8 (bz F), .int .u8 0, .int .u8 0, .int .u8 0, .int .u8 0, .int .u8 (bz C3), .int .u8 (bz C2), .int .u8 (bz C1), .int .u8 (bz C0), .int .u8 0, .int .u8 0, .int .u8 (bz N1), .int .u8 (bz N0), .int .u8 0, .int .u8 0] 34)) = wd at e1 e2 e3 Hb2 ⊢
  rw [← Ha1.out] at e1 KA
  rw [← Ha2.out] at e2 KB
  have He1 := Lib.hid e1; have He2 := Lib.hid e2
  clear e1 e2 e3 hb0 Hb1 hN hxq hxq2 ht4 g3 g2 g1 g0 k1 k0
  go_upto_region 9 with (first
    | (refine wpList_load_row rfl 34 _ rfl (w1.heap.size + 1 + 1) rfl 34 av1 (0, 0) _ He1.out Try.underlying34 rfl hi1.out ?_)
    | (go_at_call 10; refine (KA.out _).mono ?_; rintro e w2 ⟨rfl, hb2⟩; have Hb3 := Lib.hid (stepB Hb2.out hb2); have He3 := Lib.hid ((hb2.block _ (Array.getElem?_eq_some_iff.1 He2.out).1).trans He2.out); clear hb2))
  have Hy1 : Hid ((w2.alloc (.cells #[.int .i64 (o : Nat), .int .u64 (l : Nat), .int .u64 (k : Nat), .bool f, .bool u, .int .i64 (a : Nat), .int .i64 (s : Nat), .int .i64 (ty : Nat), .int .i64 (al : Nat), .int .i64 (ln : Nat), .int .i64 (pg : Nat), .bool v] 25)).heap[w2.heap.size]? = some (.cells cs 25 (0, 0))) := Lib.hid (by rw [Hcs.out]; exact heap_alloc_new w2 _)
  have He4 : Hid ((w2.alloc (.cells #[.int .i64 (o : Nat), .int .u64 (l : Nat), .int .u64 (k : Nat), .bool f, .bool u, .int .i64 (a : Nat), .int .i64 (s : Nat), .int .i64 (ty : Nat), .int .i64 (al : Nat), .int .i64 (ln : Nat), .int .i64 (pg : Nat), .bool v] 25)).heap[w1.heap.size + 1 + 1 + 1]? = some (.cells av2 34 (0, 0))) := Lib.hid (by rw [Below.heap_alloc _ _ _ (Array.getElem?_eq_some_iff.1 He3.out).1]; exact He3.out)
  have Hb4 : Hid (Below w.heap.size w (w2.alloc (.cells #[.int .i64 (o : Nat), .int .u64 (l : Nat), .int .u64 (k : Nat), .bool f, .bool u, .int .i64 (a : Nat), .int .i64 (s : Nat), .int .i64 (ty : Nat), .int .i64 (al : Nat), .int .i64 (ln : Nat), .int .i64 (pg : Nat), .bool v] 25))) := Lib.hid (Hb3.out.alloc Hb3.out.size _)
  generalize w2.alloc (.cells #[.int .i64 (o : Nat), .int .u64 (l : Nat), .int .u64 (k : Nat), .bool f, .bool u, .int .i64 (a : Nat), .int .i64 (s : Nat), .int .i64 (ty : Nat), .int .i64 (al : Nat), .int .i64 (ln : Nat), .int .i64 (pg : Nat), .bool v] 25) = w3 at Hy1 He4 Hb4 ⊢
  go_upto_region 10 with (first
    | (refine wpList_load_row rfl 34 _ rfl (w1.heap.size + 1 + 1 + 1) rfl 34 av2 (0, 0) _ He4.out Try.underlying34 rfl hi2.out ?_)
    | (go_at_call 10; refine (KB.out _).mono ?_; rintro e w4 ⟨rfl, hb4⟩; have Hb5 := Lib.hid (stepB Hb4.out hb4); have Hy2 := Lib.hid ((hb4.block _ (Array.getElem?_eq_some_iff.1 Hy1.out).1).trans Hy1.out); clear hb4))
  have Hz1 : Hid ((w4.alloc (.cells #[.int .i64 (o : Nat), .int .u64 (l : Nat), .int .u64 (k : Nat), .bool f, .bool u, .int .i64 (a : Nat), .int .i64 (s : Nat), .int .i64 (ty : Nat), .int .i64 (al : Nat), .int .i64 (ln : Nat), .int .i64 (pg : Nat), .bool v] 25)).heap[w4.heap.size]? = some (.cells cs 25 (0, 0))) := Lib.hid (by rw [Hcs.out]; exact heap_alloc_new w4 _)
  have Hy3 : Hid ((w4.alloc (.cells #[.int .i64 (o : Nat), .int .u64 (l : Nat), .int .u64 (k : Nat), .bool f, .bool u, .int .i64 (a : Nat), .int .i64 (s : Nat), .int .i64 (ty : Nat), .int .i64 (al : Nat), .int .i64 (ln : Nat), .int .i64 (pg : Nat), .bool v] 25)).heap[w2.heap.size]? = some (.cells cs 25 (0, 0))) := Lib.hid (by rw [Below.heap_alloc _ _ _ (Array.getElem?_eq_some_iff.1 Hy2.out).1]; exact Hy2.out)
  have Hb6 : Hid (Below w.heap.size w (w4.alloc (.cells #[.int .i64 (o : Nat), .int .u64 (l : Nat), .int .u64 (k : Nat), .bool f, .bool u, .int .i64 (a : Nat), .int .i64 (s : Nat), .int .i64 (ty : Nat), .int .i64 (al : Nat), .int .i64 (ln : Nat), .int .i64 (pg : Nat), .bool v] 25))) := Lib.hid (Hb5.out.alloc Hb5.out.size _)
  generalize w4.alloc (.cells #[.int .i64 (o : Nat), .int .u64 (l : Nat), .int .u64 (k : Nat), .bool f, .bool u, .int .i64 (a : Nat), .int .i64 (s : Nat), .int .i64 (ty : Nat), .int .i64 (al : Nat), .int .i64 (ln : Nat), .int .i64 (pg : Nat), .bool v] 25) = w5 at Hz1 Hy3 Hb6 ⊢
  have heq := Heq.out
  have HLD1 := Lib.hid (load_task Hy3.out hci.out)
  have HLD2 := Lib.hid (load_task Hz1.out hci.out)
  have hy := Hy3.out
  rw [Hcs.out] at hy
  have d1 : w5.cell? ⟨w2.heap.size, 1, none⟩ = some (.int .u64 (l : Nat)) := cell_of_row w5 _ 1 _ _ _ hy
  have d2 : w5.cell? ⟨w2.heap.size, 2, none⟩ = some (.int .u64 (k : Nat)) := cell_of_row w5 _ 2 _ _ _ hy
  have Hcc : Hid (((c : Int) == (c : Int)) = true) := Lib.hid (by simp)
  have hw1 : IntKind.u64.wrap (L : Int) = (L : Int) := by rw [IntKind.wrap_u64]; omega
  have hw2 : IntKind.u64.wrap (N : Int) = (N : Int) := by rw [IntKind.wrap_u64]; omega
  clear KA KB hy
  by_cases h0 : c = 0
  · subst h0
    obtain ⟨rfl, rfl⟩ : l = L ∧ k = N := Hz.out rfl
    clear Hz Hcc
    go_step
    refine wpList_load_row rfl 25 _ rfl w2.heap.size rfl 25 cs (0, 0) _ Hy3.out Try.underlying25 rfl hci.out ?_
    refine wpList_load_row rfl 25 _ rfl w4.heap.size rfl 25 cs (0, 0) _ Hz1.out Try.underlying25 rfl hci.out ?_
    go_wp2_with (fail)
    all_goals
      go_ret
      exact ⟨rfl, Hb6.out⟩
  · clear Hz Hcc
    have hn0 : ((c : Int) != 0) = true := by simpa using (by omega : (c : Int) ≠ 0)
    clear h0
    go_step
    refine wpList_load_row rfl 25 _ rfl w2.heap.size rfl 25 cs (0, 0) _ Hy3.out Try.underlying25 rfl hci.out ?_
    refine wpList_load_row rfl 25 _ rfl w4.heap.size rfl 25 cs (0, 0) _ Hz1.out Try.underlying25 rfl hci.out ?_
    go_wp2_with (fail)
    go_ret
    exact ⟨rfl, Hb6.out⟩
set_option maxRecDepth 100000 in
set_option maxHeartbeats 4000000 in
theorem forms_1 (x y : Int) (hx1 : -9223372036854775808 ≤ x) (hx2 : x ≤ 9223372036854775807) (hy1 : -9223372036854775808 ≤ y) (hy2 : y ≤ 9223372036854775807) (hxq : (x.tmod 4 + 4) % 4 = 1) (L : Nat) (hL : L < 4294967296) (F : UInt8) (w : World) :
    Calls Try.prog 4 #[.agg #[.int .i64 x, .int .i64 y], .int .u32 (L : Int), .int .u8 (bz F)] w (TrueP w) := by
  have HKS := Lib.hid stands_any
  obtain ⟨t4, ht4⟩ : ∃ t, x.tmod 4 = t := ⟨_, rfl⟩
  have t1 : -4 < t4 := by rw [← ht4]; have := Int.lt_tmod_of_pos x (by decide : (0 : Int) < 4); omega
  have t2 : t4 < 4 := by rw [← ht4]; exact Int.tmod_lt_of_pos x (by decide)
  rw [ht4] at hxq
  have hxq2 : (t4 + 4).tmod 4 = 1 := by rw [Int.tmod_eq_emod_of_nonneg (by omega)]; exact hxq
  obtain ⟨N, hN⟩ : ∃ N : Nat, IntKind.u16.wrap y = (N : Int) ∧ N < 65536 := ⟨(IntKind.u16.wrap y).toNat, by rw [IntKind.wrap_u16]; omega, by rw [IntKind.wrap_u16]; omega⟩
  obtain ⟨hN, hN2⟩ := hN
  obtain ⟨C3, hC3⟩ : ∃ c, UInt8.ofNat (L / 16777216) = c := ⟨_, rfl⟩
  obtain ⟨C2, hC2⟩ : ∃ c, UInt8.ofNat (L / 65536) = c := ⟨_, rfl⟩
  obtain ⟨C1, hC1⟩ : ∃ c, UInt8.ofNat (L / 256) = c := ⟨_, rfl⟩
  obtain ⟨C0, hC0⟩ : ∃ c, UInt8.ofNat L = c := ⟨_, rfl⟩
  obtain ⟨N1, hN1⟩ : ∃ c, UInt8.ofNat (N / 256) = c := ⟨_, rfl⟩
  obtain ⟨N0, hN0⟩ : ∃ c, UInt8.ofNat N = c := ⟨_, rfl⟩
  have g3 : IntKind.u8.wrap ((L : Int) / 16777216) = bz C3 := by rw [← hC3]; exact byte_at L 24
  have g2 : IntKind.u8.wrap ((L : Int) / 65536) = bz C2 := by rw [← hC2]; exact byte_at L 16
  have g1 : IntKind.u8.wrap ((L : Int) / 256) = bz C1 := by rw [← hC1]; exact byte_at L 8
  have g0 : IntKind.u8.wrap (L : Int) = bz C0 := by rw [← hC0, IntKind.wrap_u8', bz_eq, UInt8.toNat_ofNat']; omega
  have k1 : IntKind.u8.wrap ((N : Int) / 256) = bz N1 := by rw [← hN1]; exact byte_at N 8
  have k0 : IntKind.u8.wrap (N : Int) = bz N0 := by rw [← hN0, IntKind.wrap_u8', bz_eq, UInt8.toNat_ofNat']; omega
  have hsum : ((C3.toNat * 256 + C2.toNat) * 256 + C1.toNat) * 256 + C0.toNat = L := by
    rw [← hC3, ← hC2, ← hC1, ← hC0]
    simp only [UInt8.toNat_ofNat']; omega
  have nsum : N1.toNat * 256 + N0.toNat = N := by
    rw [← hN1, ← hN0]
    simp only [UInt8.toNat_ofNat']; omega
  obtain ⟨hc, ht, hz⟩ := forms_plain 42 138 (by simp) F C3 C2 C1 C0 N1 N0
  rw [hsum, nsum] at hz
  obtain ⟨c, hcc⟩ : ∃ c, rowC [42, F, C3, C2, C1, C0, 0, N1, N0, 0, 0, 0, 0, 0, 0, 0] = c := ⟨_, rfl⟩
  obtain ⟨D, hDD⟩ : ∃ D, decT [42, F, C3, C2, C1, C0, 0, N1, N0, 0, 0, 0, 0, 0, 0, 0] = D := ⟨_, rfl⟩
  have hcas := rowC_cases [42, F, C3, C2, C1, C0, 0, N1, N0, 0, 0, 0, 0, 0, 0, 0]
  rw [hcc] at hc hz hcas
  rw [hDD] at ht hz
  have KA : Hid (∀ W, Calls Try.prog 10 #[.agg #[.int .u8 42, .int .u8 (bz F), .int .u8 (bz C3), .int .u8 (bz C2), .int .u8 (bz C1), .int .u8 (bz C0), .int .u8 0, .int .u8 (bz N1), .int .u8 (bz N0), .int .u8 0, .int .u8 0, .int .u8 0, .int .u8 0, .int .u8 0, .int .u8 0, .int .u8 0]] W (TkP D c W)) := Lib.hid fun W => by
    have := Decode_any [42, F, C3, C2, C1, C0, 0, N1, N0, 0, 0, 0, 0, 0, 0, 0] rfl W
    rw [hDD, hcc] at this
    exact this
  have KB : Hid (∀ W, Calls Try.prog 10 #[.agg #[.int .u8 138, .int .u8 (bz F), .int .u8 0, .int .u8 0, .int .u8 0, .int .u8 0, .int .u8 (bz C3), .int .u8 (bz C2), .int .u8 (bz C1), .int .u8 (bz C0), .int .u8 0, .int .u8 0, .int .u8 (bz N1), .int .u8 (bz N0), .int .u8 0, .int .u8 0]] W (TkP D c W)) := Lib.hid fun W => by
    have := Decode_any [138, F, 0, 0, 0, 0, C3, C2, C1, C0, 0, 0, N1, N0, 0, 0] rfl W
    rw [← ht, ← hc] at this
    exact this
  obtain ⟨o, l, k, f, u, a, s, ty, al, ln, pg, v⟩ := D
  have KA : Hid (∀ W, Calls Try.prog 10 #[.agg #[.int .u8 42, .int .u8 (bz F), .int .u8 (bz C3), .int .u8 (bz C2), .int .u8 (bz C1), .int .u8 (bz C0), .int .u8 0, .int .u8 (bz N1), .int .u8 (bz N0), .int .u8 0, .int .u8 0, .int .u8 0, .int .u8 0, .int .u8 0, .int .u8 0, .int .u8 0]] W (TkG #[.int .i64 (o : Nat), .int .u64 (l : Nat), .int .u64 (k : Nat), .bool f, .bool u, .int .i64 (a : Nat), .int .i64 (s : Nat), .int .i64 (ty : Nat), .int .i64 (al : Nat), .int .i64 (ln : Nat), .int .i64 (pg : Nat), .bool v] (c : Nat) W)) := KA
  have KB : Hid (∀ W, Calls Try.prog 10 #[.agg #[.int .u8 138, .int .u8 (bz F), .int .u8 0, .int .u8 0, .int .u8 0, .int .u8 0, .int .u8 (bz C3), .int .u8 (bz C2), .int .u8 (bz C1), .int .u8 (bz C0), .int .u8 0, .int .u8 0, .int .u8 (bz N1), .int .u8 (bz N0), .int .u8 0, .int .u8 0]] W (TkG #[.int .i64 (o : Nat), .int .u64 (l : Nat), .int .u64 (k : Nat), .bool f, .bool u, .int .i64 (a : Nat), .int .i64 (s : Nat), .int .i64 (ty : Nat), .int .i64 (al : Nat), .int .i64 (ln : Nat), .int .i64 (pg : Nat), .bool v] (c : Nat) W)) := KB
  obtain ⟨cs, Hcs⟩ : ∃ cs : Array Value, Hid (cs = #[.int .i64 (o : Nat), .int .u64 (l : Nat), .int .u64 (k : Nat), .bool f, .bool u, .int .i64 (a : Nat), .int .i64 (s : Nat), .int .i64 (ty : Nat), .int .i64 (al : Nat), .int .i64 (ln : Nat), .int .i64 (pg : Nat), .bool v]) := ⟨_, Lib.hid rfl⟩
  have hci : Hid ((Try.prog.info? 25).map (·.size) = some cs.size) := Lib.hid (by rw [Hcs.out]; exact infoTk)
  have Heq : Hid (∀ W, (binOp .eql 25 (.agg cs) (.agg cs)).run Try.prog W = .ok (.bool true) W) := Lib.hid (task_refl cs ⟨o, l, k, f, u, a, s, ty, al, ln, pg, v⟩ Hcs.out)
  have Hz := Lib.hid hz
  clear hz hc ht hDD hcc hsum nsum hC3 hC2 hC1 hC0 hN1 hN0
  go_enter Try.func4, Try.ntmps4
  go_upto_region 1 with (fail)
  go_quiet (fail)
  go_upto_region 4 with (go_at_call 7; refine (HKS.out _).mono ?_; rintro e w1 ⟨rfl, hb1⟩; have Hb1 := Lib.hid hb1; clear hb1)
  go_upto_region 8 with (fail)
  obtain ⟨av1, Ha1⟩ : ∃ av : Array Value, Hid (av = #[.int .u8 42, .int .u8 (bz F), .int .u8 (bz C3), .int .u8 (bz C2), .int .u8 (bz C1), .int .u8 (bz C0), .int .u8 0, .int .u8 (bz N1), .int .u8 (bz N0), .int .u8 0, .int .u8 0, .int .u8 0, .int .u8 0, .int .u8 0, .int .u8 0, .int .u8 0]) := ⟨_, Lib.hid rfl⟩
  obtain ⟨av2, Ha2⟩ : ∃ av : Array Value, Hid (av = #[.int .u8 138, .int .u8 (bz F), .int .u8 0, .int .u8 0, .int .u8 0, .int .u8 0, .int .u8 (bz C3), .int .u8 (bz C2), .int .u8 (bz C1), .int .u8 (bz C0), .int .u8 0, .int .u8 0, .int .u8 (bz N1), .int .u8 (bz N0), .int .u8 0, .int .u8 0]) := ⟨_, Lib.hid rfl⟩
  have hi1 : Hid ((Try.prog.info? 34).map (·.size) = some av1.size) := Lib.hid (by rw [Ha1.out]; exact infoB16)
  have hi2 : Hid ((Try.prog.info? 34).map (·.size) = some av2.size) := Lib.hid (by rw [Ha2.out]; exact infoB16)
  obtain ⟨e1, e2, e3⟩ := four_at w1 (.cells #[.int .u8 40, .int .u8 136, .int .u8 42, .int .u8 138, .int .u8 65, .int .u8 147, .int .u8 53, .int .u8 145] 32) (.cells #[.int .u8 42, .int .u8 138] 31) (.cells #[.int .u8 42, .int .u8 (bz F), .int .u8 (bz C3), .int .u8 (bz C2), .int .u8 (bz C1), .int .u8 (bz C0), .int .u8 0, .int .u8 (bz N1), .int .u8 (bz N0), .int .u8 0, .int .u8 0, .int .u8 0, .int .u8 0, .int .u8 0, .int .u8 0, .int .u8 0] 34) (.cells #[.int .u8 138, .int .u8 (bz F), .int .u8 0, .int .u8 0, .int .u8 0, .int .u8 0, .int .u8 (bz C3), .int .u8 (bz C2), .int .u8 (bz C1), .int .u8 (bz C0), .int .u8 0, .int .u8 0, .int .u8 (bz N1), .int .u8 (bz N0), .int .u8 0, .int .u8 0] 34)
  have hb0 : Below w.heap.size w w1 := by
    have h := (Below.refl w.heap.size w).alloc (Nat.le_refl _) (.cells #[.int .i64 x, .int .i64 y] 28)
    have h2 : Below w.heap.size w ((w.alloc (.cells #[.int .i64 x, .int .i64 y] 28)).drewN nq) := ⟨h.os, h.tape, h.output, h.size, h.block⟩
    exact stepB h2 Hb1.out
  have Hb2 := Lib.hid (stepB hb0 e3)
  generalize ((((w1.alloc (.cells #[.int .u8 40, .int .u8 136, .int .u8 42, .int .u8 138, .int .u8 65, .int .u8 147, .int .u8 53, .int .u8 145] 32)).alloc (.cells #[.int .u8 42, .int .u8 138] 31)).alloc (.cells #[.int .u8 42, .int .u8 (bz F), .int .u8 (bz C3), .int .u8 (bz C2), .int .u8 (bz C1), .int .u8 (bz C0), .int .u8 0, .int .u8 (bz N1), .int .u8 (bz N0), .int .u8 0, .int .u8 0, .int .u8 0, .int .u8 0, .int .u8 0, .int .u8 0, .int .u8 0] 34)).alloc (.cells #[.int .u8 138, .int .u8 (bz F), .int .u8 0, .int .u8 0, .int .u8 0, .int .u8 0, .int .u8 (bz C3), .int .u8 (bz C2), .int .u8 (bz C1), .int .u8 (bz C0), .int .u8 0, .int .u8 0, .int .u8 (bz N1), .int .u8 (bz N0), .int .u8 0, .int .u8 0] 34)) = wd at e1 e2 e3 Hb2 ⊢
  rw [← Ha1.out] at e1 KA
  rw [← Ha2.out] at e2 KB
  have He1 := Lib.hid e1; have He2 := Lib.hid e2
  clear e1 e2 e3 hb0 Hb1 hN hxq hxq2 ht4 g3 g2 g1 g0 k1 k0
  go_upto_region 9 with (first
    | (refine wpList_load_row rfl 34 _ rfl (w1.heap.size + 1 + 1) rfl 34 av1 (0, 0) _ He1.out Try.underlying34 rfl hi1.out ?_)
    | (go_at_call 10; refine (KA.out _).mono ?_; rintro e w2 ⟨rfl, hb2⟩; have Hb3 := Lib.hid (stepB Hb2.out hb2); have He3 := Lib.hid ((hb2.block _ (Array.getElem?_eq_some_iff.1 He2.out).1).trans He2.out); clear hb2))
  have Hy1 : Hid ((w2.alloc (.cells #[.int .i64 (o : Nat), .int .u64 (l : Nat), .int .u64 (k : Nat), .bool f, .bool u, .int .i64 (a : Nat), .int .i64 (s : Nat), .int .i64 (ty : Nat), .int .i64 (al : Nat), .int .i64 (ln : Nat), .int .i64 (pg : Nat), .bool v] 25)).heap[w2.heap.size]? = some (.cells cs 25 (0, 0))) := Lib.hid (by rw [Hcs.out]; exact heap_alloc_new w2 _)
  have He4 : Hid ((w2.alloc (.cells #[.int .i64 (o : Nat), .int .u64 (l : Nat), .int .u64 (k : Nat), .bool f, .bool u, .int .i64 (a : Nat), .int .i64 (s : Nat), .int .i64 (ty : Nat), .int .i64 (al : Nat), .int .i64 (ln : Nat), .int .i64 (pg : Nat), .bool v] 25)).heap[w1.heap.size + 1 + 1 + 1]? = some (.cells av2 34 (0, 0))) := Lib.hid (by rw [Below.heap_alloc _ _ _ (Array.getElem?_eq_some_iff.1 He3.out).1]; exact He3.out)
  have Hb4 : Hid (Below w.heap.size w (w2.alloc (.cells #[.int .i64 (o : Nat), .int .u64 (l : Nat), .int .u64 (k : Nat), .bool f, .bool u, .int .i64 (a : Nat), .int .i64 (s : Nat), .int .i64 (ty : Nat), .int .i64 (al : Nat), .int .i64 (ln : Nat), .int .i64 (pg : Nat), .bool v] 25))) := Lib.hid (Hb3.out.alloc Hb3.out.size _)
  generalize w2.alloc (.cells #[.int .i64 (o : Nat), .int .u64 (l : Nat), .int .u64 (k : Nat), .bool f, .bool u, .int .i64 (a : Nat), .int .i64 (s : Nat), .int .i64 (ty : Nat), .int .i64 (al : Nat), .int .i64 (ln : Nat), .int .i64 (pg : Nat), .bool v] 25) = w3 at Hy1 He4 Hb4 ⊢
  go_upto_region 10 with (first
    | (refine wpList_load_row rfl 34 _ rfl (w1.heap.size + 1 + 1 + 1) rfl 34 av2 (0, 0) _ He4.out Try.underlying34 rfl hi2.out ?_)
    | (go_at_call 10; refine (KB.out _).mono ?_; rintro e w4 ⟨rfl, hb4⟩; have Hb5 := Lib.hid (stepB Hb4.out hb4); have Hy2 := Lib.hid ((hb4.block _ (Array.getElem?_eq_some_iff.1 Hy1.out).1).trans Hy1.out); clear hb4))
  have Hz1 : Hid ((w4.alloc (.cells #[.int .i64 (o : Nat), .int .u64 (l : Nat), .int .u64 (k : Nat), .bool f, .bool u, .int .i64 (a : Nat), .int .i64 (s : Nat), .int .i64 (ty : Nat), .int .i64 (al : Nat), .int .i64 (ln : Nat), .int .i64 (pg : Nat), .bool v] 25)).heap[w4.heap.size]? = some (.cells cs 25 (0, 0))) := Lib.hid (by rw [Hcs.out]; exact heap_alloc_new w4 _)
  have Hy3 : Hid ((w4.alloc (.cells #[.int .i64 (o : Nat), .int .u64 (l : Nat), .int .u64 (k : Nat), .bool f, .bool u, .int .i64 (a : Nat), .int .i64 (s : Nat), .int .i64 (ty : Nat), .int .i64 (al : Nat), .int .i64 (ln : Nat), .int .i64 (pg : Nat), .bool v] 25)).heap[w2.heap.size]? = some (.cells cs 25 (0, 0))) := Lib.hid (by rw [Below.heap_alloc _ _ _ (Array.getElem?_eq_some_iff.1 Hy2.out).1]; exact Hy2.out)
  have Hb6 : Hid (Below w.heap.size w (w4.alloc (.cells #[.int .i64 (o : Nat), .int .u64 (l : Nat), .int .u64 (k : Nat), .bool f, .bool u, .int .i64 (a : Nat), .int .i64 (s : Nat), .int .i64 (ty : Nat), .int .i64 (al : Nat), .int .i64 (ln : Nat), .int .i64 (pg : Nat), .bool v] 25))) := Lib.hid (Hb5.out.alloc Hb5.out.size _)
  generalize w4.alloc (.cells #[.int .i64 (o : Nat), .int .u64 (l : Nat), .int .u64 (k : Nat), .bool f, .bool u, .int .i64 (a : Nat), .int .i64 (s : Nat), .int .i64 (ty : Nat), .int .i64 (al : Nat), .int .i64 (ln : Nat), .int .i64 (pg : Nat), .bool v] 25) = w5 at Hz1 Hy3 Hb6 ⊢
  have heq := Heq.out
  have HLD1 := Lib.hid (load_task Hy3.out hci.out)
  have HLD2 := Lib.hid (load_task Hz1.out hci.out)
  have hy := Hy3.out
  rw [Hcs.out] at hy
  have d1 : w5.cell? ⟨w2.heap.size, 1, none⟩ = some (.int .u64 (l : Nat)) := cell_of_row w5 _ 1 _ _ _ hy
  have d2 : w5.cell? ⟨w2.heap.size, 2, none⟩ = some (.int .u64 (k : Nat)) := cell_of_row w5 _ 2 _ _ _ hy
  have Hcc : Hid (((c : Int) == (c : Int)) = true) := Lib.hid (by simp)
  have hw1 : IntKind.u64.wrap (L : Int) = (L : Int) := by rw [IntKind.wrap_u64]; omega
  have hw2 : IntKind.u64.wrap (N : Int) = (N : Int) := by rw [IntKind.wrap_u64]; omega
  clear KA KB hy
  by_cases h0 : c = 0
  · subst h0
    obtain ⟨rfl, rfl⟩ : l = L ∧ k = N := Hz.out rfl
    clear Hz Hcc
    go_step
    refine wpList_load_row rfl 25 _ rfl w2.heap.size rfl 25 cs (0, 0) _ Hy3.out Try.underlying25 rfl hci.out ?_
    refine wpList_load_row rfl 25 _ rfl w4.heap.size rfl 25 cs (0, 0) _ Hz1.out Try.underlying25 rfl hci.out ?_
    go_wp2_with (fail)
    all_goals
      go_ret
      exact ⟨rfl, Hb6.out⟩
  · clear Hz Hcc
    have hn0 : ((c : Int) != 0) = true := by simpa using (by omega : (c : Int) ≠ 0)
    clear h0
    go_step
    refine wpList_load_row rfl 25 _ rfl w2.heap.size rfl 25 cs (0, 0) _ Hy3.out Try.underlying25 rfl hci.out ?_
    refine wpList_load_row rfl 25 _ rfl w4.heap.size rfl 25 cs (0, 0) _ Hz1.out Try.underlying25 rfl hci.out ?_
    go_wp2_with (fail)
    go_ret
    exact ⟨rfl, Hb6.out⟩
set_option maxRecDepth 100000 in
set_option maxHeartbeats 4000000 in
theorem forms_2 (x y : Int) (hx1 : -9223372036854775808 ≤ x) (hx2 : x ≤ 9223372036854775807) (hy1 : -9223372036854775808 ≤ y) (hy2 : y ≤ 9223372036854775807) (hxq : (x.tmod 4 + 4) % 4 = 2) (L : Nat) (hL : L < 4294967296) (F : UInt8) (w : World) :
    Calls Try.prog 4 #[.agg #[.int .i64 x, .int .i64 y], .int .u32 (L : Int), .int .u8 (bz F)] w (TrueP w) := by
  have HKS := Lib.hid stands_any
  obtain ⟨t4, ht4⟩ : ∃ t, x.tmod 4 = t := ⟨_, rfl⟩
  have t1 : -4 < t4 := by rw [← ht4]; have := Int.lt_tmod_of_pos x (by decide : (0 : Int) < 4); omega
  have t2 : t4 < 4 := by rw [← ht4]; exact Int.tmod_lt_of_pos x (by decide)
  rw [ht4] at hxq
  have hxq2 : (t4 + 4).tmod 4 = 2 := by rw [Int.tmod_eq_emod_of_nonneg (by omega)]; exact hxq
  obtain ⟨N, hN⟩ : ∃ N : Nat, IntKind.u16.wrap y = (N : Int) ∧ N < 65536 := ⟨(IntKind.u16.wrap y).toNat, by rw [IntKind.wrap_u16]; omega, by rw [IntKind.wrap_u16]; omega⟩
  obtain ⟨hN, hN2⟩ := hN
  obtain ⟨C3, hC3⟩ : ∃ c, UInt8.ofNat (L / 16777216) = c := ⟨_, rfl⟩
  obtain ⟨C2, hC2⟩ : ∃ c, UInt8.ofNat (L / 65536) = c := ⟨_, rfl⟩
  obtain ⟨C1, hC1⟩ : ∃ c, UInt8.ofNat (L / 256) = c := ⟨_, rfl⟩
  obtain ⟨C0, hC0⟩ : ∃ c, UInt8.ofNat L = c := ⟨_, rfl⟩
  obtain ⟨N1, hN1⟩ : ∃ c, UInt8.ofNat (N / 256) = c := ⟨_, rfl⟩
  obtain ⟨N0, hN0⟩ : ∃ c, UInt8.ofNat N = c := ⟨_, rfl⟩
  have g3 : IntKind.u8.wrap ((L : Int) / 16777216) = bz C3 := by rw [← hC3]; exact byte_at L 24
  have g2 : IntKind.u8.wrap ((L : Int) / 65536) = bz C2 := by rw [← hC2]; exact byte_at L 16
  have g1 : IntKind.u8.wrap ((L : Int) / 256) = bz C1 := by rw [← hC1]; exact byte_at L 8
  have g0 : IntKind.u8.wrap (L : Int) = bz C0 := by rw [← hC0, IntKind.wrap_u8', bz_eq, UInt8.toNat_ofNat']; omega
  have k1 : IntKind.u8.wrap ((N : Int) / 256) = bz N1 := by rw [← hN1]; exact byte_at N 8
  have k0 : IntKind.u8.wrap (N : Int) = bz N0 := by rw [← hN0, IntKind.wrap_u8', bz_eq, UInt8.toNat_ofNat']; omega
  have hsum : ((C3.toNat * 256 + C2.toNat) * 256 + C1.toNat) * 256 + C0.toNat = L := by
    rw [← hC3, ← hC2, ← hC1, ← hC0]
    simp only [UInt8.toNat_ofNat']; omega
  have nsum : N1.toNat * 256 + N0.toNat = N := by
    rw [← hN1, ← hN0]
    simp only [UInt8.toNat_ofNat']; omega
  obtain ⟨hc, ht, hz⟩ := forms_plain 65 147 (by simp) F C3 C2 C1 C0 N1 N0
  rw [hsum, nsum] at hz
  obtain ⟨c, hcc⟩ : ∃ c, rowC [65, F, C3, C2, C1, C0, 0, N1, N0, 0, 0, 0, 0, 0, 0, 0] = c := ⟨_, rfl⟩
  obtain ⟨D, hDD⟩ : ∃ D, decT [65, F, C3, C2, C1, C0, 0, N1, N0, 0, 0, 0, 0, 0, 0, 0] = D := ⟨_, rfl⟩
  have hcas := rowC_cases [65, F, C3, C2, C1, C0, 0, N1, N0, 0, 0, 0, 0, 0, 0, 0]
  rw [hcc] at hc hz hcas
  rw [hDD] at ht hz
  have KA : Hid (∀ W, Calls Try.prog 10 #[.agg #[.int .u8 65, .int .u8 (bz F), .int .u8 (bz C3), .int .u8 (bz C2), .int .u8 (bz C1), .int .u8 (bz C0), .int .u8 0, .int .u8 (bz N1), .int .u8 (bz N0), .int .u8 0, .int .u8 0, .int .u8 0, .int .u8 0, .int .u8 0, .int .u8 0, .int .u8 0]] W (TkP D c W)) := Lib.hid fun W => by
    have := Decode_any [65, F, C3, C2, C1, C0, 0, N1, N0, 0, 0, 0, 0, 0, 0, 0] rfl W
    rw [hDD, hcc] at this
    exact this
  have KB : Hid (∀ W, Calls Try.prog 10 #[.agg #[.int .u8 147, .int .u8 (bz F), .int .u8 0, .int .u8 0, .int .u8 0, .int .u8 0, .int .u8 (bz C3), .int .u8 (bz C2), .int .u8 (bz C1), .int .u8 (bz C0), .int .u8 0, .int .u8 0, .int .u8 (bz N1), .int .u8 (bz N0), .int .u8 0, .int .u8 0]] W (TkP D c W)) := Lib.hid fun W => by
    have := Decode_any [147, F, 0, 0, 0, 0, C3, C2, C1, C0, 0, 0, N1, N0, 0, 0] rfl W
    rw [← ht, ← hc] at this
    exact this
  obtain ⟨o, l, k, f, u, a, s, ty, al, ln, pg, v⟩ := D
  have KA : Hid (∀ W, Calls Try.prog 10 #[.agg #[.int .u8 65, .int .u8 (bz F), .int .u8 (bz C3), .int .u8 (bz C2), .int .u8 (bz C1), .int .u8 (bz C0), .int .u8 0, .int .u8 (bz N1), .int .u8 (bz N0), .int .u8 0, .int .u8 0, .int .u8 0, .int .u8 0, .int .u8 0, .int .u8 0, .int .u8 0]] W (TkG #[.int .i64 (o : Nat), .int .u64 (l : Nat), .int .u64 (k : Nat), .bool f, .bool u, .int .i64 (a : Nat), .int .i64 (s : Nat), .int .i64 (ty : Nat), .int .i64 (al : Nat), .int .i64 (ln : Nat), .int .i64 (pg : Nat), .bool v] (c : Nat) W)) := KA
  have KB : Hid (∀ W, Calls Try.prog 10 #[.agg #[.int .u8 147, .int .u8 (bz F), .int .u8 0, .int .u8 0, .int .u8 0, .int .u8 0, .int .u8 (bz C3), .int .u8 (bz C2), .int .u8 (bz C1), .int .u8 (bz C0), .int .u8 0, .int .u8 0, .int .u8 (bz N1), .int .u8 (bz N0), .int .u8 0, .int .u8 0]] W (TkG #[.int .i64 (o : Nat), .int .u64 (l : Nat), .int .u64 (k : Nat), .bool f, .bool u, .int .i64 (a : Nat), .int .i64 (s : Nat), .int .i64 (ty : Nat), .int .i64 (al : Nat), .int .i64 (ln : Nat), .int .i64 (pg : Nat), .bool v] (c : Nat) W)) := KB
  obtain ⟨cs, Hcs⟩ : ∃ cs : Array Value, Hid (cs = #[.int .i64 (o : Nat), .int .u64 (l : Nat), .int .u64 (k : Nat), .bool f, .bool u, .int .i64 (a : Nat), .int .i64 (s : Nat), .int .i64 (ty : Nat), .int .i64 (al : Nat), .int .i64 (ln : Nat), .int .i64 (pg : Nat), .bool v]) := ⟨_, Lib.hid rfl⟩
  have hci : Hid ((Try.prog.info? 25).map (·.size) = some cs.size) := Lib.hid (by rw [Hcs.out]; exact infoTk)
  have Heq : Hid (∀ W, (binOp .eql 25 (.agg cs) (.agg cs)).run Try.prog W = .ok (.bool true) W) := Lib.hid (task_refl cs ⟨o, l, k, f, u, a, s, ty, al, ln, pg, v⟩ Hcs.out)
  have Hz := Lib.hid hz
  clear hz hc ht hDD hcc hsum nsum hC3 hC2 hC1 hC0 hN1 hN0
  go_enter Try.func4, Try.ntmps4
  go_upto_region 1 with (fail)
  go_quiet (fail)
  go_upto_region 4 with (go_at_call 7; refine (HKS.out _).mono ?_; rintro e w1 ⟨rfl, hb1⟩; have Hb1 := Lib.hid hb1; clear hb1)
  go_upto_region 8 with (fail)
  obtain ⟨av1, Ha1⟩ : ∃ av : Array Value, Hid (av = #[.int .u8 65, .int .u8 (bz F), .int .u8 (bz C3), .int .u8 (bz C2), .int .u8 (bz C1), .int .u8 (bz C0), .int .u8 0, .int .u8 (bz N1), .int .u8 (bz N0), .int .u8 0, .int .u8 0, .int .u8 0, .int .u8 0, .int .u8 0, .int .u8 0, .int .u8 0]) := ⟨_, Lib.hid rfl⟩
  obtain ⟨av2, Ha2⟩ : ∃ av : Array Value, Hid (av = #[.int .u8 147, .int .u8 (bz F), .int .u8 0, .int .u8 0, .int .u8 0, .int .u8 0, .int .u8 (bz C3), .int .u8 (bz C2), .int .u8 (bz C1), .int .u8 (bz C0), .int .u8 0, .int .u8 0, .int .u8 (bz N1), .int .u8 (bz N0), .int .u8 0, .int .u8 0]) := ⟨_, Lib.hid rfl⟩
  have hi1 : Hid ((Try.prog.info? 34).map (·.size) = some av1.size) := Lib.hid (by rw [Ha1.out]; exact infoB16)
  have hi2 : Hid ((Try.prog.info? 34).map (·.size) = some av2.size) := Lib.hid (by rw [Ha2.out]; exact infoB16)
  obtain ⟨e1, e2, e3⟩ := four_at w1 (.cells #[.int .u8 40, .int .u8 136, .int .u8 42, .int .u8 138, .int .u8 65, .int .u8 147, .int .u8 53, .int .u8 145] 32) (.cells #[.int .u8 65, .int .u8 147] 31) (.cells #[.int .u8 65, .int .u8 (bz F), .int .u8 (bz C3), .int .u8 (bz C2), .int .u8 (bz C1), .int .u8 (bz C0), .int .u8 0, .int .u8 (bz N1), .int .u8 (bz N0), .int .u8 0, .int .u8 0, .int .u8 0, .int .u8 0, .int .u8 0, .int .u8 0, .int .u8 0] 34) (.cells #[.int .u8 147, .int .u8 (bz F), .int .u8 0, .int .u8 0, .int .u8 0, .int .u8 0, .int .u8 (bz C3), .int .u8 (bz C2), .int .u8 (bz C1), .int .u8 (bz C0), .int .u8 0, .int .u8 0, .int .u8 (bz N1), .int .u8 (bz N0), .int .u8 0, .int .u8 0] 34)
  have hb0 : Below w.heap.size w w1 := by
    have h := (Below.refl w.heap.size w).alloc (Nat.le_refl _) (.cells #[.int .i64 x, .int .i64 y] 28)
    have h2 : Below w.heap.size w ((w.alloc (.cells #[.int .i64 x, .int .i64 y] 28)).drewN nq) := ⟨h.os, h.tape, h.output, h.size, h.block⟩
    exact stepB h2 Hb1.out
  have Hb2 := Lib.hid (stepB hb0 e3)
  generalize ((((w1.alloc (.cells #[.int .u8 40, .int .u8 136, .int .u8 42, .int .u8 138, .int .u8 65, .int .u8 147, .int .u8 53, .int .u8 145] 32)).alloc (.cells #[.int .u8 65, .int .u8 147] 31)).alloc (.cells #[.int .u8 65, .int .u8 (bz F), .int .u8 (bz C3), .int .u8 (bz C2), .int .u8 (bz C1), .int .u8 (bz C0), .int .u8 0, .int .u8 (bz N1), .int .u8 (bz N0), .int .u8 0, .int .u8 0, .int .u8 0, .int .u8 0, .int .u8 0, .int .u8 0, .int .u8 0] 34)).alloc (.cells #[.int .u8 147, .int .u8 (bz F), .int .u8 0, .int .u8 0, .int .u8 0, .int .u8 0, .int .u8 (bz C3), .int .u8 (bz C2), .int .u8 (bz C1), .int .u8 (bz C0), .int .u8 0, .int .u8 0, .int .u8 (bz N1), .int .u8 (bz N0), .int .u8 0, .int .u8 0] 34)) = wd at e1 e2 e3 Hb2 ⊢
  rw [← Ha1.out] at e1 KA
  rw [← Ha2.out] at e2 KB
  have He1 := Lib.hid e1; have He2 := Lib.hid e2
  clear e1 e2 e3 hb0 Hb1 hN hxq hxq2 ht4 g3 g2 g1 g0 k1 k0
  go_upto_region 9 with (first
    | (refine wpList_load_row rfl 34 _ rfl (w1.heap.size + 1 + 1) rfl 34 av1 (0, 0) _ He1.out Try.underlying34 rfl hi1.out ?_)
    | (go_at_call 10; refine (KA.out _).mono ?_; rintro e w2 ⟨rfl, hb2⟩; have Hb3 := Lib.hid (stepB Hb2.out hb2); have He3 := Lib.hid ((hb2.block _ (Array.getElem?_eq_some_iff.1 He2.out).1).trans He2.out); clear hb2))
  have Hy1 : Hid ((w2.alloc (.cells #[.int .i64 (o : Nat), .int .u64 (l : Nat), .int .u64 (k : Nat), .bool f, .bool u, .int .i64 (a : Nat), .int .i64 (s : Nat), .int .i64 (ty : Nat), .int .i64 (al : Nat), .int .i64 (ln : Nat), .int .i64 (pg : Nat), .bool v] 25)).heap[w2.heap.size]? = some (.cells cs 25 (0, 0))) := Lib.hid (by rw [Hcs.out]; exact heap_alloc_new w2 _)
  have He4 : Hid ((w2.alloc (.cells #[.int .i64 (o : Nat), .int .u64 (l : Nat), .int .u64 (k : Nat), .bool f, .bool u, .int .i64 (a : Nat), .int .i64 (s : Nat), .int .i64 (ty : Nat), .int .i64 (al : Nat), .int .i64 (ln : Nat), .int .i64 (pg : Nat), .bool v] 25)).heap[w1.heap.size + 1 + 1 + 1]? = some (.cells av2 34 (0, 0))) := Lib.hid (by rw [Below.heap_alloc _ _ _ (Array.getElem?_eq_some_iff.1 He3.out).1]; exact He3.out)
  have Hb4 : Hid (Below w.heap.size w (w2.alloc (.cells #[.int .i64 (o : Nat), .int .u64 (l : Nat), .int .u64 (k : Nat), .bool f, .bool u, .int .i64 (a : Nat), .int .i64 (s : Nat), .int .i64 (ty : Nat), .int .i64 (al : Nat), .int .i64 (ln : Nat), .int .i64 (pg : Nat), .bool v] 25))) := Lib.hid (Hb3.out.alloc Hb3.out.size _)
  generalize w2.alloc (.cells #[.int .i64 (o : Nat), .int .u64 (l : Nat), .int .u64 (k : Nat), .bool f, .bool u, .int .i64 (a : Nat), .int .i64 (s : Nat), .int .i64 (ty : Nat), .int .i64 (al : Nat), .int .i64 (ln : Nat), .int .i64 (pg : Nat), .bool v] 25) = w3 at Hy1 He4 Hb4 ⊢
  go_upto_region 10 with (first
    | (refine wpList_load_row rfl 34 _ rfl (w1.heap.size + 1 + 1 + 1) rfl 34 av2 (0, 0) _ He4.out Try.underlying34 rfl hi2.out ?_)
    | (go_at_call 10; refine (KB.out _).mono ?_; rintro e w4 ⟨rfl, hb4⟩; have Hb5 := Lib.hid (stepB Hb4.out hb4); have Hy2 := Lib.hid ((hb4.block _ (Array.getElem?_eq_some_iff.1 Hy1.out).1).trans Hy1.out); clear hb4))
  have Hz1 : Hid ((w4.alloc (.cells #[.int .i64 (o : Nat), .int .u64 (l : Nat), .int .u64 (k : Nat), .bool f, .bool u, .int .i64 (a : Nat), .int .i64 (s : Nat), .int .i64 (ty : Nat), .int .i64 (al : Nat), .int .i64 (ln : Nat), .int .i64 (pg : Nat), .bool v] 25)).heap[w4.heap.size]? = some (.cells cs 25 (0, 0))) := Lib.hid (by rw [Hcs.out]; exact heap_alloc_new w4 _)
  have Hy3 : Hid ((w4.alloc (.cells #[.int .i64 (o : Nat), .int .u64 (l : Nat), .int .u64 (k : Nat), .bool f, .bool u, .int .i64 (a : Nat), .int .i64 (s : Nat), .int .i64 (ty : Nat), .int .i64 (al : Nat), .int .i64 (ln : Nat), .int .i64 (pg : Nat), .bool v] 25)).heap[w2.heap.size]? = some (.cells cs 25 (0, 0))) := Lib.hid (by rw [Below.heap_alloc _ _ _ (Array.getElem?_eq_some_iff.1 Hy2.out).1]; exact Hy2.out)
  have Hb6 : Hid (Below w.heap.size w (w4.alloc (.cells #[.int .i64 (o : Nat), .int .u64 (l : Nat), .int .u64 (k : Nat), .bool f, .bool u, .int .i64 (a : Nat), .int .i64 (s : Nat), .int .i64 (ty : Nat), .int .i64 (al : Nat), .int .i64 (ln : Nat), .int .i64 (pg : Nat), .bool v] 25))) := Lib.hid (Hb5.out.alloc Hb5.out.size _)
  generalize w4.alloc (.cells #[.int .i64 (o : Nat), .int .u64 (l : Nat), .int .u64 (k : Nat), .bool f, .bool u, .int .i64 (a : Nat), .int .i64 (s : Nat), .int .i64 (ty : Nat), .int .i64 (al : Nat), .int .i64 (ln : Nat), .int .i64 (pg : Nat), .bool v] 25) = w5 at Hz1 Hy3 Hb6 ⊢
  have heq := Heq.out
  have HLD1 := Lib.hid (load_task Hy3.out hci.out)
  have HLD2 := Lib.hid (load_task Hz1.out hci.out)
  have hy := Hy3.out
  rw [Hcs.out] at hy
  have d1 : w5.cell? ⟨w2.heap.size, 1, none⟩ = some (.int .u64 (l : Nat)) := cell_of_row w5 _ 1 _ _ _ hy
  have d2 : w5.cell? ⟨w2.heap.size, 2, none⟩ = some (.int .u64 (k : Nat)) := cell_of_row w5 _ 2 _ _ _ hy
  have Hcc : Hid (((c : Int) == (c : Int)) = true) := Lib.hid (by simp)
  have hw1 : IntKind.u64.wrap (L : Int) = (L : Int) := by rw [IntKind.wrap_u64]; omega
  have hw2 : IntKind.u64.wrap (N : Int) = (N : Int) := by rw [IntKind.wrap_u64]; omega
  clear KA KB hy
  by_cases h0 : c = 0
  · subst h0
    obtain ⟨rfl, rfl⟩ : l = L ∧ k = N := Hz.out rfl
    clear Hz Hcc
    go_step
    refine wpList_load_row rfl 25 _ rfl w2.heap.size rfl 25 cs (0, 0) _ Hy3.out Try.underlying25 rfl hci.out ?_
    refine wpList_load_row rfl 25 _ rfl w4.heap.size rfl 25 cs (0, 0) _ Hz1.out Try.underlying25 rfl hci.out ?_
    go_wp2_with (fail)
    all_goals
      go_ret
      exact ⟨rfl, Hb6.out⟩
  · clear Hz Hcc
    have hn0 : ((c : Int) != 0) = true := by simpa using (by omega : (c : Int) ≠ 0)
    clear h0
    go_step
    refine wpList_load_row rfl 25 _ rfl w2.heap.size rfl 25 cs (0, 0) _ Hy3.out Try.underlying25 rfl hci.out ?_
    refine wpList_load_row rfl 25 _ rfl w4.heap.size rfl 25 cs (0, 0) _ Hz1.out Try.underlying25 rfl hci.out ?_
    go_wp2_with (fail)
    go_ret
    exact ⟨rfl, Hb6.out⟩
set_option maxRecDepth 100000 in
set_option maxHeartbeats 4000000 in
theorem forms_3 (x y : Int) (hx1 : -9223372036854775808 ≤ x) (hx2 : x ≤ 9223372036854775807) (hy1 : -9223372036854775808 ≤ y) (hy2 : y ≤ 9223372036854775807) (hxq : (x.tmod 4 + 4) % 4 = 3) (L : Nat) (hL : L < 4294967296) (F : UInt8) (w : World) :
    Calls Try.prog 4 #[.agg #[.int .i64 x, .int .i64 y], .int .u32 (L : Int), .int .u8 (bz F)] w (TrueP w) := by
  have HKS := Lib.hid stands_any
  obtain ⟨t4, ht4⟩ : ∃ t, x.tmod 4 = t := ⟨_, rfl⟩
  have t1 : -4 < t4 := by rw [← ht4]; have := Int.lt_tmod_of_pos x (by decide : (0 : Int) < 4); omega
  have t2 : t4 < 4 := by rw [← ht4]; exact Int.tmod_lt_of_pos x (by decide)
  rw [ht4] at hxq
  have hxq2 : (t4 + 4).tmod 4 = 3 := by rw [Int.tmod_eq_emod_of_nonneg (by omega)]; exact hxq
  obtain ⟨N, hN⟩ : ∃ N : Nat, IntKind.u16.wrap y = (N : Int) ∧ N < 65536 := ⟨(IntKind.u16.wrap y).toNat, by rw [IntKind.wrap_u16]; omega, by rw [IntKind.wrap_u16]; omega⟩
  obtain ⟨hN, hN2⟩ := hN
  obtain ⟨C3, hC3⟩ : ∃ c, UInt8.ofNat (L / 16777216) = c := ⟨_, rfl⟩
  obtain ⟨C2, hC2⟩ : ∃ c, UInt8.ofNat (L / 65536) = c := ⟨_, rfl⟩
  obtain ⟨C1, hC1⟩ : ∃ c, UInt8.ofNat (L / 256) = c := ⟨_, rfl⟩
  obtain ⟨C0, hC0⟩ : ∃ c, UInt8.ofNat L = c := ⟨_, rfl⟩
  obtain ⟨N1, hN1⟩ : ∃ c, UInt8.ofNat (N / 256) = c := ⟨_, rfl⟩
  obtain ⟨N0, hN0⟩ : ∃ c, UInt8.ofNat N = c := ⟨_, rfl⟩
  have g3 : IntKind.u8.wrap ((L : Int) / 16777216) = bz C3 := by rw [← hC3]; exact byte_at L 24
  have g2 : IntKind.u8.wrap ((L : Int) / 65536) = bz C2 := by rw [← hC2]; exact byte_at L 16
  have g1 : IntKind.u8.wrap ((L : Int) / 256) = bz C1 := by rw [← hC1]; exact byte_at L 8
  have g0 : IntKind.u8.wrap (L : Int) = bz C0 := by rw [← hC0, IntKind.wrap_u8', bz_eq, UInt8.toNat_ofNat']; omega
  have k1 : IntKind.u8.wrap ((N : Int) / 256) = bz N1 := by rw [← hN1]; exact byte_at N 8
  have k0 : IntKind.u8.wrap (N : Int) = bz N0 := by rw [← hN0, IntKind.wrap_u8', bz_eq, UInt8.toNat_ofNat']; omega
  have hsum : ((C3.toNat * 256 + C2.toNat) * 256 + C1.toNat) * 256 + C0.toNat = L := by
    rw [← hC3, ← hC2, ← hC1, ← hC0]
    simp only [UInt8.toNat_ofNat']; omega
  have nsum : N1.toNat * 256 + N0.toNat = N := by
    rw [← hN1, ← hN0]
    simp only [UInt8.toNat_ofNat']; omega
  obtain ⟨hc, ht, hz⟩ := forms_plain 53 145 (by simp) F C3 C2 C1 C0 N1 N0
  rw [hsum, nsum] at hz
  obtain ⟨c, hcc⟩ : ∃ c, rowC [53, F, C3, C2, C1, C0, 0, N1, N0, 0, 0, 0, 0, 0, 0, 0] = c := ⟨_, rfl⟩
  obtain ⟨D, hDD⟩ : ∃ D, decT [53, F, C3, C2, C1, C0, 0, N1, N0, 0, 0, 0, 0, 0, 0, 0] = D := ⟨_, rfl⟩
  have hcas := rowC_cases [53, F, C3, C2, C1, C0, 0, N1, N0, 0, 0, 0, 0, 0, 0, 0]
  rw [hcc] at hc hz hcas
  rw [hDD] at ht hz
  have KA : Hid (∀ W, Calls Try.prog 10 #[.agg #[.int .u8 53, .int .u8 (bz F), .int .u8 (bz C3), .int .u8 (bz C2), .int .u8 (bz C1), .int .u8 (bz C0), .int .u8 0, .int .u8 (bz N1), .int .u8 (bz N0), .int .u8 0, .int .u8 0, .int .u8 0, .int .u8 0, .int .u8 0, .int .u8 0, .int .u8 0]] W (TkP D c W)) := Lib.hid fun W => by
    have := Decode_any [53, F, C3, C2, C1, C0, 0, N1, N0, 0, 0, 0, 0, 0, 0, 0] rfl W
    rw [hDD, hcc] at this
    exact this
  have KB : Hid (∀ W, Calls Try.prog 10 #[.agg #[.int .u8 145, .int .u8 (bz F), .int .u8 0, .int .u8 0, .int .u8 0, .int .u8 0, .int .u8 (bz C3), .int .u8 (bz C2), .int .u8 (bz C1), .int .u8 (bz C0), .int .u8 0, .int .u8 0, .int .u8 (bz N1), .int .u8 (bz N0), .int .u8 0, .int .u8 0]] W (TkP D c W)) := Lib.hid fun W => by
    have := Decode_any [145, F, 0, 0, 0, 0, C3, C2, C1, C0, 0, 0, N1, N0, 0, 0] rfl W
    rw [← ht, ← hc] at this
    exact this
  obtain ⟨o, l, k, f, u, a, s, ty, al, ln, pg, v⟩ := D
  have KA : Hid (∀ W, Calls Try.prog 10 #[.agg #[.int .u8 53, .int .u8 (bz F), .int .u8 (bz C3), .int .u8 (bz C2), .int .u8 (bz C1), .int .u8 (bz C0), .int .u8 0, .int .u8 (bz N1), .int .u8 (bz N0), .int .u8 0, .int .u8 0, .int .u8 0, .int .u8 0, .int .u8 0, .int .u8 0, .int .u8 0]] W (TkG #[.int .i64 (o : Nat), .int .u64 (l : Nat), .int .u64 (k : Nat), .bool f, .bool u, .int .i64 (a : Nat), .int .i64 (s : Nat), .int .i64 (ty : Nat), .int .i64 (al : Nat), .int .i64 (ln : Nat), .int .i64 (pg : Nat), .bool v] (c : Nat) W)) := KA
  have KB : Hid (∀ W, Calls Try.prog 10 #[.agg #[.int .u8 145, .int .u8 (bz F), .int .u8 0, .int .u8 0, .int .u8 0, .int .u8 0, .int .u8 (bz C3), .int .u8 (bz C2), .int .u8 (bz C1), .int .u8 (bz C0), .int .u8 0, .int .u8 0, .int .u8 (bz N1), .int .u8 (bz N0), .int .u8 0, .int .u8 0]] W (TkG #[.int .i64 (o : Nat), .int .u64 (l : Nat), .int .u64 (k : Nat), .bool f, .bool u, .int .i64 (a : Nat), .int .i64 (s : Nat), .int .i64 (ty : Nat), .int .i64 (al : Nat), .int .i64 (ln : Nat), .int .i64 (pg : Nat), .bool v] (c : Nat) W)) := KB
  obtain ⟨cs, Hcs⟩ : ∃ cs : Array Value, Hid (cs = #[.int .i64 (o : Nat), .int .u64 (l : Nat), .int .u64 (k : Nat), .bool f, .bool u, .int .i64 (a : Nat), .int .i64 (s : Nat), .int .i64 (ty : Nat), .int .i64 (al : Nat), .int .i64 (ln : Nat), .int .i64 (pg : Nat), .bool v]) := ⟨_, Lib.hid rfl⟩
  have hci : Hid ((Try.prog.info? 25).map (·.size) = some cs.size) := Lib.hid (by rw [Hcs.out]; exact infoTk)
  have Heq : Hid (∀ W, (binOp .eql 25 (.agg cs) (.agg cs)).run Try.prog W = .ok (.bool true) W) := Lib.hid (task_refl cs ⟨o, l, k, f, u, a, s, ty, al, ln, pg, v⟩ Hcs.out)
  have Hz := Lib.hid hz
  clear hz hc ht hDD hcc hsum nsum hC3 hC2 hC1 hC0 hN1 hN0
  go_enter Try.func4, Try.ntmps4
  go_upto_region 1 with (fail)
  go_quiet (fail)
  go_upto_region 4 with (go_at_call 7; refine (HKS.out _).mono ?_; rintro e w1 ⟨rfl, hb1⟩; have Hb1 := Lib.hid hb1; clear hb1)
  go_upto_region 8 with (fail)
  obtain ⟨av1, Ha1⟩ : ∃ av : Array Value, Hid (av = #[.int .u8 53, .int .u8 (bz F), .int .u8 (bz C3), .int .u8 (bz C2), .int .u8 (bz C1), .int .u8 (bz C0), .int .u8 0, .int .u8 (bz N1), .int .u8 (bz N0), .int .u8 0, .int .u8 0, .int .u8 0, .int .u8 0, .int .u8 0, .int .u8 0, .int .u8 0]) := ⟨_, Lib.hid rfl⟩
  obtain ⟨av2, Ha2⟩ : ∃ av : Array Value, Hid (av = #[.int .u8 145, .int .u8 (bz F), .int .u8 0, .int .u8 0, .int .u8 0, .int .u8 0, .int .u8 (bz C3), .int .u8 (bz C2), .int .u8 (bz C1), .int .u8 (bz C0), .int .u8 0, .int .u8 0, .int .u8 (bz N1), .int .u8 (bz N0), .int .u8 0, .int .u8 0]) := ⟨_, Lib.hid rfl⟩
  have hi1 : Hid ((Try.prog.info? 34).map (·.size) = some av1.size) := Lib.hid (by rw [Ha1.out]; exact infoB16)
  have hi2 : Hid ((Try.prog.info? 34).map (·.size) = some av2.size) := Lib.hid (by rw [Ha2.out]; exact infoB16)
  obtain ⟨e1, e2, e3⟩ := four_at w1 (.cells #[.int .u8 40, .int .u8 136, .int .u8 42, .int .u8 138, .int .u8 65, .int .u8 147, .int .u8 53, .int .u8 145] 32) (.cells #[.int .u8 53, .int .u8 145] 31) (.cells #[.int .u8 53, .int .u8 (bz F), .int .u8 (bz C3), .int .u8 (bz C2), .int .u8 (bz C1), .int .u8 (bz C0), .int .u8 0, .int .u8 (bz N1), .int .u8 (bz N0), .int .u8 0, .int .u8 0, .int .u8 0, .int .u8 0, .int .u8 0, .int .u8 0, .int .u8 0] 34) (.cells #[.int .u8 145, .int .u8 (bz F), .int .u8 0, .int .u8 0, .int .u8 0, .int .u8 0, .int .u8 (bz C3), .int .u8 (bz C2), .int .u8 (bz C1), .int .u8 (bz C0), .int .u8 0, .int .u8 0, .int .u8 (bz N1), .int .u8 (bz N0), .int .u8 0, .int .u8 0] 34)
  have hb0 : Below w.heap.size w w1 := by
    have h := (Below.refl w.heap.size w).alloc (Nat.le_refl _) (.cells #[.int .i64 x, .int .i64 y] 28)
    have h2 : Below w.heap.size w ((w.alloc (.cells #[.int .i64 x, .int .i64 y] 28)).drewN nq) := ⟨h.os, h.tape, h.output, h.size, h.block⟩
    exact stepB h2 Hb1.out
  have Hb2 := Lib.hid (stepB hb0 e3)
  generalize ((((w1.alloc (.cells #[.int .u8 40, .int .u8 136, .int .u8 42, .int .u8 138, .int .u8 65, .int .u8 147, .int .u8 53, .int .u8 145] 32)).alloc (.cells #[.int .u8 53, .int .u8 145] 31)).alloc (.cells #[.int .u8 53, .int .u8 (bz F), .int .u8 (bz C3), .int .u8 (bz C2), .int .u8 (bz C1), .int .u8 (bz C0), .int .u8 0, .int .u8 (bz N1), .int .u8 (bz N0), .int .u8 0, .int .u8 0, .int .u8 0, .int .u8 0, .int .u8 0, .int .u8 0, .int .u8 0] 34)).alloc (.cells #[.int .u8 145, .int .u8 (bz F), .int .u8 0, .int .u8 0, .int .u8 0, .int .u8 0, .int .u8 (bz C3), .int .u8 (bz C2), .int .u8 (bz C1), .int .u8 (bz C0), .int .u8 0, .int .u8 0, .int .u8 (bz N1), .int .u8 (bz N0), .int .u8 0, .int .u8 0] 34)) = wd at e1 e2 e3 Hb2 ⊢
  rw [← Ha1.out] at e1 KA
  rw [← Ha2.out] at e2 KB
  have He1 := Lib.hid e1; have He2 := Lib.hid e2
  clear e1 e2 e3 hb0 Hb1 hN hxq hxq2 ht4 g3 g2 g1 g0 k1 k0
  go_upto_region 9 with (first
    | (refine wpList_load_row rfl 34 _ rfl (w1.heap.size + 1 + 1) rfl 34 av1 (0, 0) _ He1.out Try.underlying34 rfl hi1.out ?_)
    | (go_at_call 10; refine (KA.out _).mono ?_; rintro e w2 ⟨rfl, hb2⟩; have Hb3 := Lib.hid (stepB Hb2.out hb2); have He3 := Lib.hid ((hb2.block _ (Array.getElem?_eq_some_iff.1 He2.out).1).trans He2.out); clear hb2))
  have Hy1 : Hid ((w2.alloc (.cells #[.int .i64 (o : Nat), .int .u64 (l : Nat), .int .u64 (k : Nat), .bool f, .bool u, .int .i64 (a : Nat), .int .i64 (s : Nat), .int .i64 (ty : Nat), .int .i64 (al : Nat), .int .i64 (ln : Nat), .int .i64 (pg : Nat), .bool v] 25)).heap[w2.heap.size]? = some (.cells cs 25 (0, 0))) := Lib.hid (by rw [Hcs.out]; exact heap_alloc_new w2 _)
  have He4 : Hid ((w2.alloc (.cells #[.int .i64 (o : Nat), .int .u64 (l : Nat), .int .u64 (k : Nat), .bool f, .bool u, .int .i64 (a : Nat), .int .i64 (s : Nat), .int .i64 (ty : Nat), .int .i64 (al : Nat), .int .i64 (ln : Nat), .int .i64 (pg : Nat), .bool v] 25)).heap[w1.heap.size + 1 + 1 + 1]? = some (.cells av2 34 (0, 0))) := Lib.hid (by rw [Below.heap_alloc _ _ _ (Array.getElem?_eq_some_iff.1 He3.out).1]; exact He3.out)
  have Hb4 : Hid (Below w.heap.size w (w2.alloc (.cells #[.int .i64 (o : Nat), .int .u64 (l : Nat), .int .u64 (k : Nat), .bool f, .bool u, .int .i64 (a : Nat), .int .i64 (s : Nat), .int .i64 (ty : Nat), .int .i64 (al : Nat), .int .i64 (ln : Nat), .int .i64 (pg : Nat), .bool v] 25))) := Lib.hid (Hb3.out.alloc Hb3.out.size _)
  generalize w2.alloc (.cells #[.int .i64 (o : Nat), .int .u64 (l : Nat), .int .u64 (k : Nat), .bool f, .bool u, .int .i64 (a : Nat), .int .i64 (s : Nat), .int .i64 (ty : Nat), .int .i64 (al : Nat), .int .i64 (ln : Nat), .int .i64 (pg : Nat), .bool v] 25) = w3 at Hy1 He4 Hb4 ⊢
  go_upto_region 10 with (first
    | (refine wpList_load_row rfl 34 _ rfl (w1.heap.size + 1 + 1 + 1) rfl 34 av2 (0, 0) _ He4.out Try.underlying34 rfl hi2.out ?_)
    | (go_at_call 10; refine (KB.out _).mono ?_; rintro e w4 ⟨rfl, hb4⟩; have Hb5 := Lib.hid (stepB Hb4.out hb4); have Hy2 := Lib.hid ((hb4.block _ (Array.getElem?_eq_some_iff.1 Hy1.out).1).trans Hy1.out); clear hb4))
  have Hz1 : Hid ((w4.alloc (.cells #[.int .i64 (o : Nat), .int .u64 (l : Nat), .int .u64 (k : Nat), .bool f, .bool u, .int .i64 (a : Nat), .int .i64 (s : Nat), .int .i64 (ty : Nat), .int .i64 (al : Nat), .int .i64 (ln : Nat), .int .i64 (pg : Nat), .bool v] 25)).heap[w4.heap.size]? = some (.cells cs 25 (0, 0))) := Lib.hid (by rw [Hcs.out]; exact heap_alloc_new w4 _)
  have Hy3 : Hid ((w4.alloc (.cells #[.int .i64 (o : Nat), .int .u64 (l : Nat), .int .u64 (k : Nat), .bool f, .bool u, .int .i64 (a : Nat), .int .i64 (s : Nat), .int .i64 (ty : Nat), .int .i64 (al : Nat), .int .i64 (ln : Nat), .int .i64 (pg : Nat), .bool v] 25)).heap[w2.heap.size]? = some (.cells cs 25 (0, 0))) := Lib.hid (by rw [Below.heap_alloc _ _ _ (Array.getElem?_eq_some_iff.1 Hy2.out).1]; exact Hy2.out)
  have Hb6 : Hid (Below w.heap.size w (w4.alloc (.cells #[.int .i64 (o : Nat), .int .u64 (l : Nat), .int .u64 (k : Nat), .bool f, .bool u, .int .i64 (a : Nat), .int .i64 (s : Nat), .int .i64 (ty : Nat), .int .i64 (al : Nat), .int .i64 (ln : Nat), .int .i64 (pg : Nat), .bool v] 25))) := Lib.hid (Hb5.out.alloc Hb5.out.size _)
  generalize w4.alloc (.cells #[.int .i64 (o : Nat), .int .u64 (l : Nat), .int .u64 (k : Nat), .bool f, .bool u, .int .i64 (a : Nat), .int .i64 (s : Nat), .int .i64 (ty : Nat), .int .i64 (al : Nat), .int .i64 (ln : Nat), .int .i64 (pg : Nat), .bool v] 25) = w5 at Hz1 Hy3 Hb6 ⊢
  have heq := Heq.out
  have HLD1 := Lib.hid (load_task Hy3.out hci.out)
  have HLD2 := Lib.hid (load_task Hz1.out hci.out)
  have hy := Hy3.out
  rw [Hcs.out] at hy
  have d1 : w5.cell? ⟨w2.heap.size, 1, none⟩ = some (.int .u64 (l : Nat)) := cell_of_row w5 _ 1 _ _ _ hy
  have d2 : w5.cell? ⟨w2.heap.size, 2, none⟩ = some (.int .u64 (k : Nat)) := cell_of_row w5 _ 2 _ _ _ hy
  have Hcc : Hid (((c : Int) == (c : Int)) = true) := Lib.hid (by simp)
  have hw1 : IntKind.u64.wrap (L : Int) = (L : Int) := by rw [IntKind.wrap_u64]; omega
  have hw2 : IntKind.u64.wrap (N : Int) = (N : Int) := by rw [IntKind.wrap_u64]; omega
  clear KA KB hy
  by_cases h0 : c = 0
  · subst h0
    obtain ⟨rfl, rfl⟩ : l = L ∧ k = N := Hz.out rfl
    clear Hz Hcc
    go_step
    refine wpList_load_row rfl 25 _ rfl w2.heap.size rfl 25 cs (0, 0) _ Hy3.out Try.underlying25 rfl hci.out ?_
    refine wpList_load_row rfl 25 _ rfl w4.heap.size rfl 25 cs (0, 0) _ Hz1.out Try.underlying25 rfl hci.out ?_
    go_wp2_with (fail)
    all_goals
      go_ret
      exact ⟨rfl, Hb6.out⟩
  · clear Hz Hcc
    have hn0 : ((c : Int) != 0) = true := by simpa using (by omega : (c : Int) ≠ 0)
    clear h0
    go_step
    refine wpList_load_row rfl 25 _ rfl w2.heap.size rfl 25 cs (0, 0) _ Hy3.out Try.underlying25 rfl hci.out ?_
    refine wpList_load_row rfl 25 _ rfl w4.heap.size rfl 25 cs (0, 0) _ Hz1.out Try.underlying25 rfl hci.out ?_
    go_wp2_with (fail)
    go_ret
    exact ⟨rfl, Hb6.out⟩
theorem cdbForms_any (x y : Int) (hx1 : -9223372036854775808 ≤ x) (hx2 : x ≤ 9223372036854775807) (hy1 : -9223372036854775808 ≤ y) (hy2 : y ≤ 9223372036854775807) (L : Nat) (hL : L < 4294967296) (f : Nat) (hf : f < 256) (w : World) :
    Calls Try.prog 4 #[.agg #[.int .i64 x, .int .i64 y], .int .u32 (L : Int), .int .u8 (f : Int)] w (TrueP w) := by
  have e : (f : Int) = bz (UInt8.ofNat f) := by rw [bz_eq, UInt8.toNat_ofNat']; omega
  rw [e]
  have h1 := Int.emod_nonneg (x.tmod 4 + 4) (by decide : (4 : Int) ≠ 0)
  have h2 := Int.emod_lt_of_pos (x.tmod 4 + 4) (by decide : (0 : Int) < 4)
  rcases (by omega : (x.tmod 4 + 4) % 4 = 0 ∨ (x.tmod 4 + 4) % 4 = 1 ∨ (x.tmod 4 + 4) % 4 = 2 ∨ (x.tmod 4 + 4) % 4 = 3) with h | h | h | h
  · exact forms_0 x y hx1 hx2 hy1 hy2 h L hL _ w
  · exact forms_1 x y hx1 hx2 hy1 hy2 h L hL _ w
  · exact forms_2 x y hx1 hx2 hy1 hy2 h L hL _ w
  · exact forms_3 x y hx1 hx2 hy1 hy2 h L hL _ w
end Go.Proofs.Ytehhhbehclpkbaa
