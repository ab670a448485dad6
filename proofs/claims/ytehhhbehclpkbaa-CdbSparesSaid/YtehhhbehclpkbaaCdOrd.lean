/-
  cdb.orderOf.
-/
import Derived.Test.YtehhhbehclpkbaaCdUtil
set_option linter.unusedSimpArgs false
set_option linter.unusedVariables false
namespace Go.Proofs.Ytehhhbehclpkbaa
open Go.RowKit Sh Cd

set_option maxRecDepth 100000 in
set_option maxHeartbeats 2000000 in
theorem orderOf_any (B : List UInt8) (hB : B.length = 16) (w : World) :
    Calls Try.prog 15 #[.agg (B.map cu8).toArray] w (TkP (ordT B) (ordC B) w) := by
  have HK : Hid (∀ W : World, W.cell? ⟨w.heap.size, 5, none⟩ = some (.int .u8 (b8 B 5 : Nat)) → W.cell? ⟨w.heap.size, 6, none⟩ = some (.int .u8 (b8 B 6 : Nat)) → W.cell? ⟨w.heap.size, 7, none⟩ = some (.int .u8 (b8 B 7 : Nat)) → W.cell? ⟨w.heap.size, 8, none⟩ = some (.int .u8 (b8 B 8 : Nat)) → Calls Try.prog 13 #[.slice (some ⟨w.heap.size, 5, none⟩) 4 11] W fun e w' => e = .returned (.int .i64 (be B 5 4 : Nat)) ∧ W = w') := Lib.hid fun W h5 h6 h7 h8 => length_any (by simp; omega) (by omega) (fun j hj => by
    rcases (by omega : j = 0 ∨ j = 1 ∨ j = 2 ∨ j = 3) with rfl | rfl | rfl | rfl
    · simpa [at8, b8, bz] using h5
    · simpa [at8, b8, bz] using h6
    · simpa [at8, b8, bz] using h7
    · simpa [at8, b8, bz] using h8
    )
  have hb := two_box w B
  have c1 := hb.cell hB 1 (by omega)
  have c2 := hb.cell hB 2 (by omega)
  have c5 := hb.cell hB 5 (by omega)
  have c6 := hb.cell hB 6 (by omega)
  have c7 := hb.cell hB 7 (by omega)
  have c8 := hb.cell hB 8 (by omega)
  unfold two at c1 c2 c5 c6 c7 c8
  have l1 := b8_lt B 1
  have l2 := b8_lt B 2
  have lN := be_lt B 5 4
  have e1 : ordT B = { op := 13, act := b8 B 1, sco := b8 B 2 / 16, typ := b8 B 2 % 16, len := be B 5 4 } := rfl
  have e2 : ordC B = if 6 < b8 B 1 || b8 B 2 / 16 != 0 then 9216 else if be B 5 4 != 24 then 6656 else 0 := rfl
  rw [e1, e2]
  clear e1 e2 hb hB
  obtain ⟨b1, h1⟩ : ∃ x, b8 B 1 = x := ⟨_, rfl⟩
  obtain ⟨b2, h2⟩ : ∃ x, b8 B 2 = x := ⟨_, rfl⟩
  obtain ⟨N, hN⟩ : ∃ x, be B 5 4 = x := ⟨_, rfl⟩
  rw [h1] at c1 l1 ⊢
  rw [h2] at c2 l2 ⊢
  rw [hN] at HK lN ⊢
  obtain ⟨U, hU⟩ : ∃ x, b2 / 16 = x := ⟨_, rfl⟩
  obtain ⟨L, hL⟩ : ∃ x, b2 % 16 = x := ⟨_, rfl⟩
  have hw1 : IntKind.i64.wrap (b1 : Int) = (b1 : Int) := IntWalk.i64_in _ (by omega)
  have hu1 : (b2 : Int) / 2 ^ 4 = (U : Int) := by omega
  have hu2 : (b2 : Int) / 16 = (U : Int) := by omega
  have hu3 : IntKind.i64.wrap (U : Int) = (U : Int) := IntWalk.i64_in _ (by omega)
  have hl1 : bits .and .u8 (b2 : Int) 15 = (L : Int) := by rw [← hL]; exact low4 l2
  have hl2 : IntKind.i64.wrap (L : Int) = (L : Int) := IntWalk.i64_in _ (by omega)
  rw [hU, hL]
  obtain ⟨c, Hc⟩ : ∃ c : Nat, Hid (c = if 6 < b1 || U != 0 then 9216 else if N != 24 then 6656 else 0) := ⟨_, Lib.hid rfl⟩
  rw [← Hc.out]
  clear h1 h2 hN hU hL
  go_enter Try.func15, Try.ntmps15
  go_upto_region 1 with (fail)
  go_region_held3 (fun w' => w'.cell? ⟨w.heap.size, 1, none⟩ = some (.int .u8 (b1 : Nat)) ∧ w'.cell? ⟨w.heap.size, 2, none⟩ = some (.int .u8 (b2 : Nat)) ∧ w'.cell? ⟨w.heap.size, 5, none⟩ = some (.int .u8 (b8 B 5 : Nat)) ∧ w'.cell? ⟨w.heap.size, 6, none⟩ = some (.int .u8 (b8 B 6 : Nat)) ∧ w'.cell? ⟨w.heap.size, 7, none⟩ = some (.int .u8 (b8 B 7 : Nat)) ∧ w'.cell? ⟨w.heap.size, 8, none⟩ = some (.int .u8 (b8 B 8 : Nat))) (go_keep)
    ((go_at_call 13; refine (HK.out _ ?_ ?_ ?_ ?_).mono ?_; (simp [*]); (simp [*]); (simp [*]); (simp [*]); rintro e w' ⟨rfl, rfl⟩))
  all_goals
    clear hw1 hu1 hu2 hu3 hl1 hl2 c1 c2 c5 c6 c7 c8
    by_cases p1 : 6 < b1
    · obtain rfl : c = 9216 := by rw [Hc.out]; simp [p1]
      have q1 : decide (6 < (b1 : Int)) = true := by simpa using (by omega : (6 : Int) < b1)
      clear p1 Hc
      go_wp2
      have Fb := three_bel w (.cells (B.map cu8).toArray 34) (.cells #[.int .i64 13, .int .u64 0, .int .u64 0, .bool false, .bool false, .int .i64 (b1 : Nat), .int .i64 (U : Nat), .int .i64 (L : Nat), .int .i64 0, .int .i64 (N : Nat), .int .i64 0, .bool false] 25) (.cells #[.int .i64 13, .int .u64 0, .int .u64 0, .bool false, .bool false, .int .i64 (b1 : Nat), .int .i64 (U : Nat), .int .i64 (L : Nat), .int .i64 0, .int .i64 (N : Nat), .int .i64 0, .bool false] 25)
      refine bodyPost_ret (v := .tuple #[({ op := 13, act := b1, sco := U, typ := L, len := N } : Tk).V, .int .i64 (9216 : Nat)]) (by simp [results, Try.results15, go_sem, Tk.V]) rfl ⟨rfl, Fb.drew⟩
    have q1 : decide (6 < (b1 : Int)) = false := by simpa using (by omega : (b1 : Int) ≤ 6)
    by_cases p2 : U = 0
    · subst p2
      by_cases p3 : N = 24
      · subst p3
        obtain rfl : c = 0 := by rw [Hc.out]; simp [p1]
        clear p1 Hc
        go_wp2
        have Fb := three_bel w (.cells (B.map cu8).toArray 34) (.cells #[.int .i64 13, .int .u64 0, .int .u64 0, .bool false, .bool false, .int .i64 (b1 : Nat), .int .i64 ((0 : Nat) : Int), .int .i64 (L : Nat), .int .i64 0, .int .i64 ((24 : Nat) : Int), .int .i64 0, .bool false] 25) (.cells #[.int .i64 13, .int .u64 0, .int .u64 0, .bool false, .bool false, .int .i64 (b1 : Nat), .int .i64 ((0 : Nat) : Int), .int .i64 (L : Nat), .int .i64 0, .int .i64 ((24 : Nat) : Int), .int .i64 0, .bool false] 25)
        refine bodyPost_ret (v := .tuple #[({ op := 13, act := b1, sco := 0, typ := L, len := 24 } : Tk).V, .int .i64 (0 : Nat)]) (by simp [results, Try.results15, go_sem, Tk.V]) rfl ⟨rfl, Fb.drew⟩
      · obtain rfl : c = 6656 := by rw [Hc.out]; simp [p1, p3]
        have q3 : ((N : Int) != 24) = true := by simpa using (by omega : (N : Int) ≠ 24)
        clear p1 p3 Hc
        go_wp2
        have Fb := three_bel w (.cells (B.map cu8).toArray 34) (.cells #[.int .i64 13, .int .u64 0, .int .u64 0, .bool false, .bool false, .int .i64 (b1 : Nat), .int .i64 ((0 : Nat) : Int), .int .i64 (L : Nat), .int .i64 0, .int .i64 (N : Nat), .int .i64 0, .bool false] 25) (.cells #[.int .i64 13, .int .u64 0, .int .u64 0, .bool false, .bool false, .int .i64 (b1 : Nat), .int .i64 ((0 : Nat) : Int), .int .i64 (L : Nat), .int .i64 0, .int .i64 (N : Nat), .int .i64 0, .bool false] 25)
        refine bodyPost_ret (v := .tuple #[({ op := 13, act := b1, sco := 0, typ := L, len := N } : Tk).V, .int .i64 (6656 : Nat)]) (by simp [results, Try.results15, go_sem, Tk.V]) rfl ⟨rfl, Fb.drew⟩
    · obtain rfl : c = 9216 := by rw [Hc.out]; simp [p2]
      have q2 : ((U : Int) != 0) = true := by simpa using (by omega : (U : Int) ≠ 0)
      clear p1 p2 Hc
      go_wp2
      have Fb := three_bel w (.cells (B.map cu8).toArray 34) (.cells #[.int .i64 13, .int .u64 0, .int .u64 0, .bool false, .bool false, .int .i64 (b1 : Nat), .int .i64 (U : Nat), .int .i64 (L : Nat), .int .i64 0, .int .i64 (N : Nat), .int .i64 0, .bool false] 25) (.cells #[.int .i64 13, .int .u64 0, .int .u64 0, .bool false, .bool false, .int .i64 (b1 : Nat), .int .i64 (U : Nat), .int .i64 (L : Nat), .int .i64 0, .int .i64 (N : Nat), .int .i64 0, .bool false] 25)
      refine bodyPost_ret (v := .tuple #[({ op := 13, act := b1, sco := U, typ := L, len := N } : Tk).V, .int .i64 (9216 : Nat)]) (by simp [results, Try.results15, go_sem, Tk.V]) rfl ⟨rfl, Fb.drew⟩
end Go.Proofs.Ytehhhbehclpkbaa
