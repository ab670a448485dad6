/-
  pdu.sound, endsOf: what a header tells of lengths.
-/
import Derived.Test.YtakejggofghblaaPdFeed
set_option linter.unusedSimpArgs false
set_option linter.unusedVariables false
namespace Go.Proofs.Ytakejggofghblaa
open Go.RowKit Sh Cr Pd

theorem sub_slice (g o len cap lo hi : Nat) (h1 : lo ≤ hi) (h2 : hi ≤ cap) (h3 : lo ≠ cap) (w : World) :
    (Instr.sliceAt 23 (.slice (some ⟨g, o, none⟩) len cap) (some (.int .i64 (lo : Int))) (some (.int .i64 (hi : Int))) none).run Try.prog w = .ok (.slice (some ⟨g, o + lo, none⟩) (hi - lo) (cap - lo)) w := by
  have s1 := run_slice_mid (P := Try.prog) 23 5 Try.underlying23 (by kernel_rfl) (some ⟨g, o, none⟩) len cap lo hi h1 h2 w
  have hcut : cutAt (some ⟨g, o, none⟩) cap lo = some ⟨g, o + lo, none⟩ := by
    unfold cutAt
    rw [if_neg (fun e => h3 e.symm), Option.map_some]
    unfold Addr.add; split <;> simp_all
  rw [hcut] at s1; exact s1
theorem Bytes.sub {N : Nat} {w : World} {g o len cap : Nat} {bs : List UInt8} (h : Bytes N w (some ⟨g, o, none⟩) len cap bs) (lo hi : Nat) (h1 : lo ≤ hi) (h2 : hi ≤ len) (h3 : lo ≠ cap) :
    Bytes N w (some ⟨g, o + lo, none⟩) (hi - lo) (cap - lo) ((bs.drop lo).take (hi - lo)) := by
  have := h.cut lo hi h1 h2
  have hcut : cutAt (some ⟨g, o, none⟩) cap lo = some ⟨g, o + lo, none⟩ := by
    unfold cutAt
    rw [if_neg (fun e => h3 e.symm), Option.map_some]
    unfold Addr.add; split <;> simp_all
  rw [hcut] at this; exact this
theorem Bytes.cell0 {N : Nat} {w : World} {g o len cap : Nat} {bs : List UInt8} (h : Bytes N w (some ⟨g, o, none⟩) len cap bs) (j : Nat) (hj : j < len) : w.cell? ⟨g, o + j, none⟩ = some (.int .u8 (bz (at8 bs j))) := by
  rcases h.lies with h0 | ⟨b, o', e, _, hc⟩
  · omega
  · simp only [Option.some.injEq, Addr.mk.injEq, and_true] at e
    obtain ⟨rfl, rfl⟩ := e
    exact hc j hj
set_option maxRecDepth 100000 in
theorem and128 (c : UInt8) : bits .and .u8 (bz c) 128 = if c.toNat < 128 then 0 else 128 := by
  have h : ∀ n : Fin 256, bits .and .u8 (n.1 : Int) 128 = if n.1 < 128 then 0 else 128 := by decide
  exact h ⟨c.toNat, c.toNat_lt⟩
section
variable {w : World} {N g o len cap : Nat} {B : List UInt8}
set_option maxRecDepth 100000 in
set_option maxHeartbeats 2000000 in
theorem sound_any (hB : Bytes N w (some ⟨g, o, none⟩) len cap B) (h48 : 48 ≤ len) :
    Calls Try.prog 39 #[.slice (some ⟨g, o, none⟩) len cap] w fun e w' => e = .returned (.bool (soundB B)) ∧ w = w' := by
  have hr := hB.hroom
  have hm := hB.hmax
  unfold maxLen at hm
  have hb := Lib.hid (hB.sub 5 8 (by omega) (by omega) (by omega))
  have c0 := hB.cell0 0 (by omega)
  rw [Nat.add_zero] at c0
  have c4 := hB.cell0 4 (by omega)
  have s1 : ∀ w : World, (Instr.sliceAt 23 (.slice (some ⟨g, o, none⟩) len cap) (some (.int .i64 5)) (some (.int .i64 8)) none).run Try.prog w = .ok (.slice (some ⟨g, o + 5, none⟩) 3 (cap - 5)) w := fun w => sub_slice g o len cap 5 8 (by omega) (by omega) (by omega) w
  obtain ⟨cc, hcc⟩ : ∃ cc, Hid (cap - 5 = cc) := ⟨_, Lib.hid rfl⟩
  rw [hcc.out] at s1 hb
  have HN : Hid (Calls Try.prog 47 #[.slice (some ⟨g, o + 5, none⟩) 3 cc] w fun e w' => e = .returned (.int .u64 (nOf B : Nat)) ∧ w = w') := Lib.hid (number_any hb.out (by omega))
  have ha := and128 (at8 B 0)
  have e0 : Hid ((at8 B 0).toNat = at0 B 0) := Lib.hid rfl
  have e4 : bz (at8 B 4) = (at0 B 4 : Int) := rfl
  rw [e0.out] at ha
  rw [e4] at c4
  obtain ⟨q, hq⟩ : ∃ q, Hid (soundB B = q) := ⟨_, Lib.hid rfl⟩
  rw [hq.out]
  have hq2 : (decide (at0 B 0 < 128) && decide (at0 B 4 ≤ 8) && decide (nOf B ≤ 256)) = q := hq.out
  have l0 : (0 : Int) < len := by omega
  have l4 : (4 : Int) < len := by omega
  generalize bz (at8 B 0) = x0 at c0 ha
  generalize at0 B 0 = y0 at ha hq2
  generalize at0 B 4 = y4 at c4 hq2
  generalize nOf B = z at HN hq2
  have HQ := Lib.hid hq2; clear hq2 hq e0 hb e4
  by_cases h0 : y0 < 128
  · rw [if_pos h0] at ha
    by_cases h4 : y4 ≤ 8
    · have h4' : (y4 : Int) ≤ 8 := by omega
      by_cases hz : z ≤ 256
      · obtain rfl : q = true := by rw [← HQ.out]; simp [h0, h4, hz]
        have hz' : (z : Int) ≤ 256 := by omega
        clear h0 h4 hz
        go_enter Try.func39, Try.ntmps39
        go_wp2_with (go_at_call 47; refine HN.out.mono ?_; rintro e w' ⟨rfl, rfl⟩)
        go_ret
        exact ⟨rfl, rfl⟩
      · obtain rfl : q = false := by rw [← HQ.out]; simp [hz]
        have hz' : decide ((z : Int) ≤ 256) = false := by simp; omega
        clear h0 h4 hz
        go_enter Try.func39, Try.ntmps39
        go_wp2_with (go_at_call 47; refine HN.out.mono ?_; rintro e w' ⟨rfl, rfl⟩)
        go_ret
        exact ⟨rfl, rfl⟩
    · obtain rfl : q = false := by rw [← HQ.out]; simp [h4]
      have h4' : decide ((y4 : Int) ≤ 8) = false := by simp; omega
      clear h0 h4
      go_enter Try.func39, Try.ntmps39
      go_wp2
      go_ret
      exact ⟨rfl, rfl⟩
  · rw [if_neg h0] at ha
    obtain rfl : q = false := by rw [← HQ.out]; simp [h0]
    clear h0
    go_enter Try.func39, Try.ntmps39
    go_wp2
    go_ret
    exact ⟨rfl, rfl⟩
end
/-- The five cells of pdu.ends. -/
def eC (a b c d e : Nat) : Array Value := #[.int .i64 (a : Int), .int .i64 (b : Int), .int .i64 (c : Int), .int .i64 (d : Int), .int .i64 (e : Int)]
theorem eC_one (a b c d e : Nat) : (eC a b c d e).all (·.oneCell') = true := by simp [eC, Value.oneCell']
structure EdI (w : World) (a b c d e : Nat) (W : World) : Prop where
  h0 : W.heap[w.heap.size]? = some (.cells (eC 0 0 0 0 0) 74 (0, 0))
  h1 : W.heap[w.heap.size + 1]? = some (.cells (eC a b c d e) 74 (0, 0))
  hb : Below w.heap.size w W
section
variable {w W : World} {a b c d e : Nat}
theorem EdI.set (h : EdI w a b c d e W) (i x : Nat) (a' b' c' d' e' : Nat) (hx : (eC a b c d e).setIfInBounds i (.int .i64 (x : Int)) = eC a' b' c' d' e') : EdI w a' b' c' d' e' (W.setCell ⟨w.heap.size + 1, i, none⟩ (.int .i64 (x : Int))) := by
  refine ⟨?_, ?_, h.hb.setCell (p := ⟨w.heap.size + 1, i, none⟩) (by show w.heap.size ≤ w.heap.size + 1; omega) _⟩
  · exact ((grown_set W (w.heap.size + 1) i _).block _ (Array.getElem?_eq_some_iff.1 h.h0).1 (by simp)).trans h.h0
  · rw [← hx]; simp [World.setCell, Array.getElem?_modify, h.h1]
theorem EdI.drew (h : EdI w a b c d e W) : EdI w a b c d e W.drew := ⟨h.h0, h.h1, h.hb.drew⟩
theorem EdI.cell (h : EdI w a b c d e W) (i x : Nat) (hx : (eC a b c d e)[i]? = some (.int .i64 (x : Int))) : W.cell? ⟨w.heap.size + 1, i, none⟩ = some (.int .i64 (x : Int)) := (cell_of_cur h.h1 i).trans hx
theorem EdI.free (h : EdI w a b c d e W) (i : Nat) : W.frozen? ⟨w.heap.size + 1, i, none⟩ = false := by simp [World.frozen?, h.h1]
end
theorem infoEnds : (Try.prog.info? 74).map (·.size) = some 5 := by kernel_rfl
theorem builtEnds (a : Nat) : Try.prog.built 74 [(0, .int .i64 (a : Int))] = some (eC a 0 0 0 0) := by kernel_rfl
def dataE (b : List UInt8) (h : Bool) : Nat := headE b h + nOf b
def EndsP (w : World) (B : List UInt8) (h d : Bool) (e : Ending) (w' : World) : Prop := e = .returned (.agg (eC (ahsE B) (headE B h) (dataE B h) (padE B h) (allE B h d))) ∧ Below w.heap.size w w'
def f4 (b : Bool) : Nat := if b = true then 4 else 0
theorem ends_val {B : List UInt8} {h d : Bool} {y4 z A Hd Dd Pd Ad pz : Nat} (hy4 : at0 B 4 = y4) (hz : nOf B = z) (hA : 48 + 4 * y4 = A) (hHd : A + f4 h = Hd) (hDd : Hd + z = Dd) (hpz : padN z = pz) (hPd : Dd + pz = Pd) (hAd : Pd + f4 (d && decide (0 < z)) = Ad) :
    eC (ahsE B) (headE B h) (dataE B h) (padE B h) (allE B h d) = eC A Hd Dd Pd Ad := by
  subst hy4 hz hA hHd hDd hpz hPd hAd; rfl
theorem exec_build {P : Program} {o : Oper} {ρ : Operand → Value} (w : World) {t : TypeId} {parts : Array (Nat × Operand)} (_h : o.op = .build t parts) {cells : Array Value} (hb : P.built t (parts.map fun (i, x) => (i, ρ x)).toList = some cells) :
    (execOp ρ o).run P w = .ok (.value (.agg cells)) w := by
  unfold execOp
  simp only [_h, Sem.run_bind, run_build w t _ cells hb, Result.andThen_ok, Sem.run_pure]
theorem wpList_buildP {P : Program} {ops : Array Oper} {Q : Exit → Act → World → Prop} {a : Act} {w : World} {o : Oper} {rest : List Oper} (t : TypeId) (parts : Array (Nat × Operand)) (ho : o.op = .build t parts) (cs : Array Value)
    (hb : P.built t (parts.map fun (i, x) => (i, a.eval x)).toList = some cs) (hw : Region.wanted o (yielded ops a.tmps) = true) (h : wpList P ops Q rest (a.put o.dst (.agg cs)) w) : wpList P ops Q (o :: rest) a w :=
  wpList_val hw (exec_build w ho hb) h
theorem below_setRow {B : Nat} {a w : World} {g : Nat} (h : Below B a w) (hg : B ≤ g) (cs : Array Value) : Below B a (w.setRow g cs) :=
  h.trans ⟨rfl, rfl, rfl, by simp, fun k hk => setRow_other w g k _ (by omega)⟩
set_option maxRecDepth 100000 in
set_option maxHeartbeats 8000000 in
theorem ends_any {N g o len cap : Nat} {B : List UInt8} (h d : Bool) (w : World) (hB : Bytes N w (some ⟨g, o, none⟩) len cap B) (hN : N ≤ w.heap.size) (h48 : 48 ≤ len) (h4 : at0 B 4 ≤ 8) (hn : nOf B ≤ 256) :
    Calls Try.prog 40 #[.slice (some ⟨g, o, none⟩) len cap, .bool h, .bool d] w (EndsP w B h d) := by
  have hr := hB.hroom
  have hm := hB.hmax
  unfold maxLen at hm
  have HB := Lib.hid hB
  have hb := Lib.hid (hB.sub 5 8 (by omega) (by omega) (by omega))
  have s1 : ∀ w : World, (Instr.sliceAt 23 (.slice (some ⟨g, o, none⟩) len cap) (some (.int .i64 5)) (some (.int .i64 8)) none).run Try.prog w = .ok (.slice (some ⟨g, o + 5, none⟩) 3 (cap - 5)) w := fun w => sub_slice g o len cap 5 8 (by omega) (by omega) (by omega) w
  obtain ⟨cc, hcc⟩ : ∃ cc, Hid (cap - 5 = cc) := ⟨_, Lib.hid rfl⟩
  rw [hcc.out] at s1 hb
  have HN : Hid (∀ W, Below w.heap.size w W → Calls Try.prog 47 #[.slice (some ⟨g, o + 5, none⟩) 3 cc] W fun e w' => e = .returned (.int .u64 (nOf B : Nat)) ∧ W = w') := Lib.hid (fun W hW => number_any (hb.out.below (hW.mono hN)) (by omega))
  have hbel0 : Below w.heap.size w (w.alloc (.cells #[.int .i64 0, .int .i64 0, .int .i64 0, .int .i64 0, .int .i64 0] 74)) := (Below.refl _ _).alloc (Nat.le_refl _) _
  have c4 := (HB.out.below (hbel0.mono hN)).cell0 4 (by omega)
  have e4 : bz (at8 B 4) = (at0 B 4 : Int) := rfl
  rw [e4] at c4
  have HN0 := Lib.hid (HN.out _ hbel0)
  have l4 : (4 : Int) < len := by omega
  obtain ⟨y4, hy4⟩ : ∃ y4, Hid (at0 B 4 = y4) := ⟨_, Lib.hid rfl⟩
  obtain ⟨z, hz⟩ : ∃ z, Hid (nOf B = z) := ⟨_, Lib.hid rfl⟩
  obtain ⟨A, hA⟩ : ∃ A, Hid (48 + 4 * y4 = A) := ⟨_, Lib.hid rfl⟩
  rw [hy4.out] at h4 c4
  rw [hz.out] at hn HN0
  have hA2 : (48 : Int) + 4 * (y4 : Int) = (A : Int) := by have := hA.out; omega
  have hA3 : A ≤ 80 := by have := hA.out; omega
  have hbu : Try.prog.built 74 [(0, .int .i64 (A : Int))] = some #[.int .i64 (A : Int), .int .i64 0, .int .i64 0, .int .i64 0, .int .i64 0] := builtEnds A
  have HP := Lib.hid (fun W => padding_any (w := W) z (by omega))
  have n0 : (0 : Int) ≤ z := by omega
  have n1 : (z : Int) ≤ 256 := by omega
  have y0 : (0 : Int) ≤ y4 := by omega
  have y1 : (y4 : Int) ≤ 8 := by omega
  have HD : Hid (EdI w A 0 0 0 0 ((w.alloc (.cells #[.int .i64 0, .int .i64 0, .int .i64 0, .int .i64 0, .int .i64 0] 74)).alloc (.cells #[.int .i64 (A : Int), .int .i64 0, .int .i64 0, .int .i64 0, .int .i64 0] 74))) := Lib.hid ⟨by rw [Below.heap_alloc _ _ _ (by simp)]; exact heap_alloc_new w _, by have := heap_alloc_new (w.alloc (.cells #[.int .i64 0, .int .i64 0, .int .i64 0, .int .i64 0, .int .i64 0] 74)) (.cells #[.int .i64 (A : Int), .int .i64 0, .int .i64 0, .int .i64 0, .int .i64 0] 74); rw [World.size_alloc] at this; exact this, hbel0.alloc (by simp) _⟩
  clear hB hN hb hbel0 e4
  go_enter Try.func40, Try.ntmps40
  go_upto_region 3 with (go_at_call 47; refine HN0.out.mono ?_; rintro e w' ⟨rfl, rfl⟩)
  have hAA := HD.out
  generalize (w.alloc (.cells #[.int .i64 0, .int .i64 0, .int .i64 0, .int .i64 0, .int .i64 0] 74)).alloc (.cells #[.int .i64 (A : Int), .int .i64 0, .int .i64 0, .int .i64 0, .int .i64 0] 74) = W1 at hAA ⊢
  clear HD hbu c4 HN0 s1 y0 y1 hA2 l4
  obtain ⟨Hd, hHd⟩ : ∃ Hd, Hid (A + f4 h = Hd) := ⟨_, Lib.hid rfl⟩
  have HHd : Hd ≤ A + 4 := by rw [← hHd.out, f4]; split <;> omega
  have a0 : (0 : Int) ≤ A := by omega
  have d0 := hAA.cell 0 A rfl
  have f1 := hAA.free 1
  have d1 := hAA.cell 1 0 rfl
  go_upto_region 4 with (fail)
  have H2 := Lib.hid (hAA.set 1 A A A 0 0 0 rfl)
  clear d0 f1 d1 hAA
  generalize W1.setCell ⟨w.heap.size + 1, 1, none⟩ (.int .i64 (A : Int)) = W2 at H2 ⊢
  rcases h with _ | _
  case' false =>
    go_upto_region 6 with (fail)
    have H3 : Hid (EdI w A Hd 0 0 0 W2) := Lib.hid (by have e : Hd = A := hHd.out.symm; rw [e]; exact H2.out)
    generalize W2 = W3 at H3 ⊢
  case' true =>
    have d1 := H2.out.cell 1 A rfl
    have f1 := H2.out.free 1
    have hh : (A : Int) + 4 = (Hd : Int) := by have := hHd.out; simp [f4] at this; omega
    go_upto_region 6 with (fail)
    have H3 := Lib.hid (H2.out.set 1 Hd A Hd 0 0 0 rfl)
    clear d1 f1 H2 hh
    generalize W2.setCell ⟨w.heap.size + 1, 1, none⟩ (.int .i64 (Hd : Int)) = W3 at H3 ⊢
  all_goals
    obtain ⟨Dd, hDd⟩ : ∃ Dd, Hid (Hd + z = Dd) := ⟨_, Lib.hid rfl⟩
    obtain ⟨Pd, hPd⟩ : ∃ Pd, Hid (Dd + padN z = Pd) := ⟨_, Lib.hid rfl⟩
    obtain ⟨Ad, hAd⟩ : ∃ Ad, Hid (Pd + f4 (d && decide (0 < z)) = Ad) := ⟨_, Lib.hid rfl⟩
    have hD3 : (Hd : Int) + (z : Int) = (Dd : Int) := by have := hDd.out; omega
    have d1 := H3.out.cell 1 Hd rfl
    have d2 := H3.out.cell 2 0 rfl
    have f2 := H3.out.free 2
    have HH0 : (0 : Int) ≤ Hd := by omega
    have HH1 : (Hd : Int) ≤ 90 := by omega
    go_upto_region 7 with (fail)
    have H4 := Lib.hid (H3.out.set 2 Dd A Hd Dd 0 0 rfl)
    clear d1 d2 f2 H3
    generalize W3.setCell ⟨w.heap.size + 1, 2, none⟩ (.int .i64 (Dd : Int)) = W4 at H4 ⊢
    have HD0 : (0 : Int) ≤ Dd := by omega
    have HD1 : (Dd : Int) ≤ 400 := by omega
    clear hD3 HH0 HH1
    refine wp_region_still_tail 6 (by kernel_rfl) (by kernel_rfl) ?_
    have H5 := Lib.hid H4.out.drew
    clear H4
    have hdrew : ({ W4 with drawn := W4.drawn + 1 } : World) = W4.drew := rfl
    rw [hdrew]
    clear hdrew
    generalize W4.drew = W5 at H5 ⊢
    have d2 := H5.out.cell 2 Dd rfl
    have d3 := H5.out.cell 3 0 rfl
    have f3 := H5.out.free 3
    have HPW := (HP.out W5).mono (R' := fun e w' => e = .returned (.int .i64 (padN z : Nat)) ∧ w' = W5) (fun e w' hh => ⟨hh.1, hh.2.symm⟩)
    obtain ⟨pz, hpz⟩ : ∃ pz, Hid (padN z = pz) := ⟨_, Lib.hid rfl⟩
    rw [hpz.out] at HPW hPd
    have hP3 : (Dd : Int) + (pz : Int) = (Pd : Int) := by have := hPd.out; omega
    have hpz4 : pz < 4 := by have := padN_lt z; rw [hpz.out] at this; exact this
    have hPw : wrap64 (Pd : Int) = (Pd : Int) := by unfold wrap64; omega
    have hPx : IntKind.i64.wrap (Pd : Int) = (Pd : Int) := IntWalk.i64_in _ (by omega)
    simp only [List.take_succ_cons, List.take_zero, List.drop_succ_cons, List.drop_zero]
    iterate 3 still_step
    still_call HPW
    iterate 2 still_step
    refine wpStill_nil ?_
    clear HPW
    go_upto_region 8 with (fail)
    have H6 := Lib.hid (H5.out.set 3 Pd A Hd Dd Pd 0 rfl)
    clear d2 d3 f3 H5 hPw hPx
    generalize W5.setCell ⟨w.heap.size + 1, 3, none⟩ (.int .i64 (Pd : Int)) = W6 at H6 ⊢
    have d3 := H6.out.cell 3 Pd rfl
    have d4 := H6.out.cell 4 0 rfl
    have f4 := H6.out.free 4
    go_upto_region 9 with (fail)
    have H7 := Lib.hid (H6.out.set 4 Pd A Hd Dd Pd Pd rfl)
    clear d3 d4 f4 H6 hP3
    generalize W6.setCell ⟨w.heap.size + 1, 4, none⟩ (.int .i64 (Pd : Int)) = W7 at H7 ⊢
    cases d
    · go_upto_region 11 with (fail)
      have e : Pd = Ad := hAd.out
      have H8 : Hid (EdI w A Hd Dd Pd Ad W7) := Lib.hid (by rw [← e]; exact H7.out)
      clear e
      have L8 := H8.out
      have hld : (Instr.loadAt 74 (.pointer (some ⟨w.heap.size + 1, 0, none⟩))).run Try.prog W7 = .ok (.agg (eC A Hd Dd Pd Ad)) W7 := run_loadVar_row W7 (w.heap.size + 1) 74 74 (eC A Hd Dd Pd Ad) (0, 0) _ L8.h1 Try.underlying74 rfl infoEnds
      obtain ⟨R, hR⟩ : ∃ R, Hid (eC A Hd Dd Pd Ad = R) := ⟨_, Lib.hid rfl⟩
      rw [hR.out] at hld
      have hR5 : Hid (R.size = 5) := Lib.hid (by rw [← hR.out]; rfl)
      have hR1 : Hid (R.all (·.oneCell') = true) := Lib.hid (by rw [← hR.out]; exact eC_one _ _ _ _ _)
      have hW0 := Lib.hid L8.h0
      go_wp2_with (first
        | (refine wpList_val (by rfl) (exec_load _ _ 74 _ rfl (w.heap.size + 1) 0 rfl R hld) ?_; clear hld)
        | (refine wpList_store_row rfl 74 _ _ rfl w.heap.size R rfl rfl 74 (eC 0 0 0 0 0) hW0.out (by rw [hR5.out]; exact infoEnds) (by rw [hR5.out]; rfl) hR1.out ?_))
      refine bodyPost_ret (v := .agg R) ?_ rfl ⟨by rw [ends_val hy4.out hz.out hA.out hHd.out hDd.out hpz.out hPd.out hAd.out, hR.out], below_setRow L8.hb (Nat.le_refl _) R⟩
      exact results_cell_row (ty := 74) rfl _ _ w.heap.size 74 R (0, 0) _ rfl (setRow_heap _ _ _ _ _ _ hW0.out) Try.underlying74 rfl (by rw [hR5.out]; exact infoEnds)
    · by_cases hz0 : 0 < z
      · have d4 := H7.out.cell 4 Pd rfl
        have f4 := H7.out.free 4
        have e0 : Pd + 4 = Ad := by rw [← hAd.out, decide_eq_true hz0]; rfl
        have e : (Pd : Int) + 4 = (Ad : Int) := by omega
        clear e0
        have p0 : (0 : Int) ≤ Pd := by omega
        have p1 : (Pd : Int) ≤ 500 := by have := hPd.out; omega
        go_upto_region 11 with (fail)
        have H8 := Lib.hid (H7.out.set 4 Ad A Hd Dd Pd Ad rfl)
        clear d4 f4 e p0 p1 H7
        generalize W7.setCell ⟨w.heap.size + 1, 4, none⟩ (.int .i64 (Ad : Int)) = W8 at H8 ⊢
        have L8 := H8.out
        have hld : (Instr.loadAt 74 (.pointer (some ⟨w.heap.size + 1, 0, none⟩))).run Try.prog W8 = .ok (.agg (eC A Hd Dd Pd Ad)) W8 := run_loadVar_row W8 (w.heap.size + 1) 74 74 (eC A Hd Dd Pd Ad) (0, 0) _ L8.h1 Try.underlying74 rfl infoEnds
        obtain ⟨R, hR⟩ : ∃ R, Hid (eC A Hd Dd Pd Ad = R) := ⟨_, Lib.hid rfl⟩
        rw [hR.out] at hld
        have hR5 : Hid (R.size = 5) := Lib.hid (by rw [← hR.out]; rfl)
        have hR1 : Hid (R.all (·.oneCell') = true) := Lib.hid (by rw [← hR.out]; exact eC_one _ _ _ _ _)
        have hW0 := Lib.hid L8.h0
        go_wp2_with (first
          | (refine wpList_val (by rfl) (exec_load _ _ 74 _ rfl (w.heap.size + 1) 0 rfl R hld) ?_; clear hld)
          | (refine wpList_store_row rfl 74 _ _ rfl w.heap.size R rfl rfl 74 (eC 0 0 0 0 0) hW0.out (by rw [hR5.out]; exact infoEnds) (by rw [hR5.out]; rfl) hR1.out ?_))
        refine bodyPost_ret (v := .agg R) ?_ rfl ⟨by rw [ends_val hy4.out hz.out hA.out hHd.out hDd.out hpz.out hPd.out hAd.out, hR.out], below_setRow L8.hb (Nat.le_refl _) R⟩
        exact results_cell_row (ty := 74) rfl _ _ w.heap.size 74 R (0, 0) _ rfl (setRow_heap _ _ _ _ _ _ hW0.out) Try.underlying74 rfl (by rw [hR5.out]; exact infoEnds)
      · have hz1 : decide (0 < z) = false := decide_eq_false hz0
        have e : Pd = Ad := by rw [← hAd.out, hz1]; rfl
        have H8 : Hid (EdI w A Hd Dd Pd Ad W7) := Lib.hid (by rw [← e]; exact H7.out)
        clear e hz0
        go_upto_region 11 with (fail)
        have L8 := H8.out
        have hld : (Instr.loadAt 74 (.pointer (some ⟨w.heap.size + 1, 0, none⟩))).run Try.prog W7 = .ok (.agg (eC A Hd Dd Pd Ad)) W7 := run_loadVar_row W7 (w.heap.size + 1) 74 74 (eC A Hd Dd Pd Ad) (0, 0) _ L8.h1 Try.underlying74 rfl infoEnds
        obtain ⟨R, hR⟩ : ∃ R, Hid (eC A Hd Dd Pd Ad = R) := ⟨_, Lib.hid rfl⟩
        rw [hR.out] at hld
        have hR5 : Hid (R.size = 5) := Lib.hid (by rw [← hR.out]; rfl)
        have hR1 : Hid (R.all (·.oneCell') = true) := Lib.hid (by rw [← hR.out]; exact eC_one _ _ _ _ _)
        have hW0 := Lib.hid L8.h0
        go_wp2_with (first
          | (refine wpList_val (by rfl) (exec_load _ _ 74 _ rfl (w.heap.size + 1) 0 rfl R hld) ?_; clear hld)
          | (refine wpList_store_row rfl 74 _ _ rfl w.heap.size R rfl rfl 74 (eC 0 0 0 0 0) hW0.out (by rw [hR5.out]; exact infoEnds) (by rw [hR5.out]; rfl) hR1.out ?_))
        refine bodyPost_ret (v := .agg R) ?_ rfl ⟨by rw [ends_val hy4.out hz.out hA.out hHd.out hDd.out hpz.out hPd.out hAd.out, hR.out], below_setRow L8.hb (Nat.le_refl _) R⟩
        exact results_cell_row (ty := 74) rfl _ _ w.heap.size 74 R (0, 0) _ rfl (setRow_heap _ _ _ _ _ _ hW0.out) Try.underlying74 rfl (by rw [hR5.out]; exact infoEnds)
end Go.Proofs.Ytakejggofghblaa
