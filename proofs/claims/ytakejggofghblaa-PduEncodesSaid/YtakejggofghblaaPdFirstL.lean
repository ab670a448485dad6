/-
  pdu.first: of 48 bytes or more.
-/
import Derived.Test.YtakejggofghblaaPdFirst
set_option linter.unusedSimpArgs false
set_option linter.unusedVariables false
namespace Go.Proofs.Ytakejggofghblaa
open Go.RowKit Sh Cr Pd

/-- What is kept: the box of the result, the ends. -/
structure FiS (w : World) (R : Array Value) (g9 : Nat) (W : World) : Prop where
  hz : W.heap[w.heap.size]? = some (.cells zP 28 (0, 0))
  h9 : W.heap[g9]? = some (.cells R 74 (0, 0))
  hb : Below w.heap.size w W
theorem FiS.next {w W W' : World} {R : Array Value} {g9 : Nat} (h : FiS w R g9 W) (hb : Below W.heap.size W W') : FiS w R g9 W' :=
  ⟨(hb.block _ (Array.getElem?_eq_some_iff.1 h.hz).1).trans h.hz, (hb.block _ (Array.getElem?_eq_some_iff.1 h.h9).1).trans h.h9, h.hb.trans (hb.mono h.hb.size)⟩
theorem FiS.set {w W : World} {R : Array Value} {g9 g i : Nat} {v : Value} (h : FiS w R g9 W) (h1 : g ≠ w.heap.size) (h2 : g ≠ g9) (h3 : w.heap.size ≤ g) : FiS w R g9 (W.setCell ⟨g, i, none⟩ v) :=
  ⟨((grown_set W g i v).block _ (Array.getElem?_eq_some_iff.1 h.hz).1 (by simp; omega)).trans h.hz, ((grown_set W g i v).block _ (Array.getElem?_eq_some_iff.1 h.h9).1 (by simp; omega)).trans h.h9, h.hb.setCell (p := ⟨g, i, none⟩) h3 _⟩
theorem head_slice (g o len cap hi : Nat) (h2 : hi ≤ cap) (w : World) : (Instr.sliceAt 23 (.slice (some ⟨g, o, none⟩) len cap) none (some (.int .i64 (hi : Int))) none).run Try.prog w = .ok (.slice (some ⟨g, o, none⟩) hi cap) w := by
  have s := run_slice_head (P := Try.prog) 23 5 Try.underlying23 (by kernel_rfl) (some ⟨g, o, none⟩) len cap hi h2 w
  have hc : cutAt (some ⟨g, o, none⟩) cap 0 = some ⟨g, o, none⟩ := by
    unfold cutAt; split
    · rfl
    · rw [Option.map_some]; congr 1
  rw [hc, Nat.sub_zero, Nat.sub_zero] at s; exact s
theorem Bytes.head {N : Nat} {w : World} {g o len cap : Nat} {bs : List UInt8} (h : Bytes N w (some ⟨g, o, none⟩) len cap bs) (hi : Nat) (h2 : hi ≤ len) : Bytes N w (some ⟨g, o, none⟩) hi cap (bs.take hi) := by
  have hs := h.cut 0 hi (Nat.zero_le _) h2
  have hc : cutAt (some ⟨g, o, none⟩) cap 0 = some ⟨g, o, none⟩ := by
    unfold cutAt; split
    · rfl
    · rw [Option.map_some]; congr 1
  rw [hc, Nat.sub_zero, Nat.sub_zero, List.drop_zero] at hs; exact hs
theorem setRow_grown (W : World) (g : Nat) (cs : Array Value) : W.grownBy (W.setRow g cs) (some g) := ⟨rfl, rfl, rfl, by simp, fun k _ hne => setRow_other W g k _ (fun e => hne (by rw [e]))⟩
theorem TabOk.grown {N : Nat} {W W' : World} {tp : Option Addr} {g : Nat} {cs : Array Value} {T : TypeId} (h : TabOk N W tp) (hN : N ≤ W.heap.size) (hg : W.heap[g]? = some (.cells cs T (0, 0))) (hT : T ≠ 78) (hgr : W.grownBy W' (some g)) : TabOk N W' tp := by
  rcases h with h | ⟨b, h1, h2, h3⟩
  · exact .inl h
  · refine .inr ⟨b, h1, h2, h3.of_block (hgr.block b (by omega) (fun e => ?_))⟩
    obtain ⟨c, hc, _⟩ := h3
    injection e with e
    subst e
    rw [hg] at hc
    injection hc with hc
    injection hc with _ hc
    exact hT hc
theorem neT : (28 : TypeId) ≠ 78 := by decide
theorem FiS.drew {w W : World} {R : Array Value} {g9 : Nat} (h : FiS w R g9 W) : FiS w R g9 W.drew := ⟨h.hz, h.h9, h.hb.drew⟩
theorem wpStill_val {P : Program} {ops : Array Oper} {w : World} {Q : Act → Prop} {a : Act} {o : Oper} {rest : List Oper} (hg : o.guard = none) {v : Value} (hrun : (execOp a.eval o).run P w = .ok (.value v) w)
    (h : wpStill P ops w Q rest (a.put o.dst v)) : wpStill P ops w Q (o :: rest) a := by
  have hw : Region.wanted o (yielded ops a.tmps) = true := by simp [Region.wanted, hg]
  unfold wpStill
  rw [if_pos hw]
  unfold Oper.still
  rw [hrun, Oper.stillUpon_value]
  exact h
theorem wp_store_rowK {P : Program} {o : Oper} {a : Act} {w : World} {K : Act → World → Prop} {Q : Exit → Act → World → Prop} (ty : TypeId) (x y : Operand) (ho : o.op = .store ty x y)
    (g : Nat) (cells : Array Value) (hx : a.eval x = .pointer (some ⟨g, 0, none⟩)) (hy : a.eval y = .agg cells) (t : TypeId) (old : Array Value) (hg : w.heap[g]? = some (.cells old t (0, 0))) (hi : (P.info? ty).map (·.size) = some cells.size)
    (hold : old.size = cells.size) (h1 : cells.all (·.oneCell') = true) (h : K (a.put o.dst undef) (w.setRow g cells)) : o.wp P a w K Q := by
  have hst := run_storeCells_at P g 0 t cells.toList 0 old w hg (by simp; omega) (fun v hv => by rw [Array.all_eq_true'] at h1; exact h1 v (by simpa using hv))
  have hsp : (old.toList.take 0 ++ cells.toList ++ old.toList.drop (0 + cells.toList.length)).toArray = cells := by
    rw [List.drop_eq_nil_of_le (by simp; omega)]; simp
  have hrun : (storeVar ty ⟨g, 0, none⟩ (.agg cells)).run P w = .ok () (w.setRow g cells) := by
    cases hq : P.info? ty with
    | none => simp [hq] at hi
    | some i =>
      have hs : cells.size = i.size := by simp [hq] at hi; omega
      simp only [Nat.add_zero, hsp] at hst
      simp [storeVar, sizeOf, typeInfo, hq, Value.cells, hs, hst]
  unfold Oper.wp execOp
  simp only [ho, hx, hy, Instr.storeAt, Instr.sureAddr, Sem.run_bind, Sem.run_pure, Result.andThen_ok, hrun]
  exact h
/-- What the last region keeps. -/
def LsS (R R1 : Array Value) (g9 gp : Nat) (W : World) : Prop := W.heap[g9]? = some (.cells R 74 (0, 0)) ∧ W.heap[gp]? = some (.cells R1 28 (0, 0))
theorem LsS.row {R R1 : Array Value} {g9 gp s : Nat} {cs : Array Value} {W : World} (h : LsS R R1 g9 gp W) (h1 : s ≠ g9) (h2 : s ≠ gp) : LsS R R1 g9 gp (W.setRow s cs) :=
  ⟨(setRow_other W s g9 cs (by omega)).trans h.1, (setRow_other W s gp cs (by omega)).trans h.2⟩
theorem ne5 : (5 : TypeId) ≠ 28 := by decide
set_option maxRecDepth 100000 in
set_option maxHeartbeats 16000000 in
theorem first_long {w : World} {N g o len cap : Nat} {B : List UInt8} (h d : Bool) (hB : Bytes N w (some ⟨g, o, none⟩) len cap B) (hN : N ≤ w.heap.size) (h48 : 48 ≤ len) :
    Calls Try.prog 27 #[.slice (some ⟨g, o, none⟩) len cap, .bool h, .bool d] w (FirstP w (firstB B h d)) := by
  have hr := hB.hroom
  have hm := hB.hmax
  unfold maxLen at hm
  have HLEN := Lib.hid hB.hlen
  have HB := Lib.hid hB
  have n48 : Hid (¬ B.length < 48) := Lib.hid (by rw [hB.hlen]; omega)
  have h0' : decide ((len : Int) < 48) = false := by simp; omega
  have hz1 : (w.alloc (.cells zP 28)).heap[w.heap.size]? = some (.cells zP 28 (0, 0)) := heap_alloc_new w _
  have hb1 : Below w.heap.size w (w.alloc (.cells zP 28)) := (Below.refl _ w).alloc (Nat.le_refl _) _
  have HZ1 := Lib.hid hz1; have HB1 := Lib.hid hb1
  clear hB hz1 hb1
  go_enter Try.func27, Try.ntmps27
  go_upto_region 1 with (refine wpList_alloc_arr rfl 28 rfl _ allocPdu ?_)
  generalize w.alloc (.cells zP 28) = w1 at HZ1 HB1 ⊢
  have HBy1 := Lib.hid (HB.out.below (HB1.out.mono hN))
  have HSO := Lib.hid (sound_any HBy1.out h48)
  rcases hs : soundB B with _ | _
  · rw [hs] at HSO
    go_upto_region 4 with (go_at_call 39; refine HSO.out.mono ?_; rintro e w' ⟨rfl, rfl⟩)
    have hP0 : Hid (firstB B h d = ({}, 3, 0)) := Lib.hid (firstB_1 n48.out hs)
    have hz0 := Lib.hid HZ1.out
    have hb0 := Lib.hid HB1.out
    go_wp2_with (first
      | (refine wpList_buildP 28 _ rfl zP builtZ (by rfl) ?_)
      | (refine wpList_store_row rfl 28 _ _ rfl w.heap.size zP rfl rfl 28 zP hz0.out infoPdu rfl zP_one ?_))
    refine bodyPost_ret (v := .tuple #[.agg zP, .int .i64 3, .int .i64 0]) ?_ rfl ⟨zP, by rw [hP0.out]; rfl, by rw [hP0.out]; exact PduO.zero _ _, below_setRow hb0.out (Nat.le_refl _) zP⟩
    exact results_cell_row_tmp2 (ty := 28) rfl _ _ w.heap.size 28 zP (0, 0) _ rfl (setRow_heap _ _ _ _ _ _ hz0.out) Try.underlying28 rfl infoPdu _ _ rfl rfl
  · rw [hs] at HSO
    have HS := Lib.hid hs
    obtain ⟨hs0, hs4, hsn⟩ : at0 B 0 < 128 ∧ at0 B 4 ≤ 8 ∧ nOf B ≤ 256 := by
      unfold soundB at hs; simp only [Bool.and_eq_true, decide_eq_true_eq] at hs; exact ⟨hs.1.1, hs.1.2, hs.2⟩
    have HEN := Lib.hid (ends_any h d w1 HBy1.out (Nat.le_trans hN HB1.out.size) h48 hs4 hsn)
    obtain ⟨A, hA⟩ : ∃ A, Hid (ahsE B = A) := ⟨_, Lib.hid rfl⟩
    obtain ⟨Hd, hHd⟩ : ∃ A, Hid (headE B h = A) := ⟨_, Lib.hid rfl⟩
    obtain ⟨Dd, hDd⟩ : ∃ A, Hid (dataE B h = A) := ⟨_, Lib.hid rfl⟩
    obtain ⟨Pd, hPd⟩ : ∃ A, Hid (padE B h = A) := ⟨_, Lib.hid rfl⟩
    obtain ⟨Ad, hAd⟩ : ∃ A, Hid (allE B h d = A) := ⟨_, Lib.hid rfl⟩
    have hA1 : 48 ≤ A ∧ A ≤ 80 := by rw [← hA.out]; unfold ahsE; omega
    have hH1 : A ≤ Hd ∧ Hd ≤ A + 4 := by rw [← hA.out, ← hHd.out]; unfold headE; split <;> omega
    have hD1 : Hd ≤ Dd ∧ Dd ≤ Hd + 256 := by rw [← hDd.out, ← hHd.out]; unfold dataE; omega
    have hP1 : Dd ≤ Pd ∧ Pd ≤ Dd + 3 := by rw [← hDd.out, ← hPd.out]; unfold dataE padE; have := padN_lt (nOf B); omega
    have hL1 : Hid (Pd ≤ Ad ∧ Ad ≤ Pd + 4 ∧ decide (Pd < Ad) = sumd B d) := Lib.hid (by
      rw [← hPd.out, ← hAd.out]; unfold allE
      cases hsm : sumd B d
      · simp
      · simp)
    have hL2 : Pd ≤ Ad ∧ Ad ≤ Pd + 4 := ⟨hL1.out.1, hL1.out.2.1⟩
    obtain ⟨R, hR⟩ : ∃ R, Hid (eC A Hd Dd Pd Ad = R) := ⟨_, Lib.hid rfl⟩
    unfold EndsP at HEN
    rw [hA.out, hHd.out, hDd.out, hPd.out, hAd.out, hR.out] at HEN
    have hR5 : Hid (R.size = 5) := Lib.hid (by rw [← hR.out]; rfl)
    have hR1 : Hid (R.all (·.oneCell') = true) := Lib.hid (by rw [← hR.out]; exact eC_one _ _ _ _ _)
    clear hs hs0 hs4 hsn
    go_upto_region 6 with (first
      | (go_at_call 39; refine HSO.out.mono ?_; rintro e w' ⟨rfl, rfl⟩; clear HSO)
      | (go_at_call 40; refine HEN.out.mono ?_; rintro e w2 ⟨rfl, hb2⟩; have HB2 := Lib.hid hb2; clear hb2 HEN)
      | (refine wpList_store_new rfl 74 _ _ rfl w2.heap.size rfl R rfl rfl 74 _ (by rw [hR5.out]; exact infoEnds) (by rw [hR5.out]; rfl) hR1.out ?_))
    have HF : Hid (FiS w R w2.heap.size (w2.alloc (.cells R 74))) := Lib.hid ⟨by rw [Below.heap_alloc _ _ _ (by have := (Array.getElem?_eq_some_iff.1 HZ1.out).1; have := HB2.out.size; omega), HB2.out.block _ (Array.getElem?_eq_some_iff.1 HZ1.out).1]; exact HZ1.out, heap_alloc_new w2 _, (HB1.out.trans (HB2.out.mono HB1.out.size)).alloc (by have := HB1.out.size; have := HB2.out.size; omega) _⟩
    have hg9 : w.heap.size < w2.heap.size := by have := (Array.getElem?_eq_some_iff.1 HZ1.out).1; have := HB2.out.size; omega
    have hg9' : w2.heap.size < (w2.alloc (.cells R 74)).heap.size := by simp
    generalize w2.alloc (.cells R 74) = w3 at HF hg9' ⊢
    clear HZ1 HB1 HBy1 HB2
    generalize w2.heap.size = g9 at HF hg9 hg9' ⊢
    have CE : Hid (∀ W, FiS w R g9 W → W.cell? ⟨g9, 0, none⟩ = some (.int .i64 (A : Int)) ∧ W.cell? ⟨g9, 1, none⟩ = some (.int .i64 (Hd : Int)) ∧ W.cell? ⟨g9, 2, none⟩ = some (.int .i64 (Dd : Int)) ∧ W.cell? ⟨g9, 3, none⟩ = some (.int .i64 (Pd : Int)) ∧ W.cell? ⟨g9, 4, none⟩ = some (.int .i64 (Ad : Int))) := Lib.hid (fun W hW => by
      have h9 := hW.h9
      rw [← hR.out] at h9
      exact ⟨cell_of_cur h9 0, cell_of_cur h9 1, cell_of_cur h9 2, cell_of_cur h9 3, cell_of_cur h9 4⟩)
    obtain ⟨e0, e1, e2, e3, e4⟩ := CE.out _ HF.out
    by_cases hl2 : len < Hd
    · go_upto_region 7 with (fail)
      clear e0 e1 e2 e3 e4
      have hP0 : Hid (firstB B h d = ({}, 0, 0)) := Lib.hid (firstB_2 n48.out HS.out (by rw [HLEN.out, hHd.out]; exact hl2))
      have hz0 := Lib.hid HF.out.hz
      have hb0 := Lib.hid HF.out.hb
      go_wp2_with (first
        | (refine wpList_buildP 28 _ rfl zP builtZ (by rfl) ?_)
        | (refine wpList_store_row rfl 28 _ _ rfl w.heap.size zP rfl rfl 28 zP hz0.out infoPdu rfl zP_one ?_))
      refine bodyPost_ret (v := .tuple #[.agg zP, .int .i64 0, .int .i64 0]) ?_ rfl ⟨zP, by rw [hP0.out]; rfl, by rw [hP0.out]; exact PduO.zero _ _, below_setRow hb0.out (Nat.le_refl _) zP⟩
      exact results_cell_row_tmp2 (ty := 28) rfl _ _ w.heap.size 28 zP (0, 0) _ rfl (setRow_heap _ _ _ _ _ _ hz0.out) Try.underlying28 rfl infoPdu _ _ rfl rfl
    · have hl2' : decide (len < Hd) = false := decide_eq_false hl2
      have HL2 := Lib.hid (show ¬ B.length < headE B h by rw [HLEN.out, hHd.out]; exact hl2)
      have hh1 : Hd ≤ len := by omega
      clear hl2
      obtain ⟨sm, hsm⟩ : ∃ sm, Hid (sumd B d = sm) := ⟨_, Lib.hid rfl⟩
      have hsm' : decide (Pd < Ad) = sm := by rw [hL1.out.2.2, hsm.out]
      go_upto_region 9 with (fail)
      clear hl2' hsm'
      go_cut [11] (fun s11 wd => ∃ tp, s11 = .pointer tp ∧ Hid (TabOk wd.heap.size wd tp) ∧ Hid (FiS w R g9 wd))
      case first =>
        cases h
        · cases sm
          all_goals
            go_wp2_with (go_at_call 20; refine (tableIf_any _).mono ?_; rintro e w3 ⟨tp, rfl, htp, hb3⟩; have HF3 := Lib.hid (HF.out.next hb3); have HTP := Lib.hid htp; clear htp hb3)
            go_meet
            exact ⟨_, rfl, HTP, HF3⟩
        · go_wp2_with (go_at_call 20; refine (tableIf_any _).mono ?_; rintro e w3 ⟨tp, rfl, htp, hb3⟩; have HF3 := Lib.hid (HF.out.next hb3); have HTP := Lib.hid htp; clear htp hb3)
          go_meet
          exact ⟨_, rfl, HTP, HF3⟩
      case rest =>
        obtain ⟨tp, rfl, HTP, HF4⟩ := hcut
        clear HF hg9' e0 e1 e2 e3 e4
        rename World => w4
        go_upto_region 10 with (fail)
        obtain ⟨bad, hbad⟩ : ∃ bad, Hid ((h && !fitsB (B.take Hd)) = bad) := ⟨_, Lib.hid rfl⟩
        go_cut [50] (fun s50 wd => s50 = .bool bad ∧ Hid (TabOk wd.heap.size wd tp) ∧ Hid (FiS w R g9 wd))
        case first =>
          cases h
          · obtain rfl : bad = false := hbad.out.symm
            go_wp2
            go_meet
            exact ⟨rfl, HTP, HF4⟩
          · obtain ⟨ft, hft⟩ : ∃ ft, Hid (fitsB (B.take Hd) = ft) := ⟨_, Lib.hid rfl⟩
            have hB4 := (HB.out.below (HF4.out.hb.mono hN)).head Hd hh1
            have HFT := Lib.hid (fits_any tp (some ⟨g, o, none⟩) Hd cap (B.take Hd) w4 HTP.out (hB4.mono (Nat.le_trans hN HF4.out.hb.size)))
            have hs10 := head_slice g o len cap Hd (by omega)
            rw [hft.out] at HFT
            obtain rfl : bad = !ft := by rw [← hbad.out, hft.out]; rfl
            obtain ⟨e0, e1, e2, e3, e4⟩ := CE.out _ HF4.out
            clear hB4
            cases ft
            all_goals
              go_wp2_with (go_at_call 41; refine HFT.out.mono ?_; rintro e w5 ⟨rfl, hb5⟩; have HF5 := Lib.hid (HF4.out.next hb5); have HT5 := Lib.hid ((HTP.out.below hb5).mono hb5.size); clear hb5 HFT)
              go_meet
              exact ⟨rfl, HT5, HF5⟩
        case rest =>
          obtain ⟨rfl, HT5, HF5⟩ := hcut
          clear HTP HF4
          rename World => w5
          cases bad
          case' true =>
            obtain ⟨hh, hff⟩ : h = true ∧ fitsB (B.take Hd) = false := by have := hbad.out; simpa using this
            subst hh
            go_upto_region 11 with (fail)
            have hP0 : Hid (firstB B true d = ({}, 3, 0)) := Lib.hid (firstB_3 n48.out HS.out HL2.out (by rw [hHd.out]; exact hff))
            have hz0 := Lib.hid HF5.out.hz
            have hb0 := Lib.hid HF5.out.hb
            go_wp2_with (first
              | (refine wpList_buildP 28 _ rfl zP builtZ (by rfl) ?_)
              | (refine wpList_store_row rfl 28 _ _ rfl w.heap.size zP rfl rfl 28 zP hz0.out infoPdu rfl zP_one ?_))
            refine bodyPost_ret (v := .tuple #[.agg zP, .int .i64 3, .int .i64 0]) ?_ rfl ⟨zP, by rw [hP0.out]; rfl, by rw [hP0.out]; exact PduO.zero _ _, below_setRow hb0.out (Nat.le_refl _) zP⟩
            exact results_cell_row_tmp2 (ty := 28) rfl _ _ w.heap.size 28 zP (0, 0) _ rfl (setRow_heap _ _ _ _ _ _ hz0.out) Try.underlying28 rfl infoPdu _ _ rfl rfl
          have HOK : Hid (okH B h) := Lib.hid (by
            have hx := hbad.out
            unfold okH
            rw [hHd.out]
            cases h
            · exact .inl rfl
            · right; simpa using hx)
          clear hbad
          obtain ⟨e0, e1, e2, e3, e4⟩ := CE.out _ HF5.out
          by_cases hl4 : len < Ad
          · go_upto_region 13 with (fail)
            clear e0 e1 e2 e3 e4
            have hP0 : Hid (firstB B h d = ({}, 0, 0)) := Lib.hid (firstB_4 n48.out HS.out HL2.out HOK.out (by rw [HLEN.out, hAd.out]; exact hl4))
            have hz0 := Lib.hid HF5.out.hz
            have hb0 := Lib.hid HF5.out.hb
            go_wp2_with (first
              | (refine wpList_buildP 28 _ rfl zP builtZ (by rfl) ?_)
              | (refine wpList_store_row rfl 28 _ _ rfl w.heap.size zP rfl rfl 28 zP hz0.out infoPdu rfl zP_one ?_))
            refine bodyPost_ret (v := .tuple #[.agg zP, .int .i64 0, .int .i64 0]) ?_ rfl ⟨zP, by rw [hP0.out]; rfl, by rw [hP0.out]; exact PduO.zero _ _, below_setRow hb0.out (Nat.le_refl _) zP⟩
            exact results_cell_row_tmp2 (ty := 28) rfl _ _ w.heap.size 28 zP (0, 0) _ rfl (setRow_heap _ _ _ _ _ _ hz0.out) Try.underlying28 rfl infoPdu _ _ rfl rfl
          have hl4' : decide (len < Ad) = false := decide_eq_false hl4
          have HL4 := Lib.hid (show ¬ B.length < allE B h d by rw [HLEN.out, hAd.out]; exact hl4)
          have hh4 : Ad ≤ len := by omega
          clear hl4
          have HFL := Lib.hid (fields_any w5 (HB.out.below (HF5.out.hb.mono hN)) (Nat.le_trans hN HF5.out.hb.size) h48)
          obtain ⟨cs0, hcs0⟩ : ∃ cs0, Hid ((fieldsB B).cs (.slice none 0 0) (.slice none 0 0) = cs0) := ⟨_, Lib.hid rfl⟩
          unfold FldP at HFL
          rw [hcs0.out] at HFL
          have hc5 : Hid (cs0.size = 16) := Lib.hid (by rw [← hcs0.out]; rfl)
          have hc1 : Hid (cs0.all (·.oneCell') = true) := Lib.hid (by rw [← hcs0.out]; exact P.cs_one _ _ _ _ _ _ _)
          go_upto_region 15 with (first
            | (go_at_call 42; refine HFL.out.mono ?_; rintro e w6 ⟨rfl, hb6⟩; have HF6 := Lib.hid (HF5.out.next hb6); have HT6 := Lib.hid ((HT5.out.below hb6).mono hb6.size); clear hb6 HFL)
            | (refine wpList_alloc_arr rfl 28 rfl _ allocPdu ?_)
            | (refine wpList_store_new rfl 28 _ _ rfl w6.heap.size rfl cs0 rfl rfl 28 zP (by rw [hc5.out]; exact infoPdu) (by rw [hc5.out]; rfl) hc1.out ?_))
          have hba : Below w6.heap.size w6 (w6.alloc (.cells cs0 28)) := (Below.refl _ _).alloc (Nat.le_refl _) _
          have HF7 := Lib.hid (HF6.out.next hba)
          have HT7 := Lib.hid ((HT6.out.below hba).mono hba.size)
          have HX7 : Hid ((w6.alloc (.cells cs0 28)).heap[w6.heap.size]? = some (.cells cs0 28 (0, 0))) := Lib.hid (heap_alloc_new w6 _)
          have hg12 : w.heap.size < w6.heap.size ∧ g9 < w6.heap.size := ⟨(Array.getElem?_eq_some_iff.1 HF6.out.hz).1, (Array.getElem?_eq_some_iff.1 HF6.out.h9).1⟩
          clear hba HF6 HT6 hl4' e0 e1 e2 e3 e4 HF5 HT5
          generalize w6.alloc (.cells cs0 28) = w7 at HF7 HT7 HX7 ⊢
          generalize w6.heap.size = gp at HX7 hg12 ⊢
          obtain ⟨bq, hbq⟩ : ∃ bq, Hid (cutAt (some ⟨g, o, none⟩) cap 48 = bq) := ⟨_, Lib.hid rfl⟩
          obtain ⟨la, hla⟩ : ∃ la, Hid (A - 48 = la) := ⟨_, Lib.hid rfl⟩
          obtain ⟨ca, hca⟩ : ∃ ca, Hid (cap - 48 = ca) := ⟨_, Lib.hid rfl⟩
          have s15 : ∀ w : World, (Instr.sliceAt 23 (.slice (some ⟨g, o, none⟩) len cap) (some (.int .i64 48)) (some (.int .i64 (A : Int))) none).run Try.prog w = .ok (.slice bq la ca) w := fun w => by
            rw [← hbq.out, ← hla.out, ← hca.out]; exact run_slice_mid (P := Try.prog) 23 5 Try.underlying23 (by kernel_rfl) (some ⟨g, o, none⟩) len cap 48 A hA1.1 (by omega) w
          have hBq := (HB.out.below (HF7.out.hb.mono hN)).cut 48 A hA1.1 (by omega)
          rw [hbq.out, hla.out, hca.out] at hBq
          obtain ⟨ahs, hahs⟩ : ∃ ahs, Hid ((B.drop 48).take (A - 48) = ahs) := ⟨_, Lib.hid rfl⟩
          rw [← hla.out, hahs.out] at hBq
          rw [hla.out] at hBq
          have HCP := Lib.hid (copied_any N bq la ca ahs w7 hBq (by have := hla.out; omega))
          obtain ⟨e0, e1, e2, e3, e4⟩ := CE.out _ HF7.out
          clear hBq
          go_upto_region 16 with (go_at_call 43; refine HCP.out.mono ?_; rintro e w8 ⟨v8, rfl, hO8⟩; have HR8 : Hid (OwR w w8 v8 ahs) := Lib.hid (hO8.rebase HF7.out.hb).own; obtain ⟨p8, c8, rfl, _⟩ := HR8.out.bytes; have hb8 := hO8.below; have HF8 := Lib.hid (HF7.out.next hb8); have HT8 := Lib.hid ((HT7.out.below hb8).mono hb8.size); have HX8 := Lib.hid ((hb8.block _ (Array.getElem?_eq_some_iff.1 HX7.out).1).trans HX7.out); have x8 := (cell_of_cur HX8.out 5).trans (Array.getElem?_eq_getElem (by rw [hc5.out]; omega)); have xf8 : w8.frozen? ⟨gp, 5, none⟩ = false := (by simp [World.frozen?, HX8.out]); clear hO8 hb8 HF7 HT7 HX7 HCP)
          have HG9 := grown_set w8 gp 5 (.slice p8 ahs.length c8)
          have HF9 := Lib.hid (HF8.out.set (i := 5) (v := .slice p8 ahs.length c8) (g := gp) (by omega) (by omega) (by omega))
          have HT9 := Lib.hid ((HT8.out.grown (Nat.le_refl _) HX8.out neT HG9).mono HG9.size)
          have HR9 := Lib.hid (HR8.out.grown HX8.out ne5 HG9)
          obtain ⟨p1, hp1⟩ : ∃ p1, Hid (({ fieldsB B with ahs := ahs } : P) = p1) := ⟨_, Lib.hid rfl⟩
          have HX9 : Hid ((w8.setCell ⟨gp, 5, none⟩ (.slice p8 ahs.length c8)).heap[gp]? = some (.cells (p1.cs (.slice p8 ahs.length c8) (.slice none 0 0)) 28 (0, 0))) := Lib.hid (by
            have e : p1.cs (.slice p8 ahs.length c8) (.slice none 0 0) = cs0.setIfInBounds 5 (.slice p8 ahs.length c8) := by rw [← hp1.out, ← hcs0.out]; rfl
            rw [e]
            simp [World.setCell, Array.getElem?_modify, HX8.out])
          clear HG9 HF8 HT8 HX8 HR8 x8 xf8 e0 e1 e2 e3 e4 s15
          generalize w8.setCell ⟨gp, 5, none⟩ (.slice p8 ahs.length c8) = w9 at HF9 HT9 HR9 HX9 ⊢
          obtain ⟨bq2, hbq2⟩ : ∃ bq, Hid (cutAt (some ⟨g, o, none⟩) cap Hd = bq) := ⟨_, Lib.hid rfl⟩
          obtain ⟨lb, hlb⟩ : ∃ lb, Hid (Ad - Hd = lb) := ⟨_, Lib.hid rfl⟩
          obtain ⟨cb, hcb⟩ : ∃ cb, Hid (cap - Hd = cb) := ⟨_, Lib.hid rfl⟩
          obtain ⟨tl, htl⟩ : ∃ tl, Hid ((B.drop Hd).take (Ad - Hd) = tl) := ⟨_, Lib.hid rfl⟩
          obtain ⟨ft2, hft2⟩ : ∃ ft, Hid (fitsB tl = ft) := ⟨_, Lib.hid rfl⟩
          obtain ⟨bad2, hbad2⟩ : ∃ bad, Hid ((sm && !ft2) = bad) := ⟨_, Lib.hid rfl⟩
          go_cut [77] (fun s77 wd => s77 = .bool bad2 ∧ Hid (Below w9.heap.size w9 wd))
          case first =>
            cases sm
            · obtain rfl : bad2 = false := hbad2.out.symm
              go_wp2
              go_meet
              exact ⟨rfl, Lib.hid (Below.refl _ _)⟩
            · have s16 : ∀ w : World, (Instr.sliceAt 23 (.slice (some ⟨g, o, none⟩) len cap) (some (.int .i64 (Hd : Int))) (some (.int .i64 (Ad : Int))) none).run Try.prog w = .ok (.slice bq2 lb cb) w := fun w => by
                rw [← hbq2.out, ← hlb.out, ← hcb.out]; exact run_slice_mid (P := Try.prog) 23 5 Try.underlying23 (by kernel_rfl) (some ⟨g, o, none⟩) len cap Hd Ad (by omega) (by omega) w
              have hBq := (HB.out.below (HF9.out.hb.mono hN)).cut Hd Ad (by omega) (by omega)
              rw [hbq2.out, htl.out, hlb.out, hcb.out] at hBq
              have HFT := Lib.hid (fits_any tp bq2 lb cb tl w9 HT9.out (hBq.mono (Nat.le_trans hN HF9.out.hb.size)))
              rw [hft2.out] at HFT
              obtain rfl : bad2 = !ft2 := by rw [← hbad2.out]; rfl
              obtain ⟨e0, e1, e2, e3, e4⟩ := CE.out _ HF9.out
              clear hBq
              cases ft2
              all_goals
                go_wp2_with (go_at_call 41; refine HFT.out.mono ?_; rintro e wa ⟨rfl, hba⟩; have HBa := Lib.hid hba; clear hba HFT)
                go_meet
                exact ⟨rfl, HBa⟩
          case rest =>
            obtain ⟨rfl, HBa⟩ := hcut
            rename World => wa
            have HFa := Lib.hid (HF9.out.next HBa.out)
            have HRa := Lib.hid (HR9.out.next HBa.out)
            have HXa := Lib.hid ((HBa.out.block _ (Array.getElem?_eq_some_iff.1 HX9.out).1).trans HX9.out)
            clear HBa HF9 HT9 HR9 HX9
            have HL1 := Lib.hid (show sumd B d = sm from hsm.out)
            cases bad2
            case true =>
              go_upto_region 17 with (fail)
              have HPR : Hid (firstB B h d = (p1, 2, Ad)) := Lib.hid (by
                obtain ⟨q1, q2⟩ : sm = true ∧ ft2 = false := by have := hbad2.out; simpa using this
                rw [firstB_5 n48.out HS.out HL2.out HOK.out HL4.out (by rw [hsm.out]; exact q1) (by rw [hHd.out, hAd.out, htl.out, hft2.out]; exact q2), hA.out, hahs.out, hp1.out, hAd.out])
              have HPA : Hid (p1.ahs = ahs) := Lib.hid (by rw [← hp1.out])
              have HPD : Hid (p1.data = []) := Lib.hid (by rw [← hp1.out]; rfl)
              obtain ⟨R1, hR1'⟩ : ∃ R1, Hid (p1.cs (.slice p8 ahs.length c8) (.slice none 0 0) = R1) := ⟨_, Lib.hid rfl⟩
              have hRz : Hid (R1.size = 16) := Lib.hid (by rw [← hR1'.out]; rfl)
              have hRo : Hid (R1.all (·.oneCell') = true) := Lib.hid (by rw [← hR1'.out]; exact P.cs_one _ _ _ _ _ _ _)
              rw [hR1'.out] at HXa
              have HFd := Lib.hid HFa.out.drew
              have HXd : Hid (wa.drew.heap[gp]? = some (.cells R1 28 (0, 0))) := HXa
              have HRd := Lib.hid HRa.out.drew
              refine wp_region_held (S := LsS R R1 g9 gp) (by kernel_rfl) ?_
              change wpAnyH _ _ _ _ _ _ _ _ (World.drew _)
              clear HFa HXa HRa
              generalize wa.drew = wd at HFd HXd HRd ⊢
              have hS : LsS R R1 g9 gp wd := ⟨HFd.out.h9, HXd.out⟩
              have CE9 : Hid (∀ W, LsS R R1 g9 gp W → W.cell? ⟨g9, 4, none⟩ = some (.int .i64 (Ad : Int))) := Lib.hid (fun W hW => by have h9 := hW.1; rw [← hR.out] at h9; exact cell_of_cur h9 4)
              have hW0 := Lib.hid HFd.out.hz
              refine wpAnyH_take (i := 0) (v := .agg R1) rfl (by kernel_rfl) (by kernel_rfl) (by kernel_rfl) (fun _ _ _ h => h) (Or.inl ⟨by rfl, fun W hW => exec_load _ _ 28 _ rfl gp 0 rfl R1 (load_pdu hW.2 hRz)⟩) hS ?_
              try simp only [List.getElem_toArray, List.getElem_cons_succ, List.getElem_cons_zero, Act.put, List.setIfInBounds_toArray, List.set]
              refine wpAnyH_take (i := 1) (v := .pointer (some ⟨g9, 4, none⟩)) rfl (by kernel_rfl) (by kernel_rfl) (by kernel_rfl) (fun _ _ _ h => h) (Or.inl ⟨by rfl, ?_⟩) hS ?_
              · intro w _; go_simp
              try simp only [List.getElem_toArray, List.getElem_cons_succ, List.getElem_cons_zero, Act.put, List.setIfInBounds_toArray, List.set]
              refine wpAnyH_take (i := 2) (v := .int .i64 (Ad : Int)) rfl (by kernel_rfl) (by kernel_rfl) (by kernel_rfl) (fun _ _ _ h => h) (Or.inl ⟨by rfl, ?_⟩) hS ?_
              · intro w' hw; have c := CE9.out _ hw; go_simp
              try simp only [List.getElem_toArray, List.getElem_cons_succ, List.getElem_cons_zero, Act.put, List.setIfInBounds_toArray, List.set]
              refine wpAnyH_one 3 _ rfl (by kernel_rfl) (by rfl) (fun K hK => ?_)
              refine wp_store_rowK 28 _ _ rfl w.heap.size R1 rfl rfl 28 zP hW0.out (by rw [hRz.out]; exact infoPdu) (by rw [hRz.out]; rfl) hRo.out ?_
              have hS2 : LsS R R1 g9 gp (wd.setRow w.heap.size R1) := hS.row (by omega) (by omega)
              refine hK _ _ hS2 ?_
              clear hK K
              try simp only [List.getElem_toArray, List.getElem_cons_succ, List.getElem_cons_zero, Act.put, List.setIfInBounds_toArray, List.set]
              refine wpAnyH_take (i := 4) (v := .int .i64 2) rfl (by kernel_rfl) (by kernel_rfl) (by kernel_rfl) (fun _ _ _ h => h) (Or.inl ⟨by rfl, ?_⟩) hS2 ?_
              · intro w _; go_simp
              try simp only [List.getElem_toArray, List.getElem_cons_succ, List.getElem_cons_zero, Act.put, List.setIfInBounds_toArray, List.set]
              refine wpAnyH_take (i := 5) (v := .int .i64 (Ad : Int)) rfl (by kernel_rfl) (by kernel_rfl) (by kernel_rfl) (fun _ _ _ h => h) (Or.inl ⟨by rfl, ?_⟩) hS2 ?_
              · intro w _; go_simp
              try simp only [List.getElem_toArray, List.getElem_cons_succ, List.getElem_cons_zero, Act.put, List.setIfInBounds_toArray, List.set]
              refine wpAnyH_done (by kernel_rfl) ?_ _
              go_wp2
              refine bodyPost_ret (v := .tuple #[.agg R1, .int .i64 2, .int .i64 (Ad : Int)]) ?_ rfl ⟨R1, by rw [HPR.out]; rfl, ?_, below_setRow HFd.out.hb (Nat.le_refl _) R1⟩
              · exact results_cell_row_tmp2 (ty := 28) rfl _ _ w.heap.size 28 R1 (0, 0) _ rfl (setRow_heap _ _ _ _ _ _ hW0.out) Try.underlying28 rfl (by rw [hRz.out]; exact infoPdu) _ _ rfl rfl
              rw [HPR.out, ← hR1'.out]
              exact ⟨_, _, rfl, by rw [HPA.out]; exact HRd.out.grown hW0.out ne5 (setRow_grown _ _ _), by rw [HPD.out]; exact World.ownsRow_nil _ _ _ _⟩
            case false =>
              obtain ⟨bq3, hbq3⟩ : ∃ bq, Hid (cutAt (some ⟨g, o, none⟩) cap Hd = bq) := ⟨_, Lib.hid rfl⟩
              obtain ⟨lc, hlc⟩ : ∃ lb, Hid (Dd - Hd = lb) := ⟨_, Lib.hid rfl⟩
              obtain ⟨cc, hcc⟩ : ∃ cb, Hid (cap - Hd = cb) := ⟨_, Lib.hid rfl⟩
              obtain ⟨dat, hdat⟩ : ∃ tl, Hid ((B.drop Hd).take (Dd - Hd) = tl) := ⟨_, Lib.hid rfl⟩
              have s18 : ∀ w : World, (Instr.sliceAt 23 (.slice (some ⟨g, o, none⟩) len cap) (some (.int .i64 (Hd : Int))) (some (.int .i64 (Dd : Int))) none).run Try.prog w = .ok (.slice bq3 lc cc) w := fun w => by
                rw [← hbq3.out, ← hlc.out, ← hcc.out]; exact run_slice_mid (P := Try.prog) 23 5 Try.underlying23 (by kernel_rfl) (some ⟨g, o, none⟩) len cap Hd Dd (by omega) (by omega) w
              have hBq := (HB.out.below (HFa.out.hb.mono hN)).cut Hd Dd (by omega) (by omega)
              rw [hbq3.out, hdat.out, hlc.out, hcc.out] at hBq
              have HCP := Lib.hid (copied_any N bq3 lc cc dat wa hBq (by have := hlc.out; omega))
              obtain ⟨e0, e1, e2, e3, e4⟩ := CE.out _ HFa.out
              clear hBq
              go_upto_region 19 with (go_at_call 43; refine HCP.out.mono ?_; rintro e wb ⟨vb, rfl, hOb⟩; have HRb : Hid (OwR w wb vb dat) := Lib.hid (hOb.rebase HFa.out.hb).own; obtain ⟨pb, kb, rfl, _⟩ := HRb.out.bytes; have hbb := hOb.below; have HFb := Lib.hid (HFa.out.next hbb); have HRb8 := Lib.hid (HRa.out.next hbb); have HXb := Lib.hid ((hbb.block _ (Array.getElem?_eq_some_iff.1 HXa.out).1).trans HXa.out); have x8 := (cell_of_cur HXb.out 15).trans (Array.getElem?_eq_getElem (show 15 < 16 by omega)); have xf8 : wb.frozen? ⟨gp, 15, none⟩ = false := (by simp [World.frozen?, HXb.out]); clear hOb hbb HFa HRa HXa HCP)
              have HGc := grown_set wb gp 15 (.slice pb dat.length kb)
              have HFc := Lib.hid (HFb.out.set (i := 15) (v := .slice pb dat.length kb) (g := gp) (by omega) (by omega) (by omega))
              have HRc := Lib.hid (HRb.out.grown HXb.out ne5 HGc)
              have HRc8 := Lib.hid (HRb8.out.grown HXb.out ne5 HGc)
              obtain ⟨p2, hp2⟩ : ∃ p2, Hid (({ p1 with data := dat } : P) = p2) := ⟨_, Lib.hid rfl⟩
              have HXc : Hid ((wb.setCell ⟨gp, 15, none⟩ (.slice pb dat.length kb)).heap[gp]? = some (.cells (p2.cs (.slice p8 ahs.length c8) (.slice pb dat.length kb)) 28 (0, 0))) := Lib.hid (by
                have e : p2.cs (.slice p8 ahs.length c8) (.slice pb dat.length kb) = (p1.cs (.slice p8 ahs.length c8) (.slice none 0 0)).setIfInBounds 15 (.slice pb dat.length kb) := by rw [← hp2.out]; rfl
                rw [e]
                simp [World.setCell, Array.getElem?_modify, HXb.out])
              clear HGc HFb HRb HXb HRb8 x8 xf8 e0 e1 e2 e3 e4 s18
              generalize wb.setCell ⟨gp, 15, none⟩ (.slice pb dat.length kb) = wc at HFc HRc HRc8 HXc ⊢
              have HPR : Hid (firstB B h d = (p2, 1, Ad)) := Lib.hid (by
                have q : sumd B d = false ∨ fitsB ((B.drop (headE B h)).take (allE B h d - headE B h)) = true := by
                  rw [hsm.out, hHd.out, hAd.out, htl.out, hft2.out]; have := hbad2.out; revert this; cases sm <;> cases ft2 <;> simp
                have e : Dd - Hd = nOf B := by rw [← hDd.out, ← hHd.out]; unfold dataE; omega
                rw [firstB_6 n48.out HS.out HL2.out HOK.out HL4.out q, hA.out, hahs.out, hAd.out, hHd.out, ← e, hdat.out, ← hp2.out, ← hp1.out])
              have HPA : Hid (p2.ahs = ahs) := Lib.hid (by rw [← hp2.out, ← hp1.out])
              have HPD : Hid (p2.data = dat) := Lib.hid (by rw [← hp2.out])
              obtain ⟨R1, hR1'⟩ : ∃ R1, Hid (p2.cs (.slice p8 ahs.length c8) (.slice pb dat.length kb) = R1) := ⟨_, Lib.hid rfl⟩
              have hRz : Hid (R1.size = 16) := Lib.hid (by rw [← hR1'.out]; rfl)
              have hRo : Hid (R1.all (·.oneCell') = true) := Lib.hid (by rw [← hR1'.out]; exact P.cs_one _ _ _ _ _ _ _)
              rw [hR1'.out] at HXc
              have HFd := Lib.hid HFc.out.drew
              have HXd : Hid (wc.drew.heap[gp]? = some (.cells R1 28 (0, 0))) := HXc
              have HRd := Lib.hid HRc8.out.drew
              have HRe := Lib.hid HRc.out.drew
              refine wp_region_held (S := LsS R R1 g9 gp) (by kernel_rfl) ?_
              change wpAnyH _ _ _ _ _ _ _ _ (World.drew _)
              clear HFc HXc HRc HRc8
              generalize wc.drew = wd at HFd HXd HRd HRe ⊢
              have hS : LsS R R1 g9 gp wd := ⟨HFd.out.h9, HXd.out⟩
              have CE9 : Hid (∀ W, LsS R R1 g9 gp W → W.cell? ⟨g9, 4, none⟩ = some (.int .i64 (Ad : Int))) := Lib.hid (fun W hW => by have h9 := hW.1; rw [← hR.out] at h9; exact cell_of_cur h9 4)
              have hW0 := Lib.hid HFd.out.hz
              refine wpAnyH_take (i := 0) (v := .agg R1) rfl (by kernel_rfl) (by kernel_rfl) (by kernel_rfl) (fun _ _ _ h => h) (Or.inl ⟨by rfl, fun W hW => exec_load _ _ 28 _ rfl gp 0 rfl R1 (load_pdu hW.2 hRz)⟩) hS ?_
              try simp only [List.getElem_toArray, List.getElem_cons_succ, List.getElem_cons_zero, Act.put, List.setIfInBounds_toArray, List.set]
              refine wpAnyH_take (i := 1) (v := .pointer (some ⟨g9, 4, none⟩)) rfl (by kernel_rfl) (by kernel_rfl) (by kernel_rfl) (fun _ _ _ h => h) (Or.inl ⟨by rfl, ?_⟩) hS ?_
              · intro w _; go_simp
              try simp only [List.getElem_toArray, List.getElem_cons_succ, List.getElem_cons_zero, Act.put, List.setIfInBounds_toArray, List.set]
              refine wpAnyH_take (i := 2) (v := .int .i64 (Ad : Int)) rfl (by kernel_rfl) (by kernel_rfl) (by kernel_rfl) (fun _ _ _ h => h) (Or.inl ⟨by rfl, ?_⟩) hS ?_
              · intro w' hw; have c := CE9.out _ hw; go_simp
              try simp only [List.getElem_toArray, List.getElem_cons_succ, List.getElem_cons_zero, Act.put, List.setIfInBounds_toArray, List.set]
              refine wpAnyH_one 3 _ rfl (by kernel_rfl) (by rfl) (fun K hK => ?_)
              refine wp_store_rowK 28 _ _ rfl w.heap.size R1 rfl rfl 28 zP hW0.out (by rw [hRz.out]; exact infoPdu) (by rw [hRz.out]; rfl) hRo.out ?_
              have hS2 : LsS R R1 g9 gp (wd.setRow w.heap.size R1) := hS.row (by omega) (by omega)
              refine hK _ _ hS2 ?_
              clear hK K
              try simp only [List.getElem_toArray, List.getElem_cons_succ, List.getElem_cons_zero, Act.put, List.setIfInBounds_toArray, List.set]
              refine wpAnyH_take (i := 4) (v := .int .i64 1) rfl (by kernel_rfl) (by kernel_rfl) (by kernel_rfl) (fun _ _ _ h => h) (Or.inl ⟨by rfl, ?_⟩) hS2 ?_
              · intro w _; go_simp
              try simp only [List.getElem_toArray, List.getElem_cons_succ, List.getElem_cons_zero, Act.put, List.setIfInBounds_toArray, List.set]
              refine wpAnyH_take (i := 5) (v := .int .i64 (Ad : Int)) rfl (by kernel_rfl) (by kernel_rfl) (by kernel_rfl) (fun _ _ _ h => h) (Or.inl ⟨by rfl, ?_⟩) hS2 ?_
              · intro w _; go_simp
              try simp only [List.getElem_toArray, List.getElem_cons_succ, List.getElem_cons_zero, Act.put, List.setIfInBounds_toArray, List.set]
              refine wpAnyH_done (by kernel_rfl) ?_ _
              go_wp2
              refine bodyPost_ret (v := .tuple #[.agg R1, .int .i64 1, .int .i64 (Ad : Int)]) ?_ rfl ⟨R1, by rw [HPR.out]; rfl, ?_, below_setRow HFd.out.hb (Nat.le_refl _) R1⟩
              · exact results_cell_row_tmp2 (ty := 28) rfl _ _ w.heap.size 28 R1 (0, 0) _ rfl (setRow_heap _ _ _ _ _ _ hW0.out) Try.underlying28 rfl (by rw [hRz.out]; exact infoPdu) _ _ rfl rfl
              rw [HPR.out, ← hR1'.out]
              exact ⟨_, _, rfl, by rw [HPA.out]; exact HRd.out.grown hW0.out ne5 (setRow_grown _ _ _), by rw [HPD.out]; exact HRe.out.grown hW0.out ne5 (setRow_grown _ _ _)⟩
end Go.Proofs.Ytakejggofghblaa
