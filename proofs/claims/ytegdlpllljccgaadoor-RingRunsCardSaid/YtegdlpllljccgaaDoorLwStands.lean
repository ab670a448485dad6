/-
  The law's own: stands.
-/
import Derived.Test.YtegdlpllljccgaaDoorLwOne
set_option linter.unusedSimpArgs false
set_option linter.unusedVariables false
namespace Go.Proofs.YtegdlpllljccgaaDoor
open Go.RowKit Sh Go.Extern.Stop Go.Stop Go.Extern

theorem field_place (m : Mk) (W : World) : (Instr.field 25 (.agg (markCells m).toArray) 0).run Tryd.prog W = .ok (.int .i64 (m.place : Nat)) W := by
  have p1 := run_part_int (P := Tryd.prog) 3 Tryd.underlying3 (markCells m).toArray 0 (.int .i64 m.place) rfl W
  unfold Instr.field
  simp only [Sem.run_bind, run_underlying Tryd.underlying25 W, Result.andThen_ok]
  exact p1
set_option maxRecDepth 100000 in
set_option maxHeartbeats 8000000 in
theorem stands_any (w : World) : Calls Tryd.prog 10 #[] w fun e w' => e = .returned (.bool true) ∧ Below w.heap.size w w' := by
  obtain ⟨hl, Hl⟩ : ∃ hl : List Value, Hid (hl = zMark) := ⟨_, rfl⟩
  have hbz : Hid (Tryd.prog.built 25 [] = some hl.toArray) := by rw [Hl.out]; exact builtPMark
  have hm0 : hl = markCells m00 := by rw [Hl.out]; rfl
  have hn0 := open_new (D := 200) (first := 2) (n := 100) m00 (by omega) (by omega)
  go_enter Tryd.func10, Tryd.ntmps10
  go_wp2_with (go_at_call 12; refine (pd_new 200 (by omega) (by omega) _).mono ?_)
  rintro e w1 ⟨v, rfl, hN⟩
  obtain ⟨gd, F1, rfl, hP1, hF1, hb1⟩ := hN.next (Nat.le_refl _) (Below.refl _ _)
  clear hN
  have s1 := hb1.size
  have hop1 := openv_any hP1 (good_new 200 (by omega) (by omega)) (byt_new 200) rfl (first := 2) (n := 100) (m := m00) (by rw [newS_len]; omega) (by omega) (by omega) (by decide) (by decide) (by decide) hn0 (used := 0) rfl (by omega)
  have k2 : ((2 : Nat) : Int) = 2 := rfl
  have k100 : ((100 : Nat) : Int) = 100 := rfl
  rw [← hm0, k2, k100] at hop1
  have Hop1 := Lib.hid hop1
  have Hm0 := Lib.hid hm0; have Hn0 := Lib.hid hn0
  clear hop1 hm0 hn0 k2 k100
  go_wp2_with (first
    | (refine wpList_buildZ 25 rfl hl.toArray hbz.out (by rfl) ?_)
    | (go_at_call 14; refine Hop1.out.mono ?_))
  rintro e w2 ⟨g, ap, cp, rfl, hg, hring, hok, hrv, hb2⟩
  have hb02 := hb1.trans (hb2.mono s1)
  have s2 := hb02.size
  have hP2 := hP1.below hb2
  have hgF : ¬ F1 g := fun h => by have := hP1.lt h; omega
  have hgl2 : g < w2.heap.size := hring.lt
  clear Hop1 hP1 hrv
  -- the record
  obtain ⟨pv, Hpv⟩ : ∃ pv : List Value, Hid (pv = page1 9) := ⟨_, rfl⟩
  have hB1 : Hid (Tryd.prog.built 63 [(0, .int .u8 9)] = some pv.toArray) := by rw [Hpv.out]; exact built_c9
  obtain ⟨cv, Hcv⟩ : ∃ cv : List Value, Hid (cv = .int .i64 (7 : Int) :: pv) := ⟨_, rfl⟩
  have hB2 : Hid (Tryd.prog.built 91 [(0, .int .i64 7), (1, .agg pv.toArray)] = some cv.toArray) := by rw [Hcv.out]; exact built_chg 7 pv (by rw [Hpv.out]; exact page1_ok 9)
  have hcve : cv = chgC c9 := by rw [Hcv.out, Hpv.out, chgC_c9]
  have hcvl : cv.length = 65 := by rw [hcve]; exact chgC_len (by simp [c9])
  have hbA : Below w2.heap.size w2 (w2.alloc (.cells cv.toArray 91)) := (Below.refl _ _).alloc (Nat.le_refl _) _
  have hrowA : (w2.alloc (.cells cv.toArray 91)).heap[w2.heap.size]? = some (.cells cv.toArray 91 (0, 0)) := heap_alloc_new w2 _
  have hCA : Chgs (w2.alloc (.cells cv.toArray 91)).heap.size (w2.alloc (.cells cv.toArray 91)) (some ⟨w2.heap.size, 0, none⟩) [c9] :=
    chgs_of_row (t := 91) (fun c hc => by rw [List.mem_singleton.1 hc]; simp [c9]) (by rw [hrowA, hcve]; simp)
  have hadd := padd_any (hring.below hbA) hok (hP2.below hbA) hgF (good_new 200 (by omega) (by omega)) (by rw [newS_len]; omega) (by rw [newS_ats]; omega) [c9] _ 1 fit_c9 hCA (by decide)
  obtain ⟨S1, hS1⟩ : ∃ S1, S1 = (writesOf 2 100 (newS 200) 0 (sectors m00 [c9])).1 := ⟨_, rfl⟩
  obtain ⟨hz, hlit, hfl, hop⟩ := one_laid hS1 []
  have hG1 : Good S1 := by rw [hS1]; exact writesOf_good _ _ _ _ _ (good_new 200 (by omega) (by omega))
  have hB1' : Byt S1 := by
    rw [hS1]
    refine writesOf_byt _ _ _ _ _ (fun p hp => ?_) (byt_new 200)
    rcases List.mem_cons.1 hp with rfl | hp
    · simp [firstOf, head10_length, dig_len]
    · exact body_pages fit_c9 p hp
  have hc1 : S1.ats.length ≤ 1000 := by rw [hS1]; have := writesOf_count 2 100 (sectors m00 [c9]) (newS 200) 0; rw [sectors_length, takes_one, newS_ats] at this; omega
  have hfm1 : S1.firm.length = 200 := by rw [hS1, writesOf_firm, newS_len]
  have Hadd := Lib.hid hadd
  have hb02A := hb02.trans (hbA.mono s2)
  have s2A := hb02A.size
  have Hz := Lib.hid hz; have HS1 := Lib.hid hS1
  have Hop := Lib.hid hop; have Hfl := Lib.hid hfl
  have hcl := hcvl
  have Hcve := Lib.hid hcve
  clear hadd hCA hrowA hok hring hz hS1 hop hfl hcve hfm1
  go_wp2_with (first
    | (have _t := hB1; refine wpList_build_to rfl 63 _ rfl pv.toArray (Eq.trans (congrArg (Program.built _ _) (by simp [Act.eval])) hB1.out) ?_)
    | (refine wpList_build_to rfl 91 _ rfl cv.toArray (Eq.trans (congrArg (Program.built _ _) (by simp [Act.eval, Act.put])) hB2.out) ?_)
    | (refine wpList_row1 50 91 _ rfl rfl cv 65 zChg 72 Tryd.underlying50 infoChg (by omega) (by omega) zChg_len hcvl rfl ?_)
    | (go_at_call 22; refine Hadd.out.mono ?_))
  rintro e w3 ⟨v, F3, rfl, hE, hP3, hring3, ho3, hF3⟩
  have e0 : m00.place = 0 := rfl
  rw [e0] at hE hP3 hring3
  rw [Hz.out] at hE
  obtain rfl := ErrV.zero hE
  have hring3' : PrAt g gd 2 100 (endM 100 m00 [c9]) (0 + takes [c9].length) w3 := hring3.elim (·.2) (fun h => absurd Hz.out h.1)
  have e3 : (writesOf 2 100 (newS 200) 0 (sectors m00 [c9])).1 = S1 := HS1.out.symm
  rw [e3] at hP3
  have hF3b : ∀ k, F3 k → w.heap.size ≤ k := fun k hk => (hF3 k hk).elim (hF1 k) (fun h => by omega)
  have hb3 : Below w.heap.size w w3 := hb02A.trans (ho3.base s2A (fun k hk => hk.elim (fun e => by omega) (hF1 k)))
  have s3 := hb3.size
  have hgF3 : ¬ F3 g := fun h => (hF3 g h).elim hgF (fun h => by have := hbA.size; omega)
  have hflu := pd_flush hP3 hG1 (by omega)
  have Hflu := Lib.hid hflu
  clear e0 e3 hflu hring3 ho3 hE Hadd hb02A s2A hbA hB1 hB2 hb02 hb2 hb1 s1 s2 hP2 hF1
  go_wp2_with (go_at_call 30; refine Hflu.out.mono ?_)
  rintro e w4 ⟨v, rfl, hT⟩
  have hfl0 := Hfl.out
  obtain ⟨F4, hE, hP4, ho4, hF4'⟩ := hT
  rw [hfl0] at hE
  obtain rfl := ErrV.zero hE
  have hb4 : Below w.heap.size w w4 := hb3.trans (ho4.base s3 hF3b)
  have s4 := hb4.size
  have hring4 := hring3'.of_block (ho4.block g hring3'.lt hgF3)
  have hG4 := good_flush hG1
  have hB4 := byt_flush hB1'
  have hc4 := flush_count S1
  have hfm4 := flush_firm S1
  have hcr := pd_crash hP4 hG4 (by omega) none 0 [] (.inl rfl) (by simp)
  have Hcr := Lib.hid hcr
  clear Hflu hcr hfl0 hP3 hb3 hring3' ho4
  go_wp2_with (go_at_call 32; refine Hcr.out.mono ?_)
  rintro e w5 ⟨v, rfl, hN⟩
  obtain ⟨gd5, F5, rfl, hP5, hF5, hb5⟩ := hN.next s4 hb4
  have hring5 : PrAt g gd 2 100 (endM 100 m00 [c9]) (0 + takes [c9].length) w5 := by
    obtain ⟨_, _, _, _, hbb, _⟩ := hN
    exact hring4.below hbb
  have s5 := hb5.size
  have hG5 := good_crash hG4 []
  have hB5 := byt_crash hB4 []
  have hf5 : (crashOf (flushOf S1).1 []).firm.length = 200 := by rw [crash_firm, hfm4, HS1.out, writesOf_firm, newS_len]
  have hop2 := openv_any hP5 hG5 hB5 rfl (first := 2) (n := 100) (m := m00) (by rw [hf5]; omega) (by omega) (by omega) (by decide) (by decide) (by decide) Hop.out (used := 3) rfl (by omega)
  have k2 : ((2 : Nat) : Int) = 2 := rfl
  have k100 : ((100 : Nat) : Int) = 100 := rfl
  have kl : ([[c9]] : List (List Chg)).length = 1 := rfl
  rw [← Hm0.out, k2, k100] at hop2
  unfold OpenV at hop2
  rw [kl] at hop2
  have Hop2 := Lib.hid hop2
  clear Hcr hN hop2 k2 k100 kl hb4 hring4 hE
  go_wp2_with (first
    | (refine wpList_buildZ 25 rfl hl.toArray hbz.out (by rfl) ?_)
    | (go_at_call 14; refine Hop2.out.mono ?_))
  rintro e w6 ⟨g6, ap6, cp6, rfl, hg6, _, _, hrv6, hb6⟩
  have hb06 := hb5.trans (hb6.mono s5)
  have hring6 := hring5.below hb6
  clear Hop2 hb5 hb6 hring5 hP5
  obtain ⟨g7, e7, hg7N, hc7⟩ := hrv6.lies.resolve_left (fun h => by cases h)
  subst e7
  obtain ⟨b7, k7, cell7, hC7⟩ := hc7 0 [c9] rfl
  obtain ⟨x7, e8, hx7N, hr7⟩ := hC7.resolve_left (fun h => by cases h)
  subst e8
  have kl9 : [c9].length = 1 := rfl
  rw [kl9] at cell7
  have hr9 := hr7 0 c9 rfl
  rw [← Hcve.out, Nat.zero_mul] at hr9
  have hl9 := Lib.hid (run_loadAt_mid (P := Tryd.prog) w6 x7 0 91 cv _ hr9 Tryd.underlying91 rfl (by rw [hcl]; exact infoChg65))
  have heq : ∀ W : World, (Op.equalIn 10000 91 (.agg cv.toArray) (.agg cv.toArray)).run Tryd.prog W = .ok true W := fun W => by
    have := eqChg_ring (a := c9) (b := c9) (by simp [c9]) (by simp [c9]) W
    rw [← Hcve.out] at this
    rw [this]; simp
  have HB1 : Hid (Tryd.prog.built 63 [(0, .int .u8 9)] = some pv.toArray) := by rw [Hpv.out]; exact built_c9
  have HB2 : Hid (Tryd.prog.built 91 [(0, .int .i64 7), (1, .agg pv.toArray)] = some cv.toArray) := by rw [Hcv.out]; exact built_chg 7 pv (by rw [Hpv.out]; exact page1_ok 9)
  have hhd := head_any hring6
  have Hhd := Lib.hid hhd
  clear hhd hr9 hr7 hC7 hc7 hrv6 kl9 hring6
  go_wp2_with (first
    | (go_at_call 17; refine (num_nil _).mono ?_))
  iterate 3
    rintro e w' ⟨rfl, rfl⟩
    go_wp2_with (go_at_call 17; refine (num_nil _).mono ?_)
  rintro e w' ⟨rfl, rfl⟩
  go_wp2_with (first
    | (have _t := hl9; refine wpList_val (by rfl) (exec_load _ _ 91 _ rfl x7 0 rfl _ hl9.out) ?_; clear hl9)
    | (have _t := HB1; refine wpList_build1 (.const (.int .u8 9)) rfl _ rfl _ HB1.out (by rfl) ?_; clear HB1)
    | (have _t := HB2; refine wpList_val (by rfl) (exec_build _ rfl (Eq.trans (congrArg (Program.built _ _) (by simp [Act.eval, Act.put])) HB2.out)) ?_; clear HB2)
    | (go_at_call 25; refine Hhd.out.mono ?_))
  rintro e w7 ⟨rv, Hrv, rfl, hb7⟩
  have h7 := hb06.trans (hb7.mono hb06.size)
  have hfd : ∀ W : World, (Instr.field 25 (.agg rv) 0).run Tryd.prog W = .ok (.int .i64 3) W := fun W => by
    rw [Hrv.out, field_place]; rfl
  clear Hhd
  go_wp2
  go_ret
  exact ⟨rfl, h7⟩
end Go.Proofs.YtegdlpllljccgaaDoor
