/-
  The program's disk: Flush.
-/
import Derived.Test.YtbmpbcnoclhhgaaDoorDkWrite
namespace Go.Proofs.YtbmpbcnoclhhgaaDoor
open Go.RowKit Sh Go.Extern.Stop Go.Stop Go.Extern

def zeroWrite : List Value := .int .i64 0 :: zeroPage
def zeros65 : Array Value := zeroWrite.toArray
set_option maxRecDepth 100000 in
theorem alloc65 (w : World) : (Instr.alloc 73 true (.tuple #[])).run Tryd.prog w = .ok (.pointer (some ⟨w.heap.size, 0, none⟩)) (w.alloc (.cells zeros65 73)) := by kernel_rfl

theorem flushS_length : ∀ (firm : List (List Value)) (ats : List Int) (what : List (List Value)), (flushS firm ats what).length = firm.length
  | _, [], _ => by simp [flushS]
  | _, _ :: _, [] => by simp [flushS]
  | firm, a :: xs, p :: ys => by simp only [flushS]; rw [flushS_length]; simp

def PFlushPost (g : Nat) (vf vn : Value) (firm newest : List (List Value)) (fuel : Int) (F : Nat → Prop) (w : World) (e : Ending) (w' : World) : Prop :=
  e = .returned .nilIface ∧ DiskAt g vf vn (.slice none 0 0) firm newest [] [] fuel false w' ∧ Only F w w'

section
variable {g : Nat} {vf vn vp : Value} {firm newest what : List (List Value)} {ats : List Int} {fuel : Int} {off : Bool} {w : World}

set_option maxRecDepth 100000 in
set_option maxHeartbeats 4000000 in
theorem pflush_ok (h : DiskAt g vf vn vp firm newest ats what fuel false w) (hn : ats.length ≤ 1048576) (hf : fuel ≤ 9223372036854775807) (hfu : fuel ≠ 0) (hF : firm.length ≤ 4096) (hin : ∀ a ∈ ats, 0 ≤ a ∧ a < (firm.length : Int)) :
    Calls Tryd.prog 20 #[.pointer (some ⟨g, 0, none⟩)] w (PFlushPost g vf vn (flushS firm ats what) newest (stepS fuel false).1 (Foot g vf vn vp) w) := by
  have hsame := h.same
  have hstep := step_any h hf
  have hs2 : (stepS fuel false).2.1 = false ∧ (stepS fuel false).2.2 = 0 := by
    simp only [stepS, if_neg hfu, Bool.false_eq_true, if_false]
    split <;> exact ⟨rfl, rfl⟩
  rw [hs2.1, hs2.2, errVal_nil] at hstep
  generalize (stepS fuel false).1 = fuel' at hstep
  obtain ⟨aa, ca, rfl⟩ := slice_form h.rowP
  obtain ⟨L, hL⟩ : ∃ L, Hid (ats.length = L) := ⟨_, rfl⟩
  have hLn : L ≤ 1048576 := by rw [← hL.out]; exact hn
  go_enter Tryd.func20, Tryd.ntmps20
  go_wp2_with (go_at_call 31; refine hstep.mono ?_)
  rintro e w2 ⟨rfl, h2, hg2⟩
  have ho2 : Only (Foot g vf vn (.slice aa ats.length ca)) w w2 := Only.of_grown hg2 (fun k e => .inl (by simpa using e.symm))
  have c2 : w2.cell? ⟨g, 2, none⟩ = some (.slice aa ats.length ca) := h2.cell 2
  go_wp2
  go_loopg [17] L (fun gg v wr => ∃ (k : Nat) (fm : List (List Value)), gg = L - k ∧ k ≤ L ∧ v = .int .i64 k ∧ fm.length = firm.length ∧ flushS fm (ats.drop k) (what.drop k) = flushS firm ats what ∧ DiskAt g vf vn (.slice aa ats.length ca) fm newest ats what fuel' false wr ∧ Only (Foot g vf vn (.slice aa ats.length ca)) w wr)
  case atStart => exact ⟨0, firm, rfl, by omega, rfl, rfl, rfl, h2, ho2⟩
  case round =>
    clear h2 ho2 hg2 hstep h c2
    obtain ⟨k, fm, rfl, hk, rfl, hfm, hfl, hR, hO⟩ := hrel
    by_cases hlt : k < L
    · have hlt' : (k : Int) < (L : Int) := by omega
      have hltA : (k : Int) < (ats.length : Int) := by rw [hL.out]; exact hlt'
      have hka : k < ats.length := by omega
      have hkw : k < what.length := by rw [hsame]; exact hka
      have ha := List.getElem?_eq_getElem hka
      have hpw := List.getElem?_eq_getElem hkw
      have hai := hin ats[k] (List.getElem_mem hka)
      obtain ⟨gf, cf, hvf, _, _⟩ := hR.rowF.form (by omega)
      obtain ⟨gp, cp, hvp, _, _⟩ := hR.rowP.form (by omega)
      obtain ⟨rfl, rfl⟩ : aa = some ⟨gp, 0, none⟩ ∧ ca = cp := by
        simp only [Value.slice.injEq] at hvp
        exact ⟨hvp.1, hvp.2.2⟩
      have hd1 : ats.drop k = ats[k] :: ats.drop (k + 1) := List.drop_eq_getElem_cons hka
      have hd2 : what.drop k = what[k] :: what.drop (k + 1) := List.drop_eq_getElem_cons hkw
      have hPg := hR.whatOk what[k] (List.getElem_mem hkw)
      rw [hd1, hd2] at hfl
      simp only [flushS] at hfl
      rw [hvf] at hR
      have hwr : wr.rangeAt gp (k * 65) (wcell ats[k] what[k]) := own_write hR.rowP hR.whatOk hsame k ats[k] what[k] ha hpw rfl
      obtain ⟨i, haa⟩ : ∃ i, ats[k] = i := ⟨_, rfl⟩
      obtain ⟨pg, hpp⟩ : ∃ pg, what[k] = pg := ⟨_, rfl⟩
      rw [haa] at hai hfl hwr
      rw [hpp] at hPg hfl hwr
      obtain ⟨F, hFl⟩ : ∃ F, fm.length = F := ⟨_, rfl⟩
      obtain ⟨n, rfl⟩ : ∃ n : Nat, i = (n : Int) := ⟨i.toNat, by omega⟩
      have hnF : (n : Int) < (F : Int) := by omega
      have hwk : IntKind.i64.wrap ((k : Int) + 1) = ((k + 1 : Nat) : Int) := by rw [IntWalk.i64_in _ (by omega)]; omega
      obtain ⟨wc, hwc⟩ : ∃ wc, Hid (wcell n pg = wc) := ⟨_, rfl⟩
      have hwcl : wc.length = 65 := by rw [← hwc.out]; simp [wcell, hPg.1]
      rw [hwc.out] at hwr
      have HRg := Lib.hid hwr
      have hi73 : Hid ((Tryd.prog.info? 73).map (·.size) = some wc.length) := by rw [hwcl]; exact info65
      have hi74 : Hid ((Tryd.prog.info? 73).map (·.size) = some wc.toArray.size) := by rw [List.size_toArray, hwcl]; exact info65
      have hold : Hid (zeros65.size = wc.toArray.size) := by
        have e : wc.toArray.size = 65 := by rw [List.size_toArray]; exact hwcl
        rw [e]; exact (rfl : zeros65.size = 65)
      have hall1 : Hid (wc.toArray.all (·.oneCell') = true) := all_oneCell_toArray (by rw [← hwc.out]; exact wcell_one hPg)
      -- the world in which the page is stored
      obtain ⟨wa, hwa⟩ : ∃ wa : World, Hid (wr.alloc (.cells wc.toArray 73) = wa) := ⟨_, rfl⟩
      have hba : Below wr.heap.size wr wa := by rw [← hwa.out]; exact (Below.refl _ wr).alloc (Nat.le_refl _) _
      have hbk : wa.heap[wr.heap.size]? = some (.cells wc.toArray 73 (0, 0)) := by rw [← hwa.out]; exact heap_alloc_new wr _
      have hRs : DiskAt g (.slice (some ⟨gf, 0, none⟩) fm.length cf) vn (.slice (some ⟨gp, 0, none⟩) ats.length ca) fm newest ats what fuel' false { wa with drawn := wa.drawn + 1 } := (hR.below hba).drew
      have hOs : Only (Foot g vf vn (.slice (some ⟨gp, 0, none⟩) ats.length ca)) w { wa with drawn := wa.drawn + 1 } := (hO.trans (Only.of_below (F := fun _ => False) hba) (fun _ e => e.elim)).drew
      have hbk2 : ({ wa with drawn := wa.drawn + 1 } : World).heap[wr.heap.size]? = some (.cells wc.toArray 73 (0, 0)) := hbk
      obtain ⟨wd, hdr⟩ : ∃ wd : World, ({ wa with drawn := wa.drawn + 1 } : World) = wd := ⟨_, rfl⟩
      rw [hdr] at hRs hOs hbk2
      have c0 : wd.cell? ⟨g, 0, none⟩ = some (.slice (some ⟨gf, 0, none⟩) F cf) := by rw [← hFl]; exact hRs.cell 0
      have ck : wd.cell? ⟨wr.heap.size, 0, none⟩ = some (.int .i64 n) := by rw [cell_of_row wd _ 0 _ _ _ hbk2, ← hwc.out]; rfl
      have hrange : wd.rangeAt wr.heap.size 1 pg := fun j v hj => by
        rw [cell_of_row wd _ (1 + j) _ _ _ hbk2, ← hwc.out, List.getElem?_toArray, Nat.add_comm]
        simpa [wcell] using hj
      have hi64 : (Tryd.prog.info? 42).map (·.size) = some pg.length := by rw [hPg.1]; exact info64
      have HL := Lib.hid (run_loadAt_mid wd wr.heap.size 1 42 pg _ hrange Tryd.underlying42 rfl hi64)
      obtain ⟨cur, hcur, hcl⟩ : ∃ cur : List Value, wd.heap[gf]? = some (.cells cur.toArray 42 (0, 0)) ∧ fm.length * 64 ≤ cur.length := by
        rcases hRs.rowF.2 with ⟨hv, h0⟩ | ⟨g', cap', cur, hv, _, hg, hc, _, hs, _⟩
        · simp at hv
        · simp only [Value.slice.injEq, Option.some.injEq, Addr.mk.injEq, true_and, and_true] at hv
          obtain ⟨rfl, rfl⟩ := hv
          have hs2 : cur.toList.length = cf * 64 := by rw [Array.length_toList]; exact hs
          exact ⟨cur.toList, by simpa using hg, by omega⟩
      have hsz : pg.toArray.size = 64 := by rw [List.size_toArray]; exact hPg.1
      have hi65 : Hid ((Tryd.prog.info? 42).map (·.size) = some pg.toArray.size) := by rw [hsz]; exact info64
      have hfit : Hid (n * 64 + pg.toArray.size ≤ cur.length) := by
        show n * 64 + pg.toArray.size ≤ cur.length
        rw [hsz]
        omega
      have HPg := Lib.hid hPg
      have HFL := Lib.hid hfl
      have hall : Hid (∀ v ∈ pg.toArray.toList, v.oneCell' = true) := fun v hv => HPg.out.2 v (by simpa using hv)
      have Hcur := Lib.hid hcur
      clear hcur hsz hcl hrange hPg hfl hpp haa ha hpw hvp hd1 hd2 hai hwr hi64 hbk hR hba hbk2
      go_wp2_with (first
        | (refine wpList_load_mid rfl 73 _ rfl gp (k * 65) rfl wc _ HRg.out Tryd.underlying73 rfl hi73.out ?_)
        | (refine wpList_alloc_arr rfl 73 rfl _ alloc65 ?_)
        | (refine wpList_store_new rfl 73 _ _ rfl wr.heap.size rfl wc.toArray rfl rfl 73 _ hi74.out hold.out hall1.out ?_; rw [hwa.out]))
      refine wp_region_still_tail 9 (by kernel_rfl) (by kernel_rfl) ?_
      rw [hdr]
      simp only [List.take_succ_cons, List.take_zero, List.drop_succ_cons, List.drop_zero]
      iterate 7 still_step
      refine wpStill_val rfl (v := .agg pg.toArray) ?_ ?_
      · unfold execOp
        rw [Sem.run_bind]
        exact (congrArg (fun r : Result Value => r.andThen fun v w' => (pure (Next.value v) : Sem Next).run Tryd.prog w') HL.out).trans rfl
      still_step
      refine wpStill_nil ?_
      go_wp2_with (first
        | (refine wpList_store_into rfl 42 _ _ rfl gf (n * 64) pg.toArray rfl rfl cur 42 Hcur.out hi65.out hfit.out hall.out ?_; intro w5 Hs5 Hg5))
      have hst : ∀ c : List Value, wd.heap[gf]? = some (.cells c.toArray 42 (0, 0)) → w5.heap[gf]? = some (.cells (splice c (n * 64) pg).toArray 42 (0, 0)) := fun c hc => by
        have e := hc.symm.trans Hcur.out
        simp only [Option.some.injEq, Obj.cells.injEq, and_true] at e
        have e2 : c = cur := by simpa using congrArg Array.toList e
        subst e2
        exact Hs5.out
      have hnf : n < fm.length := by omega
      have h5 := hRs.setFirm n hnf pg HPg.out hst Hg5.out
      rw [← hvf] at h5
      have ho5 : Only (Foot g vf vn (.slice (some ⟨gp, 0, none⟩) ats.length ca)) w w5 := hOs.trans (Only.of_grown (F := fun j => j = gf) Hg5.out (fun j e => by simpa using e.symm)) (fun j hj => by subst hj; left; rw [hvf]; exact .inr (.inl rfl))
      go_roundg (L - (k + 1))
      case measure => omega
      case rel =>
        refine ⟨k + 1, fm.set n pg, rfl, by omega, by first | rfl | simp, by rw [List.length_set]; exact hfm, ?_, h5, ho5⟩
        simpa using HFL.out
    · obtain rfl : k = L := by omega
      have hge : ¬ ((k : Int) < (ats.length : Int)) := by rw [hL.out]; omega
      have e1 : ats.drop k = [] := by rw [← hL.out, List.drop_length]
      rw [e1] at hfl
      have hfin := hR.putNone
      have hO2 : Only (Foot g vf vn (.slice aa ats.length ca)) w (wr.setCell ⟨g, 2, none⟩ (.slice none 0 0)) :=
        hO.trans (Only.of_grown (F := fun j => j = g) (grown_setCell wr ⟨g, 2, none⟩ _) (fun j e => by simpa using e.symm)) (fun j hj => .inl (.inl hj))
      have c2 : wr.cell? ⟨g, 2, none⟩ = some (.slice aa ats.length ca) := hR.cell 2
      have f2 := hR.thaw 2
      have hfe : fm = flushS firm ats what := by simpa [flushS] using hfl
      have HFE := Lib.hid hfe
      clear hfe hfl
      go_wp2
      go_ret
      exact ⟨rfl, by rw [← HFE.out]; exact hfin, hO2⟩

/-- Flush where nothing is flushed. -/
theorem pflush_no (h : DiskAt g vf vn vp firm newest ats what fuel off w) (hf : fuel ≤ 9223372036854775807) (hno : off = true ∨ fuel = 0) :
    Calls Tryd.prog 20 #[.pointer (some ⟨g, 0, none⟩)] w (PNoPost g vf vn vp firm newest ats what (fuel, true, 10) w) := by
  have hstep := step_any h hf
  have hs : stepS fuel off = (fuel, true, 10) := by
    rcases hno with rfl | rfl
    · simp [stepS]
    · simp [stepS]
  have he : errVal 10 = .iface 61 (.int .i64 10) := rfl
  rw [hs] at hstep
  simp only [he] at hstep
  have hq : ∀ W : World, (binOp .neq 26 (.iface 61 (.int .i64 10)) .nilIface).run Tryd.prog W = .ok (.bool true) W := fun W => run_neq_held_nil W 26 _ _ Tryd.methodsError
  clear hs he hno
  go_enter Tryd.func20, Tryd.ntmps20
  go_wp2_with (first
    | (go_at_call 31; refine hstep.mono ?_; rintro e w2 ⟨rfl, h2, hg2⟩)
    | (go_at_call 23; refine (in_more ⟨#[100, 105, 115, 107, 46, 70, 108, 117, 115, 104]⟩ 10 [] _ _ rfl).mono ?_; rintro e w3 ⟨rfl, hC3, hb3⟩))
  go_ret
  exact ⟨_, rfl, .inr ⟨(by decide : (10 : Int) ≠ 0), _, hC3⟩, h2.below hb3, (Only.of_grown (F := fun k => k = g) hg2 (fun k e => by simpa using e.symm)).trans (Only.of_below (F := fun k => k = g) hb3) (fun j hj => .inl hj)⟩

/-- Flush of none. -/
theorem pflush_nil (w : World) : Calls Tryd.prog 20 #[.pointer none] w fun e w' => ∃ v, e = .returned v ∧ ErrV w' 10 v ∧ Below w.heap.size w w' := by
  have hstep : ∀ w, Calls Tryd.prog 31 #[.pointer none] w fun e w' => e = .returned (.iface 61 (.int .i64 10)) ∧ w' = w := fun w => by
    go_enter Tryd.func31, Tryd.ntmps31
    go_wp2_with (go_at_call 14; refine (off_nil w).mono ?_; rintro e w' ⟨rfl, rfl⟩)
    go_ret
    exact ⟨rfl, rfl⟩
  have hq : ∀ W : World, (binOp .neq 26 (.iface 61 (.int .i64 10)) .nilIface).run Tryd.prog W = .ok (.bool true) W := fun W => run_neq_held_nil W 26 _ _ Tryd.methodsError
  go_enter Tryd.func20, Tryd.ntmps20
  go_wp2_with (first
    | (go_at_call 31; refine (hstep _).mono ?_; rintro e w' ⟨rfl, rfl⟩)
    | (go_at_call 23; refine (in_more ⟨#[100, 105, 115, 107, 46, 70, 108, 117, 115, 104]⟩ 10 [] _ _ rfl).mono ?_; rintro e w3 ⟨rfl, hC3, hb3⟩))
  go_ret
  exact ⟨_, rfl, .inr ⟨by decide, _, hC3⟩, hb3⟩
end
end Go.Proofs.YtbmpbcnoclhhgaaDoor
