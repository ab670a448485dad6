/-
  The reference's disk: Flush.
-/
import Derived.Test.YtbmpbcnoclhhgaaDoorDiskWrite3
import Derived.StillTail
namespace Go.Proofs.YtbmpbcnoclhhgaaDoor
open Go.RowKit Sh

theorem wpStill_val {P : Program} {ops : Array Oper} {w : World} {Q : Act → Prop} {a : Act} {o : Oper} {rest : List Oper} (hg : o.guard = none) {v : Value} (hrun : (execOp a.eval o).run P w = .ok (.value v) w)
    (h : wpStill P ops w Q rest (a.put o.dst v)) : wpStill P ops w Q (o :: rest) a := by
  have hw : Region.wanted o (yielded ops a.tmps) = true := by simp [Region.wanted, hg]
  unfold wpStill
  rw [if_pos hw]
  unfold Oper.still
  rw [hrun, Oper.stillUpon_value]
  exact h

/-- A whole array stored into a row that is known whole. -/
theorem wpList_store_into {P : Program} {ops : Array Oper} {rest : List Oper} {o : Oper} {a : Act} {w : World} {Q : Exit → Act → World → Prop} (hgd : o.guard = none) (ty : TypeId) (x y : Operand)
    (ho : o.op = .store ty x y) (g off : Nat) (cells : Array Value) (hx : a.eval x = .pointer (some ⟨g, off, none⟩)) (hy : a.eval y = .agg cells) (cur : List Value) (t : TypeId) (hg : w.heap[g]? = some (.cells cur.toArray t (0, 0)))
    (hi : (P.info? ty).map (·.size) = some cells.size) (hfit : off + cells.size ≤ cur.length) (h1 : ∀ v ∈ cells.toList, v.oneCell' = true)
    (h : ∀ w', Hid (w'.heap[g]? = some (.cells (splice cur off cells.toList).toArray t (0, 0))) → Hid (w.grownBy w' (some g)) → wpList P ops Q rest (a.put o.dst undef) w') : wpList P ops Q (o :: rest) a w :=
  wpList_plain hgd fun K hK => by
    have hst := run_storeCells_at P g off t cells.toList 0 cur.toArray w hg (by simpa using hfit) h1
    have hrun : (storeVar ty ⟨g, off, none⟩ (.agg cells)).run P w = .ok () (w.setRow g (splice cur off cells.toList).toArray) := by
      cases hq : P.info? ty with
      | none => simp [hq] at hi
      | some i =>
        have hs : cells.size = i.size := by simp [hq] at hi; omega
        simp only [Nat.add_zero] at hst
        simp [storeVar, sizeOf, typeInfo, hq, Value.cells, hs, hst, splice]
    unfold Oper.wp execOp
    simp only [ho, hx, hy, Instr.storeAt, Instr.sureAddr, Sem.run_bind, Sem.run_pure, Result.andThen_ok, hrun]
    exact hK _ _ (h _ (setRow_heap w g _ _ t _ hg) ⟨rfl, rfl, rfl, by simp, fun k _ hne => setRow_other w g k _ (fun e => hne (by rw [e]))⟩)

/-- Firm is what was pending. -/
def flushS : List (List Value) → List Int → List (List Value) → List (List Value)
  | firm, a :: xs, p :: ys => flushS (firm.set a.toNat p) xs ys
  | firm, _, _ => firm

section
variable {g : Nat} {vf va vw : Value} {firm what : List (List Value)} {ats : List Int} {fuel : Int} {off : Bool} {w w' : World}

/-- A page of the firm ones is another one. -/
theorem RefAt.setFirm {gf cf : Nat} (h : RefAt g (.slice (some ⟨gf, 0, none⟩) firm.length cf) va vw firm ats what fuel off w) (k : Nat) (hk : k < firm.length) (p : List Value) (hp : IsPage p)
    (hst : ∀ cur : List Value, w.heap[gf]? = some (.cells cur.toArray 42 (0, 0)) → w'.heap[gf]? = some (.cells (splice cur (k * 64) p).toArray 42 (0, 0))) (hg : w.grownBy w' (some gf)) :
    RefAt g (.slice (some ⟨gf, 0, none⟩) firm.length cf) va vw (firm.set k p) ats what fuel off w' := by
  obtain ⟨a1, a2, a3, a4, a5, a6⟩ := h.apart
  have hgg : gf ≠ g := fun e => a1 (by rw [e]; rfl)
  have hr := own_store h.rowF h.firmOk rfl k hk p hp hst
  have hok : Pages (firm.set k p) := fun x hx => by
    rcases List.mem_or_eq_of_mem_set hx with hx | rfl
    · exact h.firmOk x hx
    · exact hp
  have n4 : vw.ownBlock = none ∨ vw.ownBlock ≠ some gf := by
    rcases a4 with e | e
    · simp [Value.ownBlock] at e
    · exact .inr (fun e2 => e (by rw [e2]; rfl))
  have n5 : va.ownBlock = none ∨ va.ownBlock ≠ some gf := by
    rcases a5 with e | e
    · simp [Value.ownBlock] at e
    · exact .inr (fun e2 => e (by rw [e2]; rfl))
  exact ⟨(hg.block g h.lt (fun e => hgg (by simpa using e.symm))).trans h.at_, by rw [List.length_set]; exact hr, h.rowA.kept hg n5, h.rowW.kept hg n4, hok, h.whatOk, a1, a2, a3, a4, a5, a6⟩

theorem RefAt.drew (h : RefAt g vf va vw firm ats what fuel off w) : RefAt g vf va vw firm ats what fuel off ({ w with drawn := w.drawn + 1 }) := by
  have hg : w.grownBy ({ w with drawn := w.drawn + 1 }) (some g) := ⟨rfl, rfl, rfl, Nat.le_refl _, fun _ _ _ => rfl⟩
  exact ⟨h.at_, h.rowF.kept hg (.inr h.apart.1), h.rowA.kept hg (.inr h.apart.2.1), h.rowW.kept hg (.inr h.apart.2.2.1), h.firmOk, h.whatOk, h.apart⟩
theorem Only.drew {F : Nat → Prop} {w w' : World} (h : Only F w w') : Only F w { w' with drawn := w'.drawn + 1 } :=
  h.trans (Only.of_grown (F := fun _ => False) (w' := { w' with drawn := w'.drawn + 1 }) (row := none) ⟨rfl, rfl, rfl, Nat.le_refl _, fun _ _ _ => rfl⟩ (fun _ e => by simp at e)) (fun _ e => e.elim)

/-- Nothing is pending any more. -/
theorem RefAt.putNone (h : RefAt g vf va vw firm ats what fuel off w) : RefAt g vf (.slice none 0 0) (.slice none 0 0) firm [] [] fuel off ((w.setCell ⟨g, 1, none⟩ (.slice none 0 0)).setCell ⟨g, 2, none⟩ (.slice none 0 0)) := by
  obtain ⟨a1, _, _, _, _, _⟩ := h.apart
  have g1 := grown_setCell w ⟨g, 1, none⟩ (.slice none 0 0)
  have g2 := grown_setCell (w.setCell ⟨g, 1, none⟩ (.slice none 0 0)) ⟨g, 2, none⟩ (.slice none 0 0)
  have ho : vf.ownBlock = none ∨ vf.ownBlock ≠ (Value.slice none 0 0).ownBlock := by cases hv : vf.ownBlock <;> simp [Value.ownBlock]
  exact ⟨by simp [World.setCell, Array.getElem?_modify, h.at_], (h.rowF.kept g1 (.inr a1)).kept g2 (.inr a1), World.ownsRow_nil _ _ _ _, World.ownsRow_nil _ _ _ _, h.firmOk, fun p hp => by simp at hp, a1, by simp [Value.ownBlock], by simp [Value.ownBlock], ho, ho, .inl rfl⟩

def FlushPost (g : Nat) (vf : Value) (firm : List (List Value)) (fuel : Int) (F : Nat → Prop) (w : World) (e : Ending) (w' : World) : Prop :=
  e = .returned (.int .i64 0) ∧ RefAt g vf (.slice none 0 0) (.slice none 0 0) firm [] [] fuel false w' ∧ Only F w w'

set_option maxRecDepth 100000 in
set_option maxHeartbeats 4000000 in
theorem rflush_ok (h : RefAt g vf va vw firm ats what fuel false w) (hsame : what.length = ats.length) (hn : ats.length ≤ 1048576) (hf : fuel ≤ 9223372036854775807) (hfu : fuel ≠ 0) (hF : firm.length ≤ 4096) (hin : ∀ a ∈ ats, 0 ≤ a ∧ a < (firm.length : Int)) :
    Calls Tryd.prog 27 #[.pointer (some ⟨g, 0, none⟩)] w (FlushPost g vf (flushS firm ats what) (stepS fuel false).1 (Foot g vf va vw) w) := by
  have c4 : w.cell? ⟨g, 4, none⟩ = some (.bool false) := h.cell 4
  have hstep := rstep_any h hf
  have hs2 : (stepS fuel false).2.1 = false ∧ (stepS fuel false).2.2 = 0 := by
    simp only [stepS, if_neg hfu, Bool.false_eq_true, if_false]
    split <;> exact ⟨rfl, rfl⟩
  rw [hs2.1, hs2.2] at hstep
  generalize (stepS fuel false).1 = fuel' at hstep
  obtain ⟨aa, ca, rfl⟩ : ∃ ao cap, va = .slice ao ats.length cap := by
    rcases h.rowA.2 with ⟨hv, h0⟩ | ⟨g, cap, cur, hv, _⟩
    · exact ⟨none, 0, by rw [hv, h0]⟩
    · exact ⟨_, _, hv⟩
  obtain ⟨L, hL⟩ : ∃ L, Hid (ats.length = L) := ⟨_, rfl⟩
  have hLn : L ≤ 1048576 := by rw [← hL.out]; exact hn
  go_enter Tryd.func27, Tryd.ntmps27
  go_wp2_with (go_at_call 38; refine hstep.mono ?_)
  rintro e w2 ⟨rfl, h2, hg2⟩
  have ho2 : Only (Foot g vf (.slice aa ats.length ca) vw) w w2 := Only.of_grown hg2 (fun k e => .inl (by simpa using e.symm))
  go_wp2
  go_loopg [4] L (fun gg v wr => ∃ (k : Nat) (fm : List (List Value)), gg = L - k ∧ k ≤ L ∧ v = .int .i64 k ∧ fm.length = firm.length ∧ flushS fm (ats.drop k) (what.drop k) = flushS firm ats what ∧ RefAt g vf (.slice aa ats.length ca) vw fm ats what fuel' false wr ∧ Only (Foot g vf (.slice aa ats.length ca) vw) w wr)
  case atStart => exact ⟨0, firm, rfl, by omega, rfl, rfl, rfl, h2, ho2⟩
  case round =>
    clear h2 ho2 hg2 hstep c4 h
    obtain ⟨k, fm, rfl, hk, rfl, hfm, hfl, hR, hO⟩ := hrel
    have c1 : wr.cell? ⟨g, 1, none⟩ = some (.slice aa L ca) := by rw [← hL.out]; exact hR.cell 1
    by_cases hlt : k < L
    · have hlt' : (k : Int) < (L : Int) := by omega
      have hka : k < ats.length := by rw [hL.out]; exact hlt
      have hkw : k < what.length := by rw [hsame]; exact hka
      have ha := List.getElem?_eq_getElem hka
      have hpw := List.getElem?_eq_getElem hkw
      have hai := hin ats[k] (List.getElem_mem hka)
      obtain ⟨gf, cf, hvf, _, _⟩ := hR.rowF.form (by omega)
      obtain ⟨ga, ca', hva, _, _⟩ := hR.rowA.form (by omega)
      obtain ⟨rfl, rfl⟩ : aa = some ⟨ga, 0, none⟩ ∧ ca = ca' := by
        simp only [Value.slice.injEq] at hva
        exact ⟨hva.1, hva.2.2⟩
      obtain ⟨gw, cw, hvw, _, _⟩ := hR.rowW.form (by omega)
      have hd1 : ats.drop k = ats[k] :: ats.drop (k + 1) := List.drop_eq_getElem_cons hka
      have hd2 : what.drop k = what[k] :: what.drop (k + 1) := List.drop_eq_getElem_cons hkw
      have hPg := hR.whatOk what[k] (List.getElem_mem hkw)
      rw [hd1, hd2] at hfl
      simp only [flushS] at hfl
      rw [hvf] at hR
      have hRs : RefAt g (.slice (some ⟨gf, 0, none⟩) fm.length cf) (.slice (some ⟨ga, 0, none⟩) ats.length ca) vw fm ats what fuel' false { wr with drawn := wr.drawn + 1 } := hR.drew
      have hOs : Only (Foot g vf (.slice (some ⟨ga, 0, none⟩) ats.length ca) vw) w { wr with drawn := wr.drawn + 1 } := hO.drew
      obtain ⟨wd, hdr⟩ : ∃ wd : World, ({ wr with drawn := wr.drawn + 1 } : World) = wd := ⟨_, rfl⟩
      rw [hdr] at hRs hOs
      have c0 : wd.cell? ⟨g, 0, none⟩ = some (.slice (some ⟨gf, 0, none⟩) fm.length cf) := hRs.cell 0
      have c1 : wd.cell? ⟨g, 1, none⟩ = some (.slice (some ⟨ga, 0, none⟩) L ca) := by rw [← hL.out]; exact hRs.cell 1
      have c2 : wd.cell? ⟨g, 2, none⟩ = some (.slice (some ⟨gw, 0, none⟩) what.length cw) := by rw [← hvw]; exact hRs.cell 2
      have ck : wd.cell? ⟨ga, k, none⟩ = some (.int .i64 ats[k]) := by
        rw [hRs.rowA.cellAt k (by omega), List.getElem?_map, ha]; rfl
      have hrange : wd.rangeAt gw (k * 64) what[k] := own_page (hvw ▸ hRs.rowW) hRs.whatOk k what[k] hpw rfl
      obtain ⟨i, haa⟩ : ∃ i, ats[k] = i := ⟨_, rfl⟩
      obtain ⟨pg, hpp⟩ : ∃ pg, what[k] = pg := ⟨_, rfl⟩
      rw [haa] at ck hai hfl
      rw [hpp] at hrange hPg hfl
      obtain ⟨M, hM⟩ : ∃ M, what.length = M := ⟨_, rfl⟩
      have hkM : (k : Int) < (M : Int) := by omega
      rw [hM] at c2
      obtain ⟨F, hFl⟩ : ∃ F, fm.length = F := ⟨_, rfl⟩
      rw [hFl] at c0
      obtain ⟨n, rfl⟩ : ∃ n : Nat, i = (n : Int) := ⟨i.toNat, by omega⟩
      have hnF : (n : Int) < (F : Int) := by omega
      have hi64 : Hid ((Tryd.prog.info? 42).map (·.size) = some pg.length) := by rw [hPg.1]; exact info64
      have HRg := Lib.hid hrange
      have HPg := Lib.hid hPg
      have HFL := Lib.hid hfl
      clear hrange hPg hfl hpp haa ha hpw hva hd1 hd2 hai
      obtain ⟨cur, hcur, hcl⟩ : ∃ cur : List Value, wd.heap[gf]? = some (.cells cur.toArray 42 (0, 0)) ∧ fm.length * 64 ≤ cur.length := by
        rcases hRs.rowF.2 with ⟨hv, h0⟩ | ⟨g', cap', cur, hv, _, hg, hc, _, hs, _⟩
        · simp at hv
        · simp only [Value.slice.injEq, Option.some.injEq, Addr.mk.injEq, true_and, and_true] at hv
          obtain ⟨rfl, rfl⟩ := hv
          have hs2 : cur.toList.length = cf * 64 := by rw [Array.length_toList]; exact hs
          exact ⟨cur.toList, by simpa using hg, by omega⟩
      have hsz : pg.toArray.size = 64 := by rw [List.size_toArray]; exact HPg.out.1
      have hi65 : Hid ((Tryd.prog.info? 42).map (·.size) = some pg.toArray.size) := by rw [hsz]; exact info64
      have hfit : Hid (n * 64 + pg.toArray.size ≤ cur.length) := by
        show n * 64 + pg.toArray.size ≤ cur.length
        rw [hsz]
        omega
      have hall : Hid (∀ v ∈ pg.toArray.toList, v.oneCell' = true) := fun v hv => HPg.out.2 v (by simpa using hv)
      have HL := Lib.hid (run_loadAt_mid wd gw (k * 64) 42 pg _ HRg.out Tryd.underlying42 rfl hi64.out)
      have Hcur := Lib.hid hcur
      have hwk : IntKind.i64.wrap ((k : Int) + 1) = ((k + 1 : Nat) : Int) := by rw [IntWalk.i64_in _ (by omega)]; omega
      clear hcur hsz hcl
      go_wp2
      refine wp_region_still_tail 18 (by kernel_rfl) (by kernel_rfl) ?_
      rw [hdr]
      simp only [List.take_succ_cons, List.take_zero, List.drop_succ_cons, List.drop_zero]
      iterate 17 still_step
      refine wpStill_val rfl (v := .agg pg.toArray) ?_ ?_
      · unfold execOp
        rw [Sem.run_bind]
        exact (congrArg (fun r : Result Value => r.andThen fun v w' => (pure (Next.value v) : Sem Next).run Tryd.prog w') HL.out).trans rfl
      refine wpStill_nil ?_
      go_wp2_with (first
        | (refine wpList_store_into rfl 42 _ _ rfl gf (n * 64) pg.toArray rfl rfl cur 42 Hcur.out hi65.out hfit.out hall.out ?_; intro w5 Hs5 Hg5))
      have hst : ∀ c : List Value, wd.heap[gf]? = some (.cells c.toArray 42 (0, 0)) → w5.heap[gf]? = some (.cells (splice c (n * 64) pg).toArray 42 (0, 0)) := fun c hc => by
        have e := hc.symm.trans Hcur.out
        simp only [Option.some.injEq, Obj.cells.injEq, and_true] at e
        have e2 : c = cur := by simpa using congrArg Array.toList e
        subst e2
        exact Hs5.out
      have hnf : n < fm.length := by omega
      have h5 := hRs.setFirm n hnf pg HPg.out hst Hg5.out
      rw [← hvf] at h5
      have ho5 : Only (Foot g vf (.slice (some ⟨ga, 0, none⟩) ats.length ca) vw) w w5 := hOs.trans (Only.of_grown (F := fun j => j = gf) Hg5.out (fun j e => by simpa using e.symm)) (fun j hj => by subst hj; left; rw [hvf]; exact .inr (.inl rfl))
      go_roundg (L - (k + 1))
      case measure => omega
      case rel =>
        refine ⟨k + 1, fm.set n pg, rfl, by omega, by first | rfl | simp, by rw [List.length_set]; exact hfm, ?_, h5, ho5⟩
        simpa using HFL.out
    · obtain rfl : k = L := by omega
      have hge : ¬ ((k : Int) < (k : Int)) := by omega
      have e1 : ats.drop k = [] := by rw [← hL.out, List.drop_length]
      rw [e1] at hfl
      have hfin := hR.putNone
      have hO2 : Only (Foot g vf (.slice aa ats.length ca) vw) w ((wr.setCell ⟨g, 1, none⟩ (.slice none 0 0)).setCell ⟨g, 2, none⟩ (.slice none 0 0)) :=
        (hO.trans (Only.of_grown (F := fun j => j = g) (grown_setCell wr ⟨g, 1, none⟩ _) (fun j e => by simpa using e.symm)) (fun j hj => .inl (.inl hj))).trans (Only.of_grown (F := fun j => j = g) (grown_setCell _ ⟨g, 2, none⟩ _) (fun j e => by simpa using e.symm)) (fun j hj => .inl (.inl hj))
      have f1 := hR.thaw 1
      have c2 : wr.cell? ⟨g, 2, none⟩ = some vw := hR.cell 2
      have f2 := hR.thaw 2
      have hfe : fm = flushS firm ats what := by simpa [flushS] using hfl
      have HFE := Lib.hid hfe
      clear hfe hfl
      go_wp2
      go_ret
      exact ⟨rfl, by rw [← HFE.out]; exact hfin, hO2⟩
end
end Go.Proofs.YtbmpbcnoclhhgaaDoor
