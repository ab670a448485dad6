/-
  The program's disk: Write.
-/
import Derived.Test.YtbmpbcnoclhhgaaDoorDkRows
import Derived.StillTail
namespace Go.Proofs.YtbmpbcnoclhhgaaDoor
open Go.RowKit Sh Go.Extern.Stop Go.Stop Go.Extern

theorem exec_build {P : Program} {o : Oper} {ρ : Operand → Value} (w : World) {t : TypeId} {parts : Array (Nat × Operand)} (_h : o.op = .build t parts) {cells : Array Value} (hb : P.built t (parts.map fun (i, x) => (i, ρ x)).toList = some cells) :
    (execOp ρ o).run P w = .ok (.value (.agg cells)) w := by
  unfold execOp
  simp only [_h, Sem.run_bind, run_build w t _ cells hb, Result.andThen_ok, Sem.run_pure]

def PWritePost (g : Nat) (vf vn : Value) (firm newest : List (List Value)) (ats : List Int) (what : List (List Value)) (fuel : Int) (F : Nat → Prop) (w : World) (e : Ending) (w' : World) : Prop :=
  e = .returned .nilIface ∧ ∃ vp', DiskAt g vf vn vp' firm newest ats what fuel false w' ∧ Only F w w' ∧ ∀ k, Foot g vf vn vp' k → F k ∨ w.heap.size ≤ k

section
variable {g : Nat} {vf vn vp : Value} {firm newest what : List (List Value)} {ats : List Int} {fuel : Int} {off : Bool} {w : World}

set_option maxRecDepth 100000 in
set_option maxHeartbeats 4000000 in
theorem pwrite_ok (h : DiskAt g vf vn vp firm newest ats what fuel false w) (hnl : newest.length = firm.length) (hn : ats.length ≤ 1048576) (hf : fuel ≤ 9223372036854775807) (i : Int) (hi : 0 ≤ i ∧ i < (firm.length : Int)) (hF : firm.length ≤ 4096) (hfu : fuel ≠ 0) (p : List Value) (hp : IsPage p) :
    Calls Tryd.prog 19 #[.pointer (some ⟨g, 0, none⟩), .int .i64 i, .agg p.toArray] w (PWritePost g vf vn firm (newest.set i.toNat p) (ats ++ [i]) (what ++ [p]) (stepS fuel false).1 (Foot g vf vn vp) w) := by
  have hb1 := (Below.refl w.heap.size w).alloc (Nat.le_refl _) (.cells p.toArray 42)
  have h1 := h.below hb1
  have hbox : (w.alloc (.cells p.toArray 42)).heap[w.heap.size]? = some (.cells p.toArray 42 (0, 0)) := heap_alloc_new w _
  obtain ⟨w1, hw1⟩ : ∃ w1, w1 = w.alloc (.cells p.toArray 42) := ⟨_, rfl⟩
  rw [← hw1] at hb1 h1 hbox
  have HW1 := Lib.hid hw1
  have hz1 : w1.heap.size = w.heap.size + 1 := by rw [hw1]; simp
  clear hw1
  have hreach := reach_any h1 i
  have hr0 : reachN firm.length false i = 0 := by
    simp only [reachN, Bool.false_eq_true, if_false]
    rw [if_neg (by omega)]
  rw [hr0, errVal_nil] at hreach
  have hstep := step_any h1 hf
  have hs2 : (stepS fuel false).2.1 = false ∧ (stepS fuel false).2.2 = 0 := by
    simp only [stepS, if_neg hfu, Bool.false_eq_true, if_false]
    split <;> exact ⟨rfl, rfl⟩
  rw [hs2.1, hs2.2, errVal_nil] at hstep
  generalize (stepS fuel false).1 = fuel' at hstep
  go_enter Tryd.func19, Tryd.ntmps19
  go_wp2_with (first
    | (rw [← HW1.out]; go_at_call 29; refine hreach.mono ?_; rintro e w' ⟨rfl, hw'⟩; rw [hw']; clear hw')
    | (go_at_call 31; refine hstep.mono ?_))
  rintro e w2 ⟨rfl, h2, hg2⟩
  have hbox2 : w2.heap[w.heap.size]? = some (.cells p.toArray 42 (0, 0)) := (hg2.block _ (by omega) (by have := h.lt; simp; omega)).trans hbox
  have hz2 := hg2.size
  have hgl := h2.lt
  have hpl : p.length = 64 := hp.1
  have hwl : (wcell i p).length = 65 := by simp [wcell, hpl]
  have hnF : ¬ Foot g vf vn vp w.heap.size := fun hF => by have := h.foot_lt hF; omega
  have ho2 : Only (Foot g vf vn vp) w w2 := (Only.of_below (F := Foot g vf vn vp) hb1).trans (Only.of_grown (F := fun k => k = g) hg2 (fun k e => by simpa using e.symm)) (fun j hj => .inl (.inl hj))
  clear hreach hstep hg2 h1 hb1 hbox HW1
  -- newest[i] = p
  obtain ⟨n, rfl⟩ : ∃ n : Nat, i = (n : Int) := ⟨i.toNat, by omega⟩
  obtain ⟨gn, cn, hvn, _, _⟩ := h2.rowN.form (by omega)
  rw [hvn] at h2
  have h3 : DiskAt g vf (.slice (some ⟨gn, 0, none⟩) newest.length cn) vp firm newest ats what fuel' false { w2 with drawn := w2.drawn + 1 } := h2.drew
  have ho3 : Only (Foot g vf vn vp) w { w2 with drawn := w2.drawn + 1 } := ho2.drew
  have hbox3 : ({ w2 with drawn := w2.drawn + 1 } : World).heap[w.heap.size]? = some (.cells p.toArray 42 (0, 0)) := hbox2
  obtain ⟨wd, hdr⟩ : ∃ wd : World, ({ w2 with drawn := w2.drawn + 1 } : World) = wd := ⟨_, rfl⟩
  rw [hdr] at h3 ho3 hbox3
  have c1 : wd.cell? ⟨g, 1, none⟩ = some (.slice (some ⟨gn, 0, none⟩) newest.length cn) := h3.cell 1
  have hrange0 : wd.rangeAt w.heap.size 0 p := fun j v hj => by rw [Nat.zero_add, cell_of_row wd w.heap.size j _ _ _ hbox3]; simpa using hj
  have HL := Lib.hid (run_loadAt_mid (P := Tryd.prog) wd w.heap.size 0 42 p _ hrange0 Tryd.underlying42 rfl (by rw [hpl]; exact info64))
  obtain ⟨NL, hNL⟩ : ∃ NL, newest.length = NL := ⟨_, rfl⟩
  have hnN : (n : Int) < (NL : Int) := by omega
  obtain ⟨cur, hcur, hcl⟩ : ∃ cur : List Value, wd.heap[gn]? = some (.cells cur.toArray 42 (0, 0)) ∧ newest.length * 64 ≤ cur.length := by
    rcases h3.rowN.2 with ⟨hv, h0⟩ | ⟨g', cap', cur, hv, _, hg, hc, _, hs, _⟩
    · simp at hv
    · simp only [Value.slice.injEq, Option.some.injEq, Addr.mk.injEq, true_and, and_true] at hv
      obtain ⟨rfl, rfl⟩ := hv
      have hs2 : cur.toList.length = cn * 64 := by rw [Array.length_toList]; exact hs
      exact ⟨cur.toList, by simpa using hg, by omega⟩
  rw [hNL] at c1
  have hsz : p.toArray.size = 64 := by rw [List.size_toArray]; exact hpl
  have hi65 : Hid ((Tryd.prog.info? 42).map (·.size) = some p.toArray.size) := by rw [hsz]; exact info64
  have hfit : Hid (n * 64 + p.toArray.size ≤ cur.length) := by
    show n * 64 + p.toArray.size ≤ cur.length
    rw [hsz]
    omega
  have hall : Hid (∀ v ∈ p.toArray.toList, v.oneCell' = true) := fun v hv => hp.2 v (by simpa using hv)
  have Hcur := Lib.hid hcur
  have hgl3 := h3.lt
  clear hcur hsz hcl hrange0 h2 ho2 hbox2
  go_wp2
  refine wp_region_still_tail 7 (by kernel_rfl) (by kernel_rfl) ?_
  rw [hdr]
  simp only [List.take_succ_cons, List.take_zero, List.drop_succ_cons, List.drop_zero]
  iterate 5 still_step
  refine wpStill_val rfl (v := .agg p.toArray) ?_ ?_
  · unfold execOp
    rw [Sem.run_bind]
    exact (congrArg (fun r : Result Value => r.andThen fun v w' => (pure (Next.value v) : Sem Next).run Tryd.prog w') HL.out).trans rfl
  still_step
  refine wpStill_nil ?_
  go_wp2_with (first
    | (refine wpList_store_into rfl 42 _ _ rfl gn (n * 64) p.toArray rfl rfl cur 42 Hcur.out hi65.out hfit.out hall.out ?_; intro w5 Hs5 Hg5))
  have hst : ∀ c : List Value, wd.heap[gn]? = some (.cells c.toArray 42 (0, 0)) → w5.heap[gn]? = some (.cells (splice c (n * 64) p).toArray 42 (0, 0)) := fun c hc => by
    have e := hc.symm.trans Hcur.out
    simp only [Option.some.injEq, Obj.cells.injEq, and_true] at e
    have e2 : c = cur := by simpa using congrArg Array.toList e
    subst e2
    exact Hs5.out
  have h5 := h3.setNew n (by omega) p hp hst Hg5.out
  rw [← hvn] at h5
  have ho5 : Only (Foot g vf vn vp) w w5 := ho3.trans (Only.of_grown (F := fun j => j = gn) Hg5.out (fun j e => by simpa using e.symm)) (fun j hj => by subst hj; left; rw [hvn]; exact .inr (.inr (.inl rfl)))
  have hngn : w.heap.size ≠ gn := fun e => hnF (by rw [hvn]; exact .inr (.inr (.inl (by rw [e]; rfl))))
  have hz3 := ho3.size
  have hbox5 : w5.heap[w.heap.size]? = some (.cells p.toArray 42 (0, 0)) := (Hg5.out.block _ (Array.getElem?_eq_some_iff.1 hbox3).1 (by simp; omega)).trans hbox3
  clear h3 ho3 hbox3 c1 HL Hcur hfit hst Hs5 Hg5 hz3
  obtain ⟨newest', HN⟩ : ∃ x, Hid (newest.set (n : Int).toNat p = x) := ⟨_, rfl⟩
  rw [show newest.set n p = newest' from (by rw [← HN.out, Int.toNat_natCast])] at h5
  -- pending = append(pending, ..)
  refine wp_region_any (by kernel_rfl) ?_
  change wpAny _ _ _ _ _ _ _ (World.drew _)
  have h6 := h5.below (w' := w5.drew) ⟨rfl, rfl, rfl, Nat.le_refl _, fun _ _ => rfl⟩
  have ho6 : Only (Foot g vf vn vp) w w5.drew := ⟨ho5.os, ho5.tape, ho5.output, ho5.size, ho5.block⟩
  have hbox6 : w5.drew.heap[w.heap.size]? = some (.cells p.toArray 42 (0, 0)) := hbox5
  generalize w5.drew = w6 at h6 ho6 hbox6 ⊢
  clear h5 ho5 hbox5
  have hz6 := ho6.size
  have hgl6 := h6.lt
  have hvw : vp.ownBlock ≠ some g := h6.apart.2.2.1
  have hrange : w6.rangeAt w.heap.size 0 p := fun j v hj => by rw [Nat.zero_add, cell_of_row w6 w.heap.size j _ _ _ hbox6]; simpa using hj
  have hld := run_loadAt_mid (P := Tryd.prog) w6 w.heap.size 0 42 p _ hrange Tryd.underlying42 rfl (by rw [hpl]; exact info64)
  have hbw := built_write n p hp
  have c2 : w6.cell? ⟨g, 2, none⟩ = some vp := h6.cell 2
  have h67 := (Below.refl w6.heap.size w6).alloc (Nat.le_refl _) (.cells (wcell n p).toArray 73)
  have ca : (w6.alloc (.cells (wcell n p).toArray 73)).cell? ⟨g, 2, none⟩ = some vp := (h67.cell (p := ⟨g, 2, none⟩) hgl6).trans c2
  have Hst8 := Lib.hid (fun (w3 : World) (hgr3 : (w6.alloc (.cells (wcell n p).toArray 73)).grownBy w3 vp.ownBlock) => show w3.cell? ⟨g, 2, none⟩ = some vp ∧ w3.frozen? ⟨g, 2, none⟩ = false from
    ⟨(hgr3.cell_far ⟨g, 2, none⟩ (by have := h67.size; simp only; omega) (fun e => hvw e.symm)).trans ca,
      (hgr3.frozen_far ⟨g, 2, none⟩ (by have := h67.size; simp only; omega) (fun e => hvw e.symm)).trans ((h67.frozen (p := ⟨g, 2, none⟩) hgl6).trans (h6.thaw 2))⟩)
  obtain ⟨ip, hip, hzp⟩ := Option.map_eq_some_iff.1 infoWrite
  simp only [Prod.mk.injEq] at hzp
  obtain ⟨hp0, hp1, hp2⟩ := hzp
  have hfin : ∀ (gg2 cap2 : Nat) (w9 : World), DiskAt g vf vn (.slice (some ⟨gg2, 0, none⟩) (ats.length + 1) cap2) firm newest' (ats ++ [(n : Int)]) (what ++ [p]) fuel' false w9 →
      Only (Foot g vf vn vp) w6 w9 → (Foot g vf vn vp gg2 ∨ w6.heap.size ≤ gg2) →
      PWritePost g vf vn firm (newest.set (n : Int).toNat p) (ats ++ [(n : Int)]) (what ++ [p]) fuel' (Foot g vf vn vp) w (.returned .nilIface) w9 := by
    intro gg2 cap2 w9 h9 ho9 hfo9
    rw [HN.out]
    refine ⟨rfl, _, h9, ho6.trans ho9 (fun j hj => .inl hj), fun k hk => ?_⟩
    rcases hk with e | e | e | e
    · exact .inl (.inl e)
    · exact .inl (.inr (.inl e))
    · exact .inl (.inr (.inr (.inl e)))
    · obtain rfl : gg2 = k := by simpa [Value.ownBlock] using e
      exact hfo9.imp id (fun e => by omega)
  clear hnN hi hngn
  refine wpAny_take (i := 0) (v := .pointer (some ⟨g, 0, none⟩)) rfl (by kernel_rfl) (by kernel_rfl) (by kernel_rfl) (fun _ _ _ h => h) (Or.inl ⟨by rfl, ?_⟩) ?_
  · intro w'; go_simp
  try simp only [List.getElem_toArray, List.getElem_cons_zero, Act.put, List.setIfInBounds_toArray, List.set]
  refine wpAny_take (i := 1) (v := .pointer (some ⟨g, 0, none⟩)) rfl (by kernel_rfl) (by kernel_rfl) (by kernel_rfl) (fun _ _ _ h => h) (Or.inl ⟨by rfl, ?_⟩) ?_
  · intro w'; go_simp
  try simp only [List.getElem_toArray, List.getElem_cons_succ, List.getElem_cons_zero, Act.put, List.setIfInBounds_toArray, List.set]
  refine wpAny_take (i := 2) (v := .pointer (some ⟨g, 0, none⟩)) rfl (by kernel_rfl) (by kernel_rfl) (by kernel_rfl) (fun _ _ _ h => h) (Or.inl ⟨by rfl, ?_⟩) ?_
  · intro w'; go_simp
  try simp only [List.getElem_toArray, List.getElem_cons_succ, List.getElem_cons_zero, Act.put, List.setIfInBounds_toArray, List.set]
  refine wpAny_take (i := 3) (v := .pointer (some ⟨g, 2, none⟩)) rfl (by kernel_rfl) (by kernel_rfl) (by kernel_rfl) (fun _ _ _ h => h) (Or.inl ⟨by rfl, ?_⟩) ?_
  · intro w'; go_simp
  try simp only [List.getElem_toArray, List.getElem_cons_succ, List.getElem_cons_zero, Act.put, List.setIfInBounds_toArray, List.set]
  refine wpAny_take (i := 5) (v := .int .i64 n) rfl (by kernel_rfl) (by kernel_rfl) (by kernel_rfl) (fun _ _ _ h => h) (Or.inl ⟨by rfl, ?_⟩) ?_
  · intro w'; go_simp
  try simp only [List.getElem_toArray, List.getElem_cons_succ, List.getElem_cons_zero, Act.put, List.setIfInBounds_toArray, List.set]
  refine wpAny_ready (rs := [4, 6]) (by kernel_rfl) (by simp) (AllReady.cons rfl (fun K hK => ?_) (AllReady.cons rfl (fun K hK => ?_) AllReady.nil))
  · refine step_quiet rfl (v := vp) (by have c := c2; go_simp) ?_
    refine hK _ _ ?_
    clear hK K
    try simp only [List.getElem_toArray, List.getElem_cons_succ, List.getElem_cons_zero, Act.put, List.setIfInBounds_toArray, List.set]
    refine wpAny_ready (rs := [6]) (by kernel_rfl) (by simp) (AllReady.cons rfl (fun K hK => ?_) AllReady.nil)
    refine step_quiet rfl (v := .agg p.toArray) (exec_load _ _ 42 _ rfl w.heap.size 0 rfl _ hld) ?_
    refine hK _ _ ?_
    clear hK K
    try simp only [List.getElem_toArray, List.getElem_cons_succ, List.getElem_cons_zero, Act.put, List.setIfInBounds_toArray, List.set]
    refine wpAny_take (i := 7) (v := .agg (wcell n p).toArray) rfl (by kernel_rfl) (by kernel_rfl) (by kernel_rfl) (fun _ _ _ h => h) (Or.inl ⟨by rfl, ?_⟩) ?_
    · intro w'; exact exec_build w' rfl (Eq.trans (congrArg (Program.built _ _) (by simp [Act.eval])) hbw)
    try simp only [List.getElem_toArray, List.getElem_cons_succ, List.getElem_cons_zero, Act.put, List.setIfInBounds_toArray, List.set]
    refine wpAny_ready (rs := [8]) (by kernel_rfl) (by simp) (AllReady.cons rfl (fun K hK => ?_) AllReady.nil)
    refine step_wp rfl (wp_build_write _ rfl (wcell n p) hwl rfl ?_)
    refine hK _ _ ?_
    clear hK K
    try simp only [List.getElem_toArray, List.getElem_cons_succ, List.getElem_cons_zero, Act.put, List.setIfInBounds_toArray, List.set]
    refine wpAny_ready (rs := [9]) (by kernel_rfl) (by simp) (AllReady.cons rfl (fun K hK => ?_) AllReady.nil)
    refine step_append_lies _ rfl _ _ _ rfl 0 73 ip _ 65 72 Tryd.underlying67 hip hp0 hp1 hp2 (by simp [Value.cells, zeroPage]) (by omega) vp ats.length _ rfl (h6.rowP.alloc _) ⟨w6.heap.size, 0, none⟩ 1 1 (wcell n p) rfl (by rw [hwl]) (World.news_of_block (cs := (wcell n p).toArray) (t := 73) (fr := (0, 0)) (heap_alloc_new w6 _)) (wcell_one hp) (by omega) (by unfold maxLen; omega) (by omega) (by omega) (w6.heap.size + 1) (by simp) ?_
    intro gg2 cap2 w8 hown8 hgr8 hat8 hlt8
    refine hK _ _ ?_
    clear hK K
    try simp only [List.getElem_toArray, List.getElem_cons_succ, List.getElem_cons_zero, Act.put, List.setIfInBounds_toArray, List.set]
    obtain ⟨hc8, hf8⟩ := Hst8.out w8 hgr8
    obtain ⟨h9, ho9, hfo9⟩ := h6.putPend hp h67 hown8 hgr8 (hat8.imp id (fun e => by omega))
    refine wpAny_take (i := 10) (v := .pointer (some ⟨g, 0, none⟩)) rfl (by kernel_rfl) (by kernel_rfl) (by kernel_rfl) (fun _ _ _ h => h) (Or.inl ⟨by rfl, ?_⟩) ?_
    · intro w'; go_simp
    try simp only [List.getElem_toArray, List.getElem_cons_succ, List.getElem_cons_zero, Act.put, List.setIfInBounds_toArray, List.set]
    refine wpAny_take (i := 11) (v := .pointer (some ⟨g, 2, none⟩)) rfl (by kernel_rfl) (by kernel_rfl) (by kernel_rfl) (fun _ _ _ h => h) (Or.inl ⟨by rfl, ?_⟩) ?_
    · intro w'; go_simp
    try simp only [List.getElem_toArray, List.getElem_cons_succ, List.getElem_cons_zero, Act.put, List.setIfInBounds_toArray, List.set]
    refine wpAny_ready (rs := [12]) (by kernel_rfl) (by simp) (AllReady.cons rfl (fun K hK => ?_) AllReady.nil)
    go_simp
    refine hK _ _ ?_
    clear hK K
    try simp only [List.getElem_toArray, List.getElem_cons_succ, List.getElem_cons_zero, Act.put, List.setIfInBounds_toArray, List.set]
    refine wpAny_done (by kernel_rfl) ?_ _
    go_wp2
    go_ret
    exact hfin gg2 cap2 _ h9 ho9 hfo9
  · refine step_quiet rfl (v := .agg p.toArray) (exec_load _ _ 42 _ rfl w.heap.size 0 rfl _ hld) ?_
    refine hK _ _ ?_
    clear hK K
    try simp only [List.getElem_toArray, List.getElem_cons_succ, List.getElem_cons_zero, Act.put, List.setIfInBounds_toArray, List.set]
    refine wpAny_take (i := 7) (v := .agg (wcell n p).toArray) rfl (by kernel_rfl) (by kernel_rfl) (by kernel_rfl) (fun _ _ _ h => h) (Or.inl ⟨by rfl, ?_⟩) ?_
    · intro w'; exact exec_build w' rfl (Eq.trans (congrArg (Program.built _ _) (by simp [Act.eval])) hbw)
    try simp only [List.getElem_toArray, List.getElem_cons_succ, List.getElem_cons_zero, Act.put, List.setIfInBounds_toArray, List.set]
    refine wpAny_ready (rs := [4, 8]) (by kernel_rfl) (by simp) (AllReady.cons rfl (fun K hK => ?_) (AllReady.cons rfl (fun K hK => ?_) AllReady.nil))
    · refine step_quiet rfl (v := vp) (by have c := c2; go_simp) ?_
      refine hK _ _ ?_
      clear hK K
      try simp only [List.getElem_toArray, List.getElem_cons_succ, List.getElem_cons_zero, Act.put, List.setIfInBounds_toArray, List.set]
      refine wpAny_ready (rs := [8]) (by kernel_rfl) (by simp) (AllReady.cons rfl (fun K hK => ?_) AllReady.nil)
      refine step_wp rfl (wp_build_write _ rfl (wcell n p) hwl rfl ?_)
      refine hK _ _ ?_
      clear hK K
      try simp only [List.getElem_toArray, List.getElem_cons_succ, List.getElem_cons_zero, Act.put, List.setIfInBounds_toArray, List.set]
      refine wpAny_ready (rs := [9]) (by kernel_rfl) (by simp) (AllReady.cons rfl (fun K hK => ?_) AllReady.nil)
      refine step_append_lies _ rfl _ _ _ rfl 0 73 ip _ 65 72 Tryd.underlying67 hip hp0 hp1 hp2 (by simp [Value.cells, zeroPage]) (by omega) vp ats.length _ rfl (h6.rowP.alloc _) ⟨w6.heap.size, 0, none⟩ 1 1 (wcell n p) rfl (by rw [hwl]) (World.news_of_block (cs := (wcell n p).toArray) (t := 73) (fr := (0, 0)) (heap_alloc_new w6 _)) (wcell_one hp) (by omega) (by unfold maxLen; omega) (by omega) (by omega) (w6.heap.size + 1) (by simp) ?_
      intro gg2 cap2 w8 hown8 hgr8 hat8 hlt8
      refine hK _ _ ?_
      clear hK K
      try simp only [List.getElem_toArray, List.getElem_cons_succ, List.getElem_cons_zero, Act.put, List.setIfInBounds_toArray, List.set]
      obtain ⟨hc8, hf8⟩ := Hst8.out w8 hgr8
      obtain ⟨h9, ho9, hfo9⟩ := h6.putPend hp h67 hown8 hgr8 (hat8.imp id (fun e => by omega))
      refine wpAny_take (i := 10) (v := .pointer (some ⟨g, 0, none⟩)) rfl (by kernel_rfl) (by kernel_rfl) (by kernel_rfl) (fun _ _ _ h => h) (Or.inl ⟨by rfl, ?_⟩) ?_
      · intro w'; go_simp
      try simp only [List.getElem_toArray, List.getElem_cons_succ, List.getElem_cons_zero, Act.put, List.setIfInBounds_toArray, List.set]
      refine wpAny_take (i := 11) (v := .pointer (some ⟨g, 2, none⟩)) rfl (by kernel_rfl) (by kernel_rfl) (by kernel_rfl) (fun _ _ _ h => h) (Or.inl ⟨by rfl, ?_⟩) ?_
      · intro w'; go_simp
      try simp only [List.getElem_toArray, List.getElem_cons_succ, List.getElem_cons_zero, Act.put, List.setIfInBounds_toArray, List.set]
      refine wpAny_ready (rs := [12]) (by kernel_rfl) (by simp) (AllReady.cons rfl (fun K hK => ?_) AllReady.nil)
      go_simp
      refine hK _ _ ?_
      clear hK K
      try simp only [List.getElem_toArray, List.getElem_cons_succ, List.getElem_cons_zero, Act.put, List.setIfInBounds_toArray, List.set]
      refine wpAny_done (by kernel_rfl) ?_ _
      go_wp2
      go_ret
      exact hfin gg2 cap2 _ h9 ho9 hfo9
    · refine step_wp rfl (wp_build_write _ rfl (wcell n p) hwl rfl ?_)
      refine hK _ _ ?_
      clear hK K
      try simp only [List.getElem_toArray, List.getElem_cons_succ, List.getElem_cons_zero, Act.put, List.setIfInBounds_toArray, List.set]
      refine wpAny_ready (rs := [4]) (by kernel_rfl) (by simp) (AllReady.cons rfl (fun K hK => ?_) AllReady.nil)
      refine step_quiet rfl (v := vp) (by have c := ca; go_simp) ?_
      refine hK _ _ ?_
      clear hK K
      try simp only [List.getElem_toArray, List.getElem_cons_succ, List.getElem_cons_zero, Act.put, List.setIfInBounds_toArray, List.set]
      refine wpAny_ready (rs := [9]) (by kernel_rfl) (by simp) (AllReady.cons rfl (fun K hK => ?_) AllReady.nil)
      refine step_append_lies _ rfl _ _ _ rfl 0 73 ip _ 65 72 Tryd.underlying67 hip hp0 hp1 hp2 (by simp [Value.cells, zeroPage]) (by omega) vp ats.length _ rfl (h6.rowP.alloc _) ⟨w6.heap.size, 0, none⟩ 1 1 (wcell n p) rfl (by rw [hwl]) (World.news_of_block (cs := (wcell n p).toArray) (t := 73) (fr := (0, 0)) (heap_alloc_new w6 _)) (wcell_one hp) (by omega) (by unfold maxLen; omega) (by omega) (by omega) (w6.heap.size + 1) (by simp) ?_
      intro gg2 cap2 w8 hown8 hgr8 hat8 hlt8
      refine hK _ _ ?_
      clear hK K
      try simp only [List.getElem_toArray, List.getElem_cons_succ, List.getElem_cons_zero, Act.put, List.setIfInBounds_toArray, List.set]
      obtain ⟨hc8, hf8⟩ := Hst8.out w8 hgr8
      obtain ⟨h9, ho9, hfo9⟩ := h6.putPend hp h67 hown8 hgr8 (hat8.imp id (fun e => by omega))
      refine wpAny_take (i := 10) (v := .pointer (some ⟨g, 0, none⟩)) rfl (by kernel_rfl) (by kernel_rfl) (by kernel_rfl) (fun _ _ _ h => h) (Or.inl ⟨by rfl, ?_⟩) ?_
      · intro w'; go_simp
      try simp only [List.getElem_toArray, List.getElem_cons_succ, List.getElem_cons_zero, Act.put, List.setIfInBounds_toArray, List.set]
      refine wpAny_take (i := 11) (v := .pointer (some ⟨g, 2, none⟩)) rfl (by kernel_rfl) (by kernel_rfl) (by kernel_rfl) (fun _ _ _ h => h) (Or.inl ⟨by rfl, ?_⟩) ?_
      · intro w'; go_simp
      try simp only [List.getElem_toArray, List.getElem_cons_succ, List.getElem_cons_zero, Act.put, List.setIfInBounds_toArray, List.set]
      refine wpAny_ready (rs := [12]) (by kernel_rfl) (by simp) (AllReady.cons rfl (fun K hK => ?_) AllReady.nil)
      go_simp
      refine hK _ _ ?_
      clear hK K
      try simp only [List.getElem_toArray, List.getElem_cons_succ, List.getElem_cons_zero, Act.put, List.setIfInBounds_toArray, List.set]
      refine wpAny_done (by kernel_rfl) ?_ _
      go_wp2
      go_ret
      exact hfin gg2 cap2 _ h9 ho9 hfo9

/-- Write where nothing is written. -/
def PNoPost (g : Nat) (vf vn vp : Value) (firm newest : List (List Value)) (ats : List Int) (what : List (List Value)) (r : Int × Bool × Int) (w : World) (e : Ending) (w' : World) : Prop :=
  ∃ v, e = .returned v ∧ ErrV w' r.2.2 v ∧ DiskAt g vf vn vp firm newest ats what r.1 r.2.1 w' ∧ Only (fun k => k = g) w w'

set_option maxRecDepth 100000 in
set_option maxHeartbeats 4000000 in
theorem pwrite_no (h : DiskAt g vf vn vp firm newest ats what fuel off w) (hf : fuel ≤ 9223372036854775807) (i : Int) (p : List Value) (r : Int × Bool × Int) (hr : noWrite firm fuel off i = some r) :
    Calls Tryd.prog 19 #[.pointer (some ⟨g, 0, none⟩), .int .i64 i, .agg p.toArray] w (PNoPost g vf vn vp firm newest ats what r w) := by
  have hb1 := (Below.refl w.heap.size w).alloc (Nat.le_refl _) (.cells p.toArray 42)
  have h1 := h.below hb1
  have hreach := reach_any h1 i
  have hstep := step_any h1 hf
  by_cases h0 : reachN firm.length off i = 0
  · obtain ⟨rfl, rfl, rfl⟩ : off = false ∧ fuel = 0 ∧ r = (fuel, true, 10) := by
      cases off with
      | true => simp [reachN] at h0
      | false =>
        have hb : ¬ (i < 0 ∨ (firm.length : Int) ≤ i) := fun hb => by simp [reachN, hb] at h0
        by_cases hf0 : fuel = 0
        · refine ⟨rfl, hf0, ?_⟩
          simpa [noWrite, hb, hf0] using hr.symm
        · simp [noWrite, hb, hf0] at hr
    rw [h0, errVal_nil] at hreach
    have hs : stepS 0 false = (0, true, 10) := rfl
    rw [hs] at hstep
    have he : errVal 10 = .iface 61 (.int .i64 10) := rfl
    simp only [he] at hstep
    have hq : ∀ W : World, (binOp .neq 26 (.iface 61 (.int .i64 10)) .nilIface).run Tryd.prog W = .ok (.bool true) W := fun W => run_neq_held_nil W 26 _ _ Tryd.methodsError
    clear hr h0 he hs
    go_enter Tryd.func19, Tryd.ntmps19
    go_wp2_with (first
      | (go_at_call 29; refine hreach.mono ?_; rintro e w' ⟨rfl, rfl⟩)
      | (go_at_call 31; refine hstep.mono ?_; rintro e w2 ⟨rfl, h2, hg2⟩)
      | (go_at_call 23; refine (in_more ⟨#[100, 105, 115, 107, 46, 87, 114, 105, 116, 101]⟩ 10 [] _ _ rfl).mono ?_; rintro e w3 ⟨rfl, hC3, hb3⟩))
    go_ret
    exact ⟨_, rfl, .inr ⟨by decide, _, hC3⟩, h2.below hb3, ((Only.of_below (F := fun k => k = g) hb1).trans (Only.of_grown (F := fun k => k = g) hg2 (fun k e => by simpa using e.symm)) (fun j hj => .inl hj)).trans (Only.of_below (F := fun k => k = g) hb3) (fun j hj => .inl hj)⟩
  · obtain rfl : r = (fuel, off, reachN firm.length off i) := by
      cases off with
      | true => simpa [noWrite, reachN] using hr.symm
      | false =>
        by_cases hb : i < 0 ∨ (firm.length : Int) ≤ i
        · simpa [noWrite, reachN, hb] using hr.symm
        · simp [reachN, hb] at h0
    generalize reachN firm.length off i = n at h0 hreach ⊢
    rw [errVal_held h0] at hreach
    have hq : ∀ W : World, (binOp .neq 26 (.iface 61 (.int .i64 n)) .nilIface).run Tryd.prog W = .ok (.bool true) W := fun W => run_neq_held_nil W 26 _ _ Tryd.methodsError
    have hq2 : ∀ W : World, (binOp .eql 26 (.iface 61 (.int .i64 n)) .nilIface).run Tryd.prog W = .ok (.bool false) W := fun W => run_eql_held_nil W 26 _ _ Tryd.methodsError
    clear hr hstep
    go_enter Tryd.func19, Tryd.ntmps19
    go_wp2_with (first
      | (go_at_call 29; refine hreach.mono ?_; rintro e w' ⟨rfl, rfl⟩)
      | (go_at_call 23; refine (in_more ⟨#[100, 105, 115, 107, 46, 87, 114, 105, 116, 101]⟩ n [] _ _ rfl).mono ?_; rintro e w3 ⟨rfl, hC3, hb3⟩))
    go_ret
    simp only [World.size_alloc] at hC3
    exact ⟨_, rfl, .inr ⟨h0, _, hC3⟩, h1.below hb3, (Only.of_below (F := fun k => k = g) hb1).trans (Only.of_below (F := fun k => k = g) hb3) (fun j hj => .inl hj)⟩

/-- Write to none. -/
theorem pwrite_nil (i : Int) (p : List Value) (w : World) : Calls Tryd.prog 19 #[.pointer none, .int .i64 i, .agg p.toArray] w fun e w' => ∃ v, e = .returned v ∧ ErrV w' 10 v ∧ Below w.heap.size w w' := by
  have hb1 := (Below.refl w.heap.size w).alloc (Nat.le_refl _) (.cells p.toArray 42)
  have hreach : ∀ w, Calls Tryd.prog 29 #[.pointer none, .int .i64 i] w fun e w' => e = .returned (.iface 61 (.int .i64 10)) ∧ w' = w := fun w => by
    go_enter Tryd.func29, Tryd.ntmps29
    go_wp2_with (go_at_call 14; refine (off_nil w).mono ?_; rintro e w' ⟨rfl, rfl⟩)
    go_ret
    exact ⟨rfl, rfl⟩
  have hq : ∀ W : World, (binOp .neq 26 (.iface 61 (.int .i64 10)) .nilIface).run Tryd.prog W = .ok (.bool true) W := fun W => run_neq_held_nil W 26 _ _ Tryd.methodsError
  have hq2 : ∀ W : World, (binOp .eql 26 (.iface 61 (.int .i64 10)) .nilIface).run Tryd.prog W = .ok (.bool false) W := fun W => run_eql_held_nil W 26 _ _ Tryd.methodsError
  go_enter Tryd.func19, Tryd.ntmps19
  go_wp2_with (first
    | (go_at_call 29; refine (hreach _).mono ?_; rintro e w' ⟨rfl, rfl⟩)
    | (go_at_call 23; refine (in_more ⟨#[100, 105, 115, 107, 46, 87, 114, 105, 116, 101]⟩ 10 [] _ _ rfl).mono ?_; rintro e w3 ⟨rfl, hC3, hb3⟩))
  go_ret
  simp only [World.size_alloc] at hC3
  exact ⟨_, rfl, .inr ⟨by decide, _, hC3⟩, hb1.trans (hb3.mono hb1.size)⟩
end
end Go.Proofs.YtbmpbcnoclhhgaaDoor
