/-
  The reference's disk: Write, walked.
-/
import Derived.Test.YtbmpbcnoclhhgaaDoorDiskWrite
namespace Go.Proofs.YtbmpbcnoclhhgaaDoor
open Go.RowKit Sh

theorem infoInt : (Tryd.prog.info? 3).map (fun i => (i.zero, i.size, i.bytes)) = some (some (.int .i64 0), 1, 8) := by kernel_rfl

def WritePost (g : Nat) (vf : Value) (firm : List (List Value)) (ats : List Int) (what : List (List Value)) (fuel : Int) (off : Bool) (code : Int) (F : Nat → Prop) (w : World) (e : Ending) (w' : World) : Prop :=
  e = .returned (.int .i64 code) ∧ ∃ va' vw', RefAt g vf va' vw' firm ats what fuel off w' ∧ Only F w w' ∧ ∀ k, Foot g vf va' vw' k → F k ∨ w.heap.size ≤ k

theorem step_wp {P : Program} {ops : Array Oper} {o : Oper} {a : Act} {w : World} {K : Act → World → Prop} {Q : Exit → Act → World → Prop} {E : Prop} (hgd : o.guard = none) (h : Oper.wp P o a w K Q) : if Region.wanted o (yielded ops a.tmps) = true then Oper.wp P o a w K Q else E := by
  have hw : Region.wanted o (yielded ops a.tmps) = true := by simp [Region.wanted, hgd]
  rw [if_pos hw]
  exact h
theorem step_quiet {P : Program} {ops : Array Oper} {o : Oper} {a : Act} {w : World} {K : Act → World → Prop} {Q : Exit → Act → World → Prop} {E : Prop} (hgd : o.guard = none) {v : Value} (hrun : (execOp a.eval o).run P w = .ok (.value v) w) (h : K (a.put o.dst v) w) : if Region.wanted o (yielded ops a.tmps) = true then Oper.wp P o a w K Q else E := by
  refine step_wp hgd ?_
  unfold Oper.wp
  rw [hrun]
  exact h
theorem zeros_size : (Value.agg zeros64).cells.size = 64 := by
  show zeros64.size = 64
  unfold zeros64 zeroPage
  rw [List.size_toArray, List.length_replicate]

section
variable {g : Nat} {vf va vw : Value} {firm what : List (List Value)} {ats : List Int} {fuel : Int} {off : Bool} {w : World}

set_option maxRecDepth 100000 in
set_option maxHeartbeats 4000000 in
theorem rwrite_ok (h : RefAt g vf va vw firm ats what fuel false w) (hsame : what.length = ats.length) (hn : ats.length ≤ 1048576) (hf : fuel ≤ 9223372036854775807) (i : Int) (hi : 0 ≤ i ∧ i < (firm.length : Int)) (hfu : fuel ≠ 0) (p : List Value) (hp : IsPage p) :
    Calls Tryd.prog 26 #[.pointer (some ⟨g, 0, none⟩), .int .i64 i, .agg p.toArray] w (WritePost g vf firm (ats ++ [i]) (what ++ [p]) (stepS fuel false).1 false 0 (Foot g vf va vw) w) := by
  obtain ⟨i0, hi0, hzz⟩ := Option.map_eq_some_iff.1 infoInt
  simp only [Prod.mk.injEq] at hzz
  have HI := Lib.hid hzz
  clear hzz
  have hb1 := (Below.refl w.heap.size w).alloc (Nat.le_refl _) (.cells p.toArray 42)
  have h1 := h.below hb1
  have hbox : (w.alloc (.cells p.toArray 42)).heap[w.heap.size]? = some (.cells p.toArray 42 (0, 0)) := heap_alloc_new w _
  obtain ⟨w1, hw1⟩ : ∃ w1, w1 = w.alloc (.cells p.toArray 42) := ⟨_, rfl⟩
  rw [← hw1] at hb1 h1 hbox
  have HW1 := Lib.hid hw1
  have hz1 : w1.heap.size = w.heap.size + 1 := by rw [hw1]; simp
  have c4' : (w.alloc (.cells p.toArray 42)).cell? ⟨g, 4, none⟩ = some (.bool false) := by rw [← hw1]; exact h1.cell 4
  clear hw1
  have c4 : w1.cell? ⟨g, 4, none⟩ = some (.bool false) := h1.cell 4
  have hno := no_any h1 i
  have hd : decide (i < 0 ∨ (firm.length : Int) ≤ i) = false := by simp; omega
  rw [hd] at hno
  have hstep := rstep_any h1 hf
  have hs2 : (stepS fuel false).2.1 = false ∧ (stepS fuel false).2.2 = 0 := by
    simp only [stepS, if_neg hfu, Bool.false_eq_true, if_false]
    split <;> exact ⟨rfl, rfl⟩
  rw [hs2.1, hs2.2] at hstep
  generalize (stepS fuel false).1 = fuel' at hstep
  go_enter Tryd.func26, Tryd.ntmps26
  go_wp2_with (first
    | (rw [← HW1.out]; go_at_call 30; refine hno.mono ?_; rintro e w' ⟨rfl, hw'⟩; rw [hw']; clear hw')
    | (go_at_call 38; refine hstep.mono ?_))
  rintro e w2 ⟨rfl, h2, hg2⟩
  have hbox2 : w2.heap[w.heap.size]? = some (.cells p.toArray 42 (0, 0)) := (hg2.block _ (by omega) (by have := h.lt; simp; omega)).trans hbox
  have hz2 := hg2.size
  have c1 : w2.cell? ⟨g, 1, none⟩ = some va := h2.cell 1
  have hgl := h2.lt
  have hown := h2.rowA
  have hvo2 : va.ownBlock ≠ some g := h2.apart.2.1
  have h12 := (Below.refl w2.heap.size w2).alloc (Nat.le_refl _) (.cells #[.int .i64 i] 3)
  have Hst := Lib.hid (fun (w3 : World) (hgr3 : (w2.alloc (.cells #[.int .i64 i] 3)).grownBy w3 va.ownBlock) => show w3.cell? ⟨g, 1, none⟩ = some va ∧ w3.frozen? ⟨g, 1, none⟩ = false from
    ⟨(hgr3.cell_far ⟨g, 1, none⟩ (by have := h12.size; simp only; omega) (fun e => hvo2 e.symm)).trans ((h12.cell (p := ⟨g, 1, none⟩) hgl).trans c1),
      (hgr3.frozen_far ⟨g, 1, none⟩ (by have := h12.size; simp only; omega) (fun e => hvo2 e.symm)).trans ((h12.frozen (p := ⟨g, 1, none⟩) hgl).trans (h2.thaw 1))⟩)
  obtain ⟨hq0, hq1, hq2⟩ := HI.out
  go_wp2_with (at_builtin; refine wpList_append_lies _ rfl _ _ _ rfl 0 3 i0 _ 1 8 Tryd.underlying33 hi0 hq0 hq1 hq2 rfl (by omega) va ats.length _ rfl (hown.alloc _) ⟨w2.heap.size, 0, none⟩ 1 1 [.int .i64 i] rfl rfl (World.news_of_block (cs := #[.int .i64 i]) (t := 3) (fr := (0, 0)) (heap_alloc_new w2 _)) (by simp [Value.oneCell']) (by omega) (by unfold maxLen; omega) (by omega) (by omega) (w2.heap.size + 1) (by simp) ?_)
  intro gg cap w4 hown4 hgr4 hat4 hlt4
  obtain ⟨hc4, hf4⟩ := Hst.out w4 hgr4
  obtain ⟨h5, ho5, hf5⟩ := h2.putAts h12 hown4 hgr4 (hat4.imp id (fun e => by omega))
  go_wp2
  have hnw : what.length ≤ 1048576 := by omega
  clear hsame
  generalize w4.setCell ⟨g, 1, none⟩ (.slice (some ⟨gg, 0, none⟩) (ats.length + 1) cap) = w5 at h5 ho5 ⊢
  have hnF : ¬ Foot g vf va vw w.heap.size := by
    intro hF
    rcases hF with e | e | e | e
    · have := h.lt; omega
    · have := (h.rowF.lt _ e).2; omega
    · have := (h.rowA.lt _ e).2; omega
    · have := (h.rowW.lt _ e).2; omega
  have hz5 := ho5.size
  have hbox5 := (ho5.block w.heap.size (by omega) hnF).trans hbox2
  refine wp_region_any (by kernel_rfl) ?_
  change wpAny _ _ _ _ _ _ _ (World.drew _)
  have h6 := h5.below (w' := w5.drew) ⟨rfl, rfl, rfl, Nat.le_refl _, fun _ _ => rfl⟩
  have ho6 : Only (Foot g vf va vw) w2 w5.drew := ⟨ho5.os, ho5.tape, ho5.output, ho5.size, ho5.block⟩
  have hbox6 : w5.drew.heap[w.heap.size]? = some (.cells p.toArray 42 (0, 0)) := hbox5
  generalize w5.drew = w6 at h6 ho6 hbox6 ⊢
  clear h5 ho5 hbox5 hbox2 hz5 hc4 hf4 hgr4 hown4 Hst c4 c4' c1 hno hstep
  have hz6 := ho6.size
  have hgl6 := h6.lt
  have hvw : vw.ownBlock ≠ some g := h6.apart.2.2.1
  have hrange : w6.rangeAt w.heap.size 0 p := fun j v hj => by rw [Nat.zero_add, cell_of_row w6 w.heap.size j _ _ _ hbox6]; simpa using hj
  have hld := run_loadAt_mid (P := Tryd.prog) w6 w.heap.size 0 42 p _ hrange Tryd.underlying42 rfl (by rw [hp.1]; exact info64)
  have c2 : w6.cell? ⟨g, 2, none⟩ = some vw := h6.cell 2
  have h67 := (Below.refl w6.heap.size w6).alloc (Nat.le_refl _) (.cells p.toArray 42)
  have ca : (w6.alloc (.cells p.toArray 42)).cell? ⟨g, 2, none⟩ = some vw := (h67.cell (p := ⟨g, 2, none⟩) hgl6).trans c2
  have Hst8 := Lib.hid (fun (w3 : World) (hgr3 : (w6.alloc (.cells p.toArray 42)).grownBy w3 vw.ownBlock) => show w3.cell? ⟨g, 2, none⟩ = some vw ∧ w3.frozen? ⟨g, 2, none⟩ = false from
    ⟨(hgr3.cell_far ⟨g, 2, none⟩ (by have := h67.size; simp only; omega) (fun e => hvw e.symm)).trans ca,
      (hgr3.frozen_far ⟨g, 2, none⟩ (by have := h67.size; simp only; omega) (fun e => hvw e.symm)).trans ((h67.frozen (p := ⟨g, 2, none⟩) hgl6).trans (h6.thaw 2))⟩)
  obtain ⟨ip, hip, hzp⟩ := Option.map_eq_some_iff.1 infoPage
  simp only [Prod.mk.injEq] at hzp
  obtain ⟨hp0, hp1, hp2⟩ := hzp
  have hfin : ∀ (gg2 cap2 : Nat) (w9 : World), RefAt g vf (.slice (some ⟨gg, 0, none⟩) (ats.length + 1) cap) (.slice (some ⟨gg2, 0, none⟩) (what.length + 1) cap2) firm (ats ++ [i]) (what ++ [p]) fuel' false w9 →
      Only (Foot g vf (.slice (some ⟨gg, 0, none⟩) (ats.length + 1) cap) vw) w6 w9 → (Foot g vf (.slice (some ⟨gg, 0, none⟩) (ats.length + 1) cap) vw gg2 ∨ w6.heap.size ≤ gg2) →
      WritePost g vf firm (ats ++ [i]) (what ++ [p]) fuel' false 0 (Foot g vf va vw) w (.returned (.int .i64 0)) w9 := by
    intro gg2 cap2 w9 h9 ho9 hfo9
    have hFG : ∀ j, Foot g vf (.slice (some ⟨gg, 0, none⟩) (ats.length + 1) cap) vw j → Foot g vf va vw j ∨ w.heap.size ≤ j := by
      intro j hj
      rcases hj with e | e | e | e
      · exact .inl (.inl e)
      · exact .inl (.inr (.inl e))
      · obtain rfl : gg = j := by simpa [Value.ownBlock] using e
        exact hf5.imp id (fun e => by omega)
      · exact .inl (.inr (.inr (.inr e)))
    have hO : Only (Foot g vf va vw) w w9 := by
      exact (((Only.of_below (F := Foot g vf va vw) hb1).trans (Only.of_grown (F := fun k => k = g) hg2 (fun k e => by simpa using e.symm)) (fun j hj => .inl (.inl hj))).trans ho6 (fun j hj => .inl hj)).trans ho9 hFG
    refine ⟨rfl, _, _, h9, hO, fun k hk => ?_⟩
    rcases hk with e | e | e | e
    · exact .inl (.inl e)
    · exact .inl (.inr (.inl e))
    · exact hFG k (.inr (.inr (.inl e)))
    · obtain rfl : gg2 = k := by simpa [Value.ownBlock] using e
      rcases hfo9 with e | e
      · exact hFG gg2 e
      · exact .inr (by omega)
  refine wpAny_take (i := 0) (v := .pointer (some ⟨g, 0, none⟩)) rfl (by kernel_rfl) (by kernel_rfl) (by kernel_rfl) (fun _ _ _ h => h) (Or.inl ⟨by rfl, ?_⟩) ?_
  · intro w'; go_simp
  try simp only [List.getElem_toArray, List.getElem_cons_zero, Act.put, List.setIfInBounds_toArray, List.set]
  refine wpAny_take (i := 1) (v := .pointer (some ⟨g, 0, none⟩)) rfl (by kernel_rfl) (by kernel_rfl) (by kernel_rfl) (fun _ _ _ h => h) (Or.inl ⟨by rfl, ?_⟩) ?_
  · intro w'; go_simp
  try simp only [List.getElem_toArray, List.getElem_cons_succ, List.getElem_cons_zero, Act.put, List.setIfInBounds_toArray, List.set]
  refine wpAny_take (i := 2) (v := .pointer (some ⟨g, 0, none⟩)) rfl (by kernel_rfl) (by kernel_rfl) (by kernel_rfl) (fun _ _ _ h => h) (Or.inl ⟨by rfl, ?_⟩) ?_
  · intro w'; go_simp
  try simp only [List.getElem_toArray, List.getElem_cons_succ, List.getElem_cons_zero, Act.put, List.setIfInBounds_toArray, List.set]
  refine wpAny_take (i := 3) (v := .pointer (some ⟨g, 2, none⟩)) rfl (by kernel_rfl) (by kernel_rfl) (by kernel_rfl) (fun _ _ _ h => h) (Or.inl ⟨by rfl, ?_⟩) ?_
  · intro w'; go_simp
  try simp only [List.getElem_toArray, List.getElem_cons_succ, List.getElem_cons_zero, Act.put, List.setIfInBounds_toArray, List.set]
  refine wpAny_ready (rs := [4, 5]) (by kernel_rfl) (by simp) (AllReady.cons rfl (fun K hK => ?_) (AllReady.cons rfl (fun K hK => ?_) AllReady.nil))
  · refine step_quiet rfl (v := vw) (by have c := c2; go_simp) ?_
    refine hK _ _ ?_
    clear hK K
    try simp only [List.getElem_toArray, List.getElem_cons_succ, List.getElem_cons_zero, Act.put, List.setIfInBounds_toArray, List.set]
    refine wpAny_ready (rs := [5]) (by kernel_rfl) (by simp) (AllReady.cons rfl (fun K hK => ?_) AllReady.nil)
    refine step_quiet rfl (v := .agg p.toArray) (exec_load _ _ 42 _ rfl w.heap.size 0 rfl _ hld) ?_
    refine hK _ _ ?_
    clear hK K
    try simp only [List.getElem_toArray, List.getElem_cons_succ, List.getElem_cons_zero, Act.put, List.setIfInBounds_toArray, List.set]
    refine wpAny_ready (rs := [6]) (by kernel_rfl) (by simp) (AllReady.cons rfl (fun K hK => ?_) AllReady.nil)
    refine step_wp rfl (wp_build_page _ rfl p hp rfl ?_)
    refine hK _ _ ?_
    clear hK K
    try simp only [List.getElem_toArray, List.getElem_cons_succ, List.getElem_cons_zero, Act.put, List.setIfInBounds_toArray, List.set]
    refine wpAny_ready (rs := [7]) (by kernel_rfl) (by simp) (AllReady.cons rfl (fun K hK => ?_) AllReady.nil)
    refine step_append_lies _ rfl _ _ _ rfl 0 42 ip _ 64 64 Tryd.underlying38 hip hp0 hp1 hp2 (by rw [zeros_size]) (by omega) vw what.length _ rfl (h6.rowW.alloc _) ⟨w6.heap.size, 0, none⟩ 1 1 p rfl (by rw [hp.1]) (World.news_of_block (cs := p.toArray) (t := 42) (fr := (0, 0)) (heap_alloc_new w6 _)) hp.2 (by omega) (by unfold maxLen; omega) (by omega) (by omega) (w6.heap.size + 1) (by simp) ?_
    intro gg2 cap2 w8 hown8 hgr8 hat8 hlt8
    refine hK _ _ ?_
    clear hK K
    try simp only [List.getElem_toArray, List.getElem_cons_succ, List.getElem_cons_zero, Act.put, List.setIfInBounds_toArray, List.set]
    obtain ⟨hc8, hf8⟩ := Hst8.out w8 hgr8
    obtain ⟨h9, ho9, hfo9⟩ := h6.putWhat hp h67 hown8 hgr8 (hat8.imp id (fun e => by omega))
    refine wpAny_take (i := 8) (v := .pointer (some ⟨g, 0, none⟩)) rfl (by kernel_rfl) (by kernel_rfl) (by kernel_rfl) (fun _ _ _ h => h) (Or.inl ⟨by rfl, ?_⟩) ?_
    · intro w'; go_simp
    try simp only [List.getElem_toArray, List.getElem_cons_succ, List.getElem_cons_zero, Act.put, List.setIfInBounds_toArray, List.set]
    refine wpAny_take (i := 9) (v := .pointer (some ⟨g, 2, none⟩)) rfl (by kernel_rfl) (by kernel_rfl) (by kernel_rfl) (fun _ _ _ h => h) (Or.inl ⟨by rfl, ?_⟩) ?_
    · intro w'; go_simp
    try simp only [List.getElem_toArray, List.getElem_cons_succ, List.getElem_cons_zero, Act.put, List.setIfInBounds_toArray, List.set]
    refine wpAny_ready (rs := [10]) (by kernel_rfl) (by simp) (AllReady.cons rfl (fun K hK => ?_) AllReady.nil)
    go_simp
    refine hK _ _ ?_
    clear hK K
    try simp only [List.getElem_toArray, List.getElem_cons_succ, List.getElem_cons_zero, Act.put, List.setIfInBounds_toArray, List.set]
    refine wpAny_done (by kernel_rfl) ?_ _
    go_wp2
    go_ret
    exact hfin gg2 cap2 _ h9 ho9 hfo9
  · refine step_quiet rfl (v := .agg p.toArray) (exec_load _ _ 42 _ rfl w.heap.size 0 rfl _ hld) ?_
    refine hK _ _ ?_
    clear hK K
    try simp only [List.getElem_toArray, List.getElem_cons_succ, List.getElem_cons_zero, Act.put, List.setIfInBounds_toArray, List.set]
    refine wpAny_ready (rs := [4, 6]) (by kernel_rfl) (by simp) (AllReady.cons rfl (fun K hK => ?_) (AllReady.cons rfl (fun K hK => ?_) AllReady.nil))
    · refine step_quiet rfl (v := vw) (by have c := c2; go_simp) ?_
      refine hK _ _ ?_
      clear hK K
      try simp only [List.getElem_toArray, List.getElem_cons_succ, List.getElem_cons_zero, Act.put, List.setIfInBounds_toArray, List.set]
      refine wpAny_ready (rs := [6]) (by kernel_rfl) (by simp) (AllReady.cons rfl (fun K hK => ?_) AllReady.nil)
      refine step_wp rfl (wp_build_page _ rfl p hp rfl ?_)
      refine hK _ _ ?_
      clear hK K
      try simp only [List.getElem_toArray, List.getElem_cons_succ, List.getElem_cons_zero, Act.put, List.setIfInBounds_toArray, List.set]
      refine wpAny_ready (rs := [7]) (by kernel_rfl) (by simp) (AllReady.cons rfl (fun K hK => ?_) AllReady.nil)
      refine step_append_lies _ rfl _ _ _ rfl 0 42 ip _ 64 64 Tryd.underlying38 hip hp0 hp1 hp2 (by rw [zeros_size]) (by omega) vw what.length _ rfl (h6.rowW.alloc _) ⟨w6.heap.size, 0, none⟩ 1 1 p rfl (by rw [hp.1]) (World.news_of_block (cs := p.toArray) (t := 42) (fr := (0, 0)) (heap_alloc_new w6 _)) hp.2 (by omega) (by unfold maxLen; omega) (by omega) (by omega) (w6.heap.size + 1) (by simp) ?_
      intro gg2 cap2 w8 hown8 hgr8 hat8 hlt8
      refine hK _ _ ?_
      clear hK K
      try simp only [List.getElem_toArray, List.getElem_cons_succ, List.getElem_cons_zero, Act.put, List.setIfInBounds_toArray, List.set]
      obtain ⟨hc8, hf8⟩ := Hst8.out w8 hgr8
      obtain ⟨h9, ho9, hfo9⟩ := h6.putWhat hp h67 hown8 hgr8 (hat8.imp id (fun e => by omega))
      refine wpAny_take (i := 8) (v := .pointer (some ⟨g, 0, none⟩)) rfl (by kernel_rfl) (by kernel_rfl) (by kernel_rfl) (fun _ _ _ h => h) (Or.inl ⟨by rfl, ?_⟩) ?_
      · intro w'; go_simp
      try simp only [List.getElem_toArray, List.getElem_cons_succ, List.getElem_cons_zero, Act.put, List.setIfInBounds_toArray, List.set]
      refine wpAny_take (i := 9) (v := .pointer (some ⟨g, 2, none⟩)) rfl (by kernel_rfl) (by kernel_rfl) (by kernel_rfl) (fun _ _ _ h => h) (Or.inl ⟨by rfl, ?_⟩) ?_
      · intro w'; go_simp
      try simp only [List.getElem_toArray, List.getElem_cons_succ, List.getElem_cons_zero, Act.put, List.setIfInBounds_toArray, List.set]
      refine wpAny_ready (rs := [10]) (by kernel_rfl) (by simp) (AllReady.cons rfl (fun K hK => ?_) AllReady.nil)
      go_simp
      refine hK _ _ ?_
      clear hK K
      try simp only [List.getElem_toArray, List.getElem_cons_succ, List.getElem_cons_zero, Act.put, List.setIfInBounds_toArray, List.set]
      refine wpAny_done (by kernel_rfl) ?_ _
      go_wp2
      go_ret
      exact hfin gg2 cap2 _ h9 ho9 hfo9
    · refine step_wp rfl (wp_build_page _ rfl p hp rfl ?_)
      refine hK _ _ ?_
      clear hK K
      try simp only [List.getElem_toArray, List.getElem_cons_succ, List.getElem_cons_zero, Act.put, List.setIfInBounds_toArray, List.set]
      refine wpAny_ready (rs := [4]) (by kernel_rfl) (by simp) (AllReady.cons rfl (fun K hK => ?_) AllReady.nil)
      refine step_quiet rfl (v := vw) (by have c := ca; go_simp) ?_
      refine hK _ _ ?_
      clear hK K
      try simp only [List.getElem_toArray, List.getElem_cons_succ, List.getElem_cons_zero, Act.put, List.setIfInBounds_toArray, List.set]
      refine wpAny_ready (rs := [7]) (by kernel_rfl) (by simp) (AllReady.cons rfl (fun K hK => ?_) AllReady.nil)
      refine step_append_lies _ rfl _ _ _ rfl 0 42 ip _ 64 64 Tryd.underlying38 hip hp0 hp1 hp2 (by rw [zeros_size]) (by omega) vw what.length _ rfl (h6.rowW.alloc _) ⟨w6.heap.size, 0, none⟩ 1 1 p rfl (by rw [hp.1]) (World.news_of_block (cs := p.toArray) (t := 42) (fr := (0, 0)) (heap_alloc_new w6 _)) hp.2 (by omega) (by unfold maxLen; omega) (by omega) (by omega) (w6.heap.size + 1) (by simp) ?_
      intro gg2 cap2 w8 hown8 hgr8 hat8 hlt8
      refine hK _ _ ?_
      clear hK K
      try simp only [List.getElem_toArray, List.getElem_cons_succ, List.getElem_cons_zero, Act.put, List.setIfInBounds_toArray, List.set]
      obtain ⟨hc8, hf8⟩ := Hst8.out w8 hgr8
      obtain ⟨h9, ho9, hfo9⟩ := h6.putWhat hp h67 hown8 hgr8 (hat8.imp id (fun e => by omega))
      refine wpAny_take (i := 8) (v := .pointer (some ⟨g, 0, none⟩)) rfl (by kernel_rfl) (by kernel_rfl) (by kernel_rfl) (fun _ _ _ h => h) (Or.inl ⟨by rfl, ?_⟩) ?_
      · intro w'; go_simp
      try simp only [List.getElem_toArray, List.getElem_cons_succ, List.getElem_cons_zero, Act.put, List.setIfInBounds_toArray, List.set]
      refine wpAny_take (i := 9) (v := .pointer (some ⟨g, 2, none⟩)) rfl (by kernel_rfl) (by kernel_rfl) (by kernel_rfl) (fun _ _ _ h => h) (Or.inl ⟨by rfl, ?_⟩) ?_
      · intro w'; go_simp
      try simp only [List.getElem_toArray, List.getElem_cons_succ, List.getElem_cons_zero, Act.put, List.setIfInBounds_toArray, List.set]
      refine wpAny_ready (rs := [10]) (by kernel_rfl) (by simp) (AllReady.cons rfl (fun K hK => ?_) AllReady.nil)
      go_simp
      refine hK _ _ ?_
      clear hK K
      try simp only [List.getElem_toArray, List.getElem_cons_succ, List.getElem_cons_zero, Act.put, List.setIfInBounds_toArray, List.set]
      refine wpAny_done (by kernel_rfl) ?_ _
      go_wp2
      go_ret
      exact hfin gg2 cap2 _ h9 ho9 hfo9
end
end Go.Proofs.YtbmpbcnoclhhgaaDoor
