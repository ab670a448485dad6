/-
  A book: write, Write; Read.
-/
import Derived.Test.YtjkkbceddbkejaaGreatDoorBkCommit
set_option linter.unusedSimpArgs false
set_option linter.unusedVariables false
namespace Go.Proofs.YtjkkbceddbkejaaGreatDoor
open Go.RowKit Sh Go.Maps Go.Extern.Stop Go.Stop Go.Extern

section
variable {Fd Fd' : Nat → Prop} {gd gr bn bt g : Nat} {w wr w' : World} {b : Bk}
set_option maxRecDepth 100000 in
set_option maxHeartbeats 16000000 in
/-- write. -/
theorem write_in (h : BkIn b Fd gd gr bn bt g w) (hO : b.Ok) (i : Int) (p : List UInt8) (hp : p.length = 64) : Calls Tryz.prog 102 #[.pointer (some ⟨g, 0, none⟩), .int .i64 i, pageV p] w (BkT (bwriteOf b i p).1 (bwriteOf b i p).2 Fd gd gr bn bt g w) := by
  obtain ⟨pv, Hpv⟩ : ∃ pv : List Value, Hid (pv = p.map cu8) := ⟨_, rfl⟩
  have hpV : pageV p = .agg pv.toArray := by rw [Hpv.out]; rfl
  rw [hpV]
  have hpl : pv.length = 64 := by rw [Hpv.out, List.length_map, hp]
  have hpi : Hid ((Tryz.prog.info? 33).map (·.size) = some pv.toArray.size) := by rw [Hpv.out]; exact pageInfo hp
  have hb1 : Below w.heap.size w (w.alloc (.cells pv.toArray 33)) := (Below.refl _ _).alloc (Nat.le_refl _) _
  have hx1 : (w.alloc (.cells pv.toArray 33)).heap[w.heap.size]? = some (.cells pv.toArray 33 (0, 0)) := heap_alloc_new w _
  have hB1 := (Br.start h).below hb1
  have Hpg := Lib.hid (page_any hB1.inn hO i)
  have hql := page_len hO i
  have Hp := Lib.hid (show (pageOf b i).2 = 0 → b.broken = false ∧ 0 ≤ i ∧ i < (b.pages : Int) from page_zero)
  obtain ⟨q, hq⟩ : ∃ q, (pageOf b i).1 = q := ⟨_, rfl⟩
  obtain ⟨n, hn⟩ : ∃ n, (pageOf b i).2 = n := ⟨_, rfl⟩
  have hbw : bwriteOf b i p = if n ≠ 0 then (b, n) else if (getM b.txn i.toNat).isSome then ({ b with txn := putM b.txn i.toNat p }, 0) else if q = p then (b, 0) else if 60 ≤ b.txn.length then (b, 11) else ({ b with txn := putM b.txn i.toNat p }, 0) := by
    unfold bwriteOf; rw [hn, hq]
  rw [hq, hn] at Hpg
  rw [hq] at hql
  rw [hn] at Hp
  have Hbw := Lib.hid hbw; have HO := Lib.hid hO
  clear hbw hn hq h hpV hpl
  go_enter Tryz.func102, Tryz.ntmps102
  go_wp2_with (first | (go_at_call 109; refine Hpg.out.mono ?_))
  generalize w.alloc (.cells pv.toArray 33) = w1 at hb1 hx1 hB1 Hpg ⊢
  obtain ⟨x, hx⟩ : ∃ x, w.heap.size = x := ⟨_, rfl⟩
  rw [hx] at hx1 ⊢
  have Hx := Lib.hid hx
  rintro e w2 ⟨v2, rfl, hE2, hb2⟩
  have hB2 := hB1.below hb2
  have hx2 := (hb2.block x (Array.getElem?_eq_some_iff.1 hx1).1).trans hx1
  obtain ⟨qv, Hqv⟩ : ∃ qv : List Value, Hid (qv = q.map cu8) := ⟨_, rfl⟩
  have hqV : pageV q = .agg qv.toArray := by rw [Hqv.out]; rfl
  rw [hqV]
  have hqi : Hid ((Tryz.prog.info? 33).map (·.size) = some qv.toArray.size) := by rw [Hqv.out]; exact pageInfo hql
  have hqz : Hid (zeros64.size = qv.toArray.size) := by rw [Hqv.out]; exact pageZ hql
  have hq1 : Hid (qv.toArray.all (·.oneCell') = true) := by rw [Hqv.out]; exact bytes_one _
  clear hx Hpg hB1 hx1 hb1 hqV
  go_upto_region 2 with (first
    | (refine wpList_alloc_arr rfl 33 rfl _ alloc64 ?_)
    | (refine wpList_store_new rfl 33 _ _ rfl w2.heap.size rfl qv.toArray rfl rfl 33 _ hqi.out hqz.out hq1.out ?_))
  have hb3 : Below w2.heap.size w2 (w2.alloc (.cells qv.toArray 33)) := (Below.refl _ _).alloc (Nat.le_refl _) _
  have hy3 : (w2.alloc (.cells qv.toArray 33)).heap[w2.heap.size]? = some (.cells qv.toArray 33 (0, 0)) := heap_alloc_new w2 _
  have hB3 := hB2.below hb3
  have hx3 := (hb3.block x (Array.getElem?_eq_some_iff.1 hx2).1).trans hx2
  have hE3 := hE2.below hb3
  generalize w2.alloc (.cells qv.toArray 33) = w3 at hb3 hy3 hB3 hx3 hE3 ⊢
  obtain ⟨y, hy⟩ : ∃ y, w2.heap.size = y := ⟨_, rfl⟩
  rw [hy] at hy3 ⊢
  clear hy hb3 hB2 hx2 hE2 hb2 hqz hq1
  by_cases n0 : n = 0
  case neg =>
    obtain ⟨t, z, rfl⟩ := hE3.held n0
    have hq := neq_held t z
    have Hfin := Lib.hid (show BkT (bwriteOf b i p).1 (bwriteOf b i p).2 Fd gd gr bn bt g w (.returned (.iface t z)) w3 from ⟨_, Fd, rfl, by rw [Hbw.out, if_pos n0]; exact hE3, by rw [Hbw.out, if_pos n0]; exact hB3⟩)
    clear hE3 hB3 n0 hx3 hy3
    go_wp2
    go_ret
    exact Hfin.out
  subst n0
  obtain rfl := ErrV.zero hE3
  obtain ⟨hbr, hi0, hi1⟩ := Hp.out rfl
  obtain ⟨j, rfl⟩ : ∃ j : Nat, i = (j : Int) := ⟨i.toNat, by omega⟩
  rw [Int.toNat_natCast, if_neg (by simp)] at Hbw
  have hj : j < b.pages := by omega
  have hp2048 : b.pages ≤ 2048 := Nat.min_le_right _ _
  have hj0 : j < 9223372036854775807 := by omega
  -- is it under way?
  obtain ⟨q1, hq1⟩ : ∃ q1, (getM b.txn j).getD z64p = q1 := ⟨_, rfl⟩
  have hq1l : q1.length = 64 := by
    rw [← hq1]
    cases hg : getM b.txn j with
    | none => simp [z64p]
    | some p => exact (HO.out.txnW _ (mem_of_getM hg)).2
  obtain ⟨k1, hk1⟩ : ∃ k1, (getM b.txn j).isSome = k1 := ⟨_, rfl⟩
  have Hk1 := Lib.hid hk1
  rw [hk1] at Hbw
  obtain ⟨qv1, Hqv1⟩ : ∃ qv1 : List Value, Hid (qv1 = q1.map cu8) := ⟨_, rfl⟩
  have hv1 : Hid (.agg qv1.toArray = pageV ((getM b.txn j).getD z64p)) := by rw [hq1, Hqv1.out]; exact rfl
  have hi1' : Hid ((Tryz.prog.info? 33).map (·.size) = some qv1.toArray.size) := by rw [Hqv1.out]; exact pageInfo hq1l
  have hz1 : Hid (zeros64.size = qv1.toArray.size) := by rw [Hqv1.out]; exact pageZ hq1l
  have ho1 : Hid (qv1.toArray.all (·.oneCell') = true) := by rw [Hqv1.out]; exact bytes_one _
  obtain ⟨c0, c1, c2, c3, c4, c5, c6, c7⟩ := hB3.inn.cells
  have HB3 := Lib.hid hB3
  clear hE3 hk1 hq1 hi0 hi1 c0 c1 c2 c3 c4 c5 c7 hB3
  go_upto_region 5 with (first
    | (refine wpList_alloc_arr rfl 33 rfl _ alloc64 ?_)
    | (at_lookup; refine wpList_look_page rfl _ _ rfl HB3.out.inn.txn j hj0 rfl rfl _ hv1 k1 Hk1 ?_)
    | (refine wpList_store_new rfl 33 _ _ rfl w3.heap.size rfl qv1.toArray rfl rfl 33 _ hi1'.out hz1.out ho1.out ?_))
  have hb4 : Below w3.heap.size w3 (w3.alloc (.cells qv1.toArray 33)) := (Below.refl _ _).alloc (Nat.le_refl _) _
  have hB4 := HB3.out.below hb4
  have hx4 := (hb4.block x (Array.getElem?_eq_some_iff.1 hx3).1).trans hx3
  have hy4 := (hb4.block y (Array.getElem?_eq_some_iff.1 hy3).1).trans hy3
  generalize w3.alloc (.cells qv1.toArray 33) = w4 at hb4 hB4 hx4 hy4 ⊢
  generalize w3.heap.size = z4
  clear hb4 HB3 hx3 hy3 c6 hv1 hi1' hz1 ho1
  have hpV2 : Hid (.agg pv.toArray = pageV p) := by rw [Hpv.out]; exact rfl
  have htl : b.txn.length ≤ 60 := HO.out.txn60
  cases k1 with
  | true =>
    rw [if_pos rfl] at Hbw
    clear hy4
    go_upto_region 10 with (fail)
    have hxl : x < w4.heap.size := (Array.getElem?_eq_some_iff.1 hx4).1
    have hpi2 : Hid ((Tryz.prog.info? 33).map (·.size) = some pv.length) := by have := hpi.out; rwa [List.size_toArray] at this
    have HL := Lib.hid (fun W (hW : Below w4.heap.size w4 W) => run_loadAt_mid (P := Tryz.prog) W x 0 33 pv _ (fun j v hj => by rw [Nat.zero_add, cell_of_row W x j _ _ _ ((hW.block x hxl).trans hx4)]; simpa using hj) Tryz.underlying33 rfl hpi2.out)
    have Hc := Lib.hid (fun W (hW : Below w4.heap.size w4 W) => show W.cell? ⟨g, 6, none⟩ = some (.map (some bt)) by
      obtain ⟨c0, c1, c2, c3, c4, c5, c6, c7⟩ := (hB4.below hW).inn.cells
      exact c6)
    refine wp_region_up 6 (fun w' => Below w4.heap.size w4 w') (by kernel_rfl) ?_
    have hb5 : Below w4.heap.size w4 { w4 with drawn := w4.drawn + 1 } := ⟨rfl, rfl, rfl, Nat.le_refl _, fun _ _ => rfl⟩
    obtain ⟨wd, hdr⟩ : ∃ wd : World, ({ w4 with drawn := w4.drawn + 1 } : World) = wd := ⟨_, rfl⟩
    rw [hdr] at hb5 ⊢
    have hB5 := hB4.below hb5
    clear hdr
    refine up_take (i := 0) (v := .pointer (some ⟨g, 0, none⟩)) rfl (by kernel_rfl) (by kernel_rfl) (fun _ _ _ h => h) (Or.inl ⟨by rfl, ?_⟩) hb5 ?_
    · intro w' _; go_simp
    try simp only [List.getElem_toArray, List.getElem_cons_succ, List.getElem_cons_zero, Act.put, List.setIfInBounds_toArray, List.set]
    refine up_take (i := 1) (v := .pointer (some ⟨g, 0, none⟩)) rfl (by kernel_rfl) (by kernel_rfl) (fun _ _ _ h => h) (Or.inl ⟨by rfl, ?_⟩) hb5 ?_
    · intro w' _; go_simp
    try simp only [List.getElem_toArray, List.getElem_cons_succ, List.getElem_cons_zero, Act.put, List.setIfInBounds_toArray, List.set]
    refine up_take (i := 2) (v := .pointer (some ⟨g, 6, none⟩)) rfl (by kernel_rfl) (by kernel_rfl) (fun _ _ _ h => h) (Or.inl ⟨by rfl, ?_⟩) hb5 ?_
    · intro w' _; go_simp
    try simp only [List.getElem_toArray, List.getElem_cons_succ, List.getElem_cons_zero, Act.put, List.setIfInBounds_toArray, List.set]
    refine up_take (i := 3) (v := .map (some bt)) rfl (by kernel_rfl) (by kernel_rfl) (fun _ _ _ h => h) (Or.inl ⟨by rfl, ?_⟩) hb5 ?_
    · intro w' hS'
      have d6 := Hc.out w' hS'
      clear hS'
      go_simp
    try simp only [List.getElem_toArray, List.getElem_cons_succ, List.getElem_cons_zero, Act.put, List.setIfInBounds_toArray, List.set]
    refine up_take (i := 4) (v := .int .i64 j) rfl (by kernel_rfl) (by kernel_rfl) (fun _ _ _ h => h) (Or.inl ⟨by rfl, ?_⟩) hb5 ?_
    · intro w' _; go_simp
    try simp only [List.getElem_toArray, List.getElem_cons_succ, List.getElem_cons_zero, Act.put, List.setIfInBounds_toArray, List.set]
    refine up_take (i := 5) (v := .agg pv.toArray) rfl (by kernel_rfl) (by kernel_rfl) (fun _ _ _ h => h) (Or.inl ⟨by rfl, ?_⟩) hb5 ?_
    · intro w' hS'; exact exec_load _ _ 33 _ rfl x 0 rfl _ (HL.out w' hS')
    try simp only [List.getElem_toArray, List.getElem_cons_succ, List.getElem_cons_zero, Act.put, List.setIfInBounds_toArray, List.set]
    refine up_tail ?_
    refine up_last 6 _ rfl (by kernel_rfl) (by decide) (by rfl) (fun K hK => ?_)
    refine wp_store_page _ _ _ rfl hB5.inn.txn (by show b.txn.length < maxLen; unfold maxLen; omega) j hj0 p hp rfl rfl _ hpV2 rfl ?_
    intro w6 Hm6 Hg6
    refine hK _ _ ?_
    clear hK K
    try simp only [List.getElem_toArray, List.getElem_cons_succ, List.getElem_cons_zero, Act.put, List.setIfInBounds_toArray, List.set]
    refine up_done (by kernel_rfl) ?_ _
    have hB6 := hB5.txn Hm6.out Hg6.out
    have Hfin := Lib.hid (show BkT (bwriteOf b j p).1 (bwriteOf b j p).2 Fd gd gr bn bt g w (.returned .nilIface) w6 from ⟨_, Fd, rfl, by rw [Hbw.out]; exact ErrV.nil, by rw [Hbw.out]; exact hB6⟩)
    clear hB6 Hm6 Hg6 hB5 hb5 HL Hc hB4 hx4
    go_wp2
    go_ret
    exact Hfin.out
  | false =>
    rw [if_neg (by simp)] at Hbw
    obtain ⟨bb, Hbb⟩ : ∃ bb : Bool, Hid (bb = decide (q = p)) := ⟨_, rfl⟩
    have heq : ∀ W : World, (Op.equalIn 10000 33 (.agg qv.toArray) (.agg pv.toArray)).run Tryz.prog W = .ok bb W := fun W => by
      rw [Hpv.out, Hqv.out, Hbb.out]; exact eqIn64 q p hql hp W
    go_upto_region 6 with (fail)
    cases bb with
    | true =>
      have hqp : q = p := by simpa using Hbb.out.symm
      rw [if_pos hqp] at Hbw
      have Hfin := Lib.hid (show BkT (bwriteOf b j p).1 (bwriteOf b j p).2 Fd gd gr bn bt g w (.returned .nilIface) w4 from ⟨_, Fd, rfl, by rw [Hbw.out]; exact ErrV.nil, by rw [Hbw.out]; exact hB4⟩)
      clear hB4 hqp
      go_wp2_with (first
        | (refine wpList_load_row rfl 33 _ rfl y rfl 33 qv.toArray (0, 0) _ hy4 Tryz.underlying33 rfl hqi.out ?_)
        | (refine wpList_load_row rfl 33 _ rfl x rfl 33 pv.toArray (0, 0) _ hx4 Tryz.underlying33 rfl hpi.out ?_))
      go_ret
      exact Hfin.out
    | false =>
      have hqp : ¬ q = p := by simpa using Hbb.out.symm
      rw [if_neg hqp] at Hbw
      obtain ⟨c0, c1, c2, c3, c4, c5, c6, c7⟩ := hB4.inn.cells
      have hlen := fun ty => hB4.inn.txn.len ty
      obtain ⟨T, hT⟩ : ∃ T, b.txn.length = T := ⟨_, rfl⟩
      rw [hT] at hlen Hbw
      have HT := Lib.hid hT
      clear hqp c0 c1 c2 c3 c4 c5 c7 hT
      by_cases h60 : 60 ≤ T
      · rw [if_pos h60] at Hbw
        have h60' : (60 : Int) ≤ T := by omega
        have Hfin := Lib.hid (show BkT (bwriteOf b j p).1 (bwriteOf b j p).2 Fd gd gr bn bt g w (.returned (.iface 84 (.int .i64 11))) w4 from ⟨_, Fd, rfl, by rw [Hbw.out]; exact .inr ⟨(by show (11 : Int) ≠ 0; decide), [], rfl⟩, by rw [Hbw.out]; exact hB4⟩)
        clear hB4
        go_wp2_with (first
          | (refine wpList_load_row rfl 33 _ rfl y rfl 33 qv.toArray (0, 0) _ hy4 Tryz.underlying33 rfl hqi.out ?_)
          | (refine wpList_load_row rfl 33 _ rfl x rfl 33 pv.toArray (0, 0) _ hx4 Tryz.underlying33 rfl hpi.out ?_))
        go_ret
        exact Hfin.out
      · rw [if_neg h60] at Hbw
        have h60' : ¬ (60 : Int) ≤ T := by omega
        go_upto_region 10 with (first
          | (refine wpList_load_row rfl 33 _ rfl y rfl 33 qv.toArray (0, 0) _ hy4 Tryz.underlying33 rfl hqi.out ?_)
          | (refine wpList_load_row rfl 33 _ rfl x rfl 33 pv.toArray (0, 0) _ hx4 Tryz.underlying33 rfl hpi.out ?_))
        clear hy4 hlen c6 heq h60'
        have hxl : x < w4.heap.size := (Array.getElem?_eq_some_iff.1 hx4).1
        have hpi2 : Hid ((Tryz.prog.info? 33).map (·.size) = some pv.length) := by have := hpi.out; rwa [List.size_toArray] at this
        have HL := Lib.hid (fun W (hW : Below w4.heap.size w4 W) => run_loadAt_mid (P := Tryz.prog) W x 0 33 pv _ (fun j v hj => by rw [Nat.zero_add, cell_of_row W x j _ _ _ ((hW.block x hxl).trans hx4)]; simpa using hj) Tryz.underlying33 rfl hpi2.out)
        have Hc := Lib.hid (fun W (hW : Below w4.heap.size w4 W) => show W.cell? ⟨g, 6, none⟩ = some (.map (some bt)) by
          obtain ⟨c0, c1, c2, c3, c4, c5, c6, c7⟩ := (hB4.below hW).inn.cells
          exact c6)
        refine wp_region_up 6 (fun w' => Below w4.heap.size w4 w') (by kernel_rfl) ?_
        have hb5 : Below w4.heap.size w4 { w4 with drawn := w4.drawn + 1 } := ⟨rfl, rfl, rfl, Nat.le_refl _, fun _ _ => rfl⟩
        obtain ⟨wd, hdr⟩ : ∃ wd : World, ({ w4 with drawn := w4.drawn + 1 } : World) = wd := ⟨_, rfl⟩
        rw [hdr] at hb5 ⊢
        have hB5 := hB4.below hb5
        clear hdr
        refine up_take (i := 0) (v := .pointer (some ⟨g, 0, none⟩)) rfl (by kernel_rfl) (by kernel_rfl) (fun _ _ _ h => h) (Or.inl ⟨by rfl, ?_⟩) hb5 ?_
        · intro w' _; go_simp
        try simp only [List.getElem_toArray, List.getElem_cons_succ, List.getElem_cons_zero, Act.put, List.setIfInBounds_toArray, List.set]
        refine up_take (i := 1) (v := .pointer (some ⟨g, 0, none⟩)) rfl (by kernel_rfl) (by kernel_rfl) (fun _ _ _ h => h) (Or.inl ⟨by rfl, ?_⟩) hb5 ?_
        · intro w' _; go_simp
        try simp only [List.getElem_toArray, List.getElem_cons_succ, List.getElem_cons_zero, Act.put, List.setIfInBounds_toArray, List.set]
        refine up_take (i := 2) (v := .pointer (some ⟨g, 6, none⟩)) rfl (by kernel_rfl) (by kernel_rfl) (fun _ _ _ h => h) (Or.inl ⟨by rfl, ?_⟩) hb5 ?_
        · intro w' _; go_simp
        try simp only [List.getElem_toArray, List.getElem_cons_succ, List.getElem_cons_zero, Act.put, List.setIfInBounds_toArray, List.set]
        refine up_take (i := 3) (v := .map (some bt)) rfl (by kernel_rfl) (by kernel_rfl) (fun _ _ _ h => h) (Or.inl ⟨by rfl, ?_⟩) hb5 ?_
        · intro w' hS'
          have d6 := Hc.out w' hS'
          clear hS'
          go_simp
        try simp only [List.getElem_toArray, List.getElem_cons_succ, List.getElem_cons_zero, Act.put, List.setIfInBounds_toArray, List.set]
        refine up_take (i := 4) (v := .int .i64 j) rfl (by kernel_rfl) (by kernel_rfl) (fun _ _ _ h => h) (Or.inl ⟨by rfl, ?_⟩) hb5 ?_
        · intro w' _; go_simp
        try simp only [List.getElem_toArray, List.getElem_cons_succ, List.getElem_cons_zero, Act.put, List.setIfInBounds_toArray, List.set]
        refine up_take (i := 5) (v := .agg pv.toArray) rfl (by kernel_rfl) (by kernel_rfl) (fun _ _ _ h => h) (Or.inl ⟨by rfl, ?_⟩) hb5 ?_
        · intro w' hS'; exact exec_load _ _ 33 _ rfl x 0 rfl _ (HL.out w' hS')
        try simp only [List.getElem_toArray, List.getElem_cons_succ, List.getElem_cons_zero, Act.put, List.setIfInBounds_toArray, List.set]
        refine up_tail ?_
        refine up_last 6 _ rfl (by kernel_rfl) (by decide) (by rfl) (fun K hK => ?_)
        refine wp_store_page _ _ _ rfl hB5.inn.txn (by show b.txn.length < maxLen; unfold maxLen; omega) j hj0 p hp rfl rfl _ hpV2 rfl ?_
        intro w6 Hm6 Hg6
        refine hK _ _ ?_
        clear hK K
        try simp only [List.getElem_toArray, List.getElem_cons_succ, List.getElem_cons_zero, Act.put, List.setIfInBounds_toArray, List.set]
        refine up_done (by kernel_rfl) ?_ _
        have hB6 := hB5.txn Hm6.out Hg6.out
        have Hfin := Lib.hid (show BkT (bwriteOf b j p).1 (bwriteOf b j p).2 Fd gd gr bn bt g w (.returned .nilIface) w6 from ⟨_, Fd, rfl, by rw [Hbw.out]; exact ErrV.nil, by rw [Hbw.out]; exact hB6⟩)
        clear hB6 Hm6 Hg6 hB5 hb5 HL Hc hB4 hx4
        go_wp2
        go_ret
        exact Hfin.out
set_option maxRecDepth 100000 in
set_option maxHeartbeats 4000000 in
/-- Write. -/
theorem Write_in (h : BkIn b Fd gd gr bn bt g w) (hO : b.Ok) (i : Int) (p : List UInt8) (hp : p.length = 64) : Calls Tryz.prog 70 #[.pointer (some ⟨g, 0, none⟩), .int .i64 i, pageV p] w (BkT (bwriteOf b i p).1 (bwriteOf b i p).2 Fd gd gr bn bt g w) := by
  obtain ⟨pv, Hpv⟩ : ∃ pv : List Value, Hid (pv = p.map cu8) := ⟨_, rfl⟩
  have hpV : pageV p = .agg pv.toArray := by rw [Hpv.out]; rfl
  have hpi : Hid ((Tryz.prog.info? 33).map (·.size) = some pv.toArray.size) := by rw [Hpv.out]; exact pageInfo hp
  have hb1 : Below w.heap.size w (w.alloc (.cells pv.toArray 33)) := (Below.refl _ _).alloc (Nat.le_refl _) _
  have hx1 : (w.alloc (.cells pv.toArray 33)).heap[w.heap.size]? = some (.cells pv.toArray 33 (0, 0)) := heap_alloc_new w _
  have Hw := Lib.hid (write_in (h.below hb1) hO i p hp)
  rw [hpV] at Hw ⊢
  obtain ⟨r, hr⟩ : ∃ r, bwriteOf b i p = r := ⟨_, rfl⟩
  rw [hr] at Hw ⊢
  have HB := Lib.hid ((Br.start h).below hb1)
  clear h hO hr hpV
  go_enter Tryz.func70, Tryz.ntmps70
  go_wp2_with (first
    | (refine wpList_load_row rfl 33 _ rfl w.heap.size rfl 33 pv.toArray (0, 0) _ hx1 Tryz.underlying33 rfl hpi.out ?_)
    | (go_at_call 102; refine Hw.out.mono ?_))
  rintro e w1 ⟨v, F, rfl, hE, hB⟩
  have hB' : Br Fd gd gr bn bt g w r.1 F w1 := ⟨hB.inn, HB.out.only.trans hB.only (fun k hk => .inl hk), fun k hk => (hB.new k hk).elim .inl (fun h => .inr (Nat.le_trans HB.out.only.size h))⟩
  have Hi := Lib.hid (in_err ⟨#[112, 97, 103, 101, 115, 46, 87, 114, 105, 116, 101]⟩ _ v w1 hE)
  have HB1 := Lib.hid hB'
  clear hE hB hB' Hw HB hx1
  go_wp2_with (first | (go_at_call 35; refine Hi.out.mono ?_))
  rintro e w2 ⟨v2, rfl, hE2, hb2⟩
  have Hfin := Lib.hid (show BkT r.1 r.2 Fd gd gr bn bt g w (.returned v2) w2 from ⟨v2, F, rfl, hE2, HB1.out.below hb2⟩)
  clear hE2 hb2 HB1 Hi
  go_wp2
  go_ret
  exact Hfin.out
set_option maxRecDepth 100000 in
set_option maxHeartbeats 8000000 in
/-- Read. -/
theorem Read_in (h : BkIn b Fd gd gr bn bt g w) (hO : b.Ok) (i : Int) : Calls Tryz.prog 78 #[.pointer (some ⟨g, 0, none⟩), .int .i64 i] w (PageP (pageOf b i).1 (pageOf b i).2 w) := by
  obtain ⟨hb1, hr1, h1⟩ := page_box h
  have hpg := page_any h1 hO i
  have hql := page_len hO i
  obtain ⟨q, hq⟩ : ∃ q, (pageOf b i).1 = q := ⟨_, rfl⟩
  obtain ⟨n, hn⟩ : ∃ n, (pageOf b i).2 = n := ⟨_, rfl⟩
  rw [hq, hn] at hpg ⊢
  rw [hq] at hql
  obtain ⟨zv, Hz⟩ : ∃ zv : Array Value, Hid (zv = zeros64) := ⟨_, rfl⟩
  have hal : ∀ w : World, (Instr.alloc 33 true (.tuple #[])).run Tryz.prog w = .ok (.pointer (some ⟨w.heap.size, 0, none⟩)) (w.alloc (.cells zv 33)) := by rw [Hz.out]; exact alloc64
  rw [← Hz.out] at hb1 hr1 hpg
  have Hpg := Lib.hid hpg
  obtain ⟨qv, Hqv⟩ : ∃ qv : List Value, Hid (qv = q.map cu8) := ⟨_, rfl⟩
  have hqV : pageV q = .agg qv.toArray := by rw [Hqv.out]; rfl
  have hqi : Hid ((Tryz.prog.info? 33).map (·.size) = some qv.toArray.size) := by rw [Hqv.out]; exact pageInfo hql
  have hqz : Hid (zv.size = qv.toArray.size) := by rw [Hqv.out, Hz.out]; exact pageZ hql
  have hq1 : Hid (qv.toArray.all (·.oneCell') = true) := by rw [Hqv.out]; exact bytes_one _
  clear h h1 hO hpg hq hn
  go_enter Tryz.func78, Tryz.ntmps78
  go_wp2_with (first
    | (refine wpList_alloc_arr rfl 33 rfl _ hal ?_)
    | (go_at_call 109; refine Hpg.out.mono ?_))
  generalize w.alloc (.cells zv 33) = w1 at hb1 hr1 Hpg ⊢
  obtain ⟨r, hr⟩ : ∃ r, w.heap.size = r := ⟨_, rfl⟩
  rw [hr] at hr1 hb1 ⊢
  have Hr := Lib.hid hr
  rintro e w2 ⟨v2, rfl, hE2, hb2⟩
  rw [hqV]
  have hrl1 : r < w1.heap.size := (Array.getElem?_eq_some_iff.1 hr1).1
  have hr2 := (hb2.block r hrl1).trans hr1
  have hbel2 := hb1.trans (hb2.mono (by omega))
  clear hr Hpg hr1 hb1
  go_upto_region 2 with (first
    | (refine wpList_alloc_arr rfl 33 rfl _ hal ?_)
    | (refine wpList_store_new rfl 33 _ _ rfl w2.heap.size rfl qv.toArray rfl rfl 33 _ hqi.out hqz.out hq1.out ?_))
  have hrl2 : r < w2.heap.size := (Array.getElem?_eq_some_iff.1 hr2).1
  have hb3 : Below w2.heap.size w2 (w2.alloc (.cells qv.toArray 33)) := (Below.refl _ _).alloc (Nat.le_refl _) _
  have hy3 : (w2.alloc (.cells qv.toArray 33)).heap[w2.heap.size]? = some (.cells qv.toArray 33 (0, 0)) := heap_alloc_new w2 _
  have hr3 := (hb3.block r hrl2).trans hr2
  have hE3 := hE2.below hb3
  have hbel3 := hbel2.trans (hb3.mono (by omega))
  generalize w2.alloc (.cells qv.toArray 33) = w3 at hb3 hy3 hr3 hE3 hbel3 ⊢
  obtain ⟨y, hy⟩ : ∃ y, w2.heap.size = y := ⟨_, rfl⟩
  rw [hy] at hy3 ⊢
  clear hy hb3 hr2 hE2 hb2 hbel2 hrl2 hrl1
  have hyl : y < w3.heap.size := (Array.getElem?_eq_some_iff.1 hy3).1
  have hrl3 : r < w3.heap.size := (Array.getElem?_eq_some_iff.1 hr3).1
  have hqi2 : Hid ((Tryz.prog.info? 33).map (·.size) = some qv.length) := by have := hqi.out; rwa [List.size_toArray] at this
  have HL := Lib.hid (fun W (hW : Below w3.heap.size w3 W) => run_loadAt_mid (P := Tryz.prog) W y 0 33 qv _ (fun j v hj => by rw [Nat.zero_add, cell_of_row W y j _ _ _ ((hW.block y hyl).trans hy3)]; simpa using hj) Tryz.underlying33 rfl hqi2.out)
  have Hin := Lib.hid (fun W (hW : Below w3.heap.size w3 W) => in_err ⟨#[112, 97, 103, 101, 115, 46, 82, 101, 97, 100]⟩ n v2 W (hE3.below hW))
  refine wp_region_up 3 (fun w' => Below w3.heap.size w3 w') (by kernel_rfl) ?_
  have hb4 : Below w3.heap.size w3 { w3 with drawn := w3.drawn + 1 } := ⟨rfl, rfl, rfl, Nat.le_refl _, fun _ _ => rfl⟩
  obtain ⟨wd, hdr⟩ : ∃ wd : World, ({ w3 with drawn := w3.drawn + 1 } : World) = wd := ⟨_, rfl⟩
  rw [hdr] at hb4 ⊢
  clear hdr
  refine up_take (i := 0) (v := .agg qv.toArray) rfl (by kernel_rfl) (by kernel_rfl) (fun _ _ _ h => h) (Or.inl ⟨by rfl, ?_⟩) hb4 ?_
  · intro w' hS'; exact exec_load _ _ 33 _ rfl y 0 rfl _ (HL.out w' hS')
  try simp only [List.getElem_toArray, List.getElem_cons_succ, List.getElem_cons_zero, Act.put, List.setIfInBounds_toArray, List.set]
  refine up_take (i := 1) (v := v2) rfl (by kernel_rfl) (by kernel_rfl) (fun _ _ _ h => h) (Or.inl ⟨by rfl, ?_⟩) hb4 ?_
  · intro w' _; go_simp
  try simp only [List.getElem_toArray, List.getElem_cons_succ, List.getElem_cons_zero, Act.put, List.setIfInBounds_toArray, List.set]
  refine up_one 2 _ rfl (by kernel_rfl) (by decide) (by rfl) (fun K hK => ?_)
  go_simp
  refine (Hin.out _ hb4).mono ?_
  rintro e w5 ⟨v5, rfl, hE5, hq⟩
  have hb5 := hb4.trans (hq.mono hb4.size)
  refine hK _ _ hb5 ?_
  clear hK K
  try simp only [List.getElem_toArray, List.getElem_cons_succ, List.getElem_cons_zero, Act.put, List.setIfInBounds_toArray, List.set]
  clear hq
  refine up_tail ?_
  refine up_last 3 _ rfl (by kernel_rfl) (by decide) (by rfl) (fun K hK => ?_)
  refine wp_store_whole 33 _ _ rfl r qv.toArray rfl rfl zv 33 ((hb5.block r hrl3).trans hr3) hqi.out hqz.out hq1.out ?_
  intro w6 Hs6 Hg6
  refine hK _ _ ?_
  clear hK K
  try simp only [List.getElem_toArray, List.getElem_cons_succ, List.getElem_cons_zero, Act.put, List.setIfInBounds_toArray, List.set]
  refine up_last 4 _ rfl (by kernel_rfl) (by decide) (by rfl) (fun K hK => ?_)
  go_simp
  refine hK _ _ ?_
  clear hK K
  try simp only [List.getElem_toArray, List.getElem_cons_succ, List.getElem_cons_zero, Act.put, List.setIfInBounds_toArray, List.set]
  refine up_done (by kernel_rfl) ?_ _
  have hr6 := Hs6.out
  have hbel6 : Below r w w6 := below_of_grown (hbel3.trans (hb5.mono (by omega))) Hg6.out (by have := hb5.size; have := hbel3.size; have := Hr.out; omega) (Nat.le_refl _)
  have hE6 : ErrV w6 n v5 := hE5.other (r := r) (fun s => by
    rw [cell_of_row w5 r 0 _ _ _ ((hb5.block r hrl3).trans hr3), Hz.out, zerosV]
    simp [cu8]) Hg6.out
  clear Hs6 Hg6 hE5 hb5 hb4 hbel3 hr3
  go_wp2
  refine bodyPost_ret (v := .tuple #[.agg qv.toArray, v5]) ?_ rfl ⟨v5, by rw [hqV], hE6, by rw [Hr.out]; exact hbel6⟩
  exact results_cell_row_tmp (ty := 33) rfl _ _ r 33 _ (0, 0) _ rfl hr6 Tryz.underlying33 rfl hqi.out _ rfl
end
end Go.Proofs.YtjkkbceddbkejaaGreatDoor
