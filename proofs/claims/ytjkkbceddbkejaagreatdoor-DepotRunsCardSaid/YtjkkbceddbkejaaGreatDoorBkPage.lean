/-
  A book: page.
-/
import Derived.Test.YtjkkbceddbkejaaGreatDoorBkAt
import Derived.Test.YtjkkbceddbkejaaGreatDoorBkLatest
set_option linter.unusedSimpArgs false
set_option linter.unusedVariables false
namespace Go.Proofs.YtjkkbceddbkejaaGreatDoor
open Go.RowKit Sh Go.Maps Go.Extern.Stop Go.Stop Go.Extern

def PageP (q : List UInt8) (n : Int) (w : World) (e : Ending) (w' : World) : Prop := ∃ v, e = .returned (.tuple #[pageV q, v]) ∧ ErrV w' n v ∧ Below w.heap.size w w'
theorem pageInfo {q : List UInt8} (h : q.length = 64) : Hid ((Tryz.prog.info? 33).map (·.size) = some (q.map cu8).toArray.size) := by
  have e : (q.map cu8).toArray.size = 64 := by simp [h]
  rw [e]; exact info64
theorem pageZ {q : List UInt8} (h : q.length = 64) : Hid (zeros64.size = (q.map cu8).toArray.size) := by
  have e : (q.map cu8).toArray.size = 64 := by simp [h]
  rw [e]; exact (rfl : zeros64.size = 64)
theorem zerosV : zeros64 = ((List.replicate 64 (0 : UInt8)).map cu8).toArray := by rw [List.map_replicate]; rfl
/-- An error isn't in a block that begins with no string. -/
theorem Chain.other {N r : Nat} {w w' : World} {n : Int} (hr : ∀ s, w.cell? ⟨r, 0, none⟩ ≠ some (.string s)) (hN : N ≤ w.heap.size) (hg : w.grownBy w' (some r)) : ∀ {ss : List ByteArray} {v : Value}, Chain N w n ss v → Chain N w' n ss v
  | [], _, h => h
  | s :: ss, v, h => by
    obtain ⟨b, u, h1, h2, h3, h4, h5⟩ := h
    have hb : b ≠ r := fun e => hr s (by rw [← e]; exact h3)
    have hbl : w'.heap[b]? = w.heap[b]? := hg.block b (by omega) (by simp; exact hb)
    exact ⟨b, u, h1, h2, (World.cell?_of_block (a := ⟨b, 0, none⟩) hbl).trans h3, (World.cell?_of_block (a := ⟨b, 1, none⟩) hbl).trans h4, Chain.other hr hN hg h5⟩
theorem ErrV.other {r : Nat} {w w' : World} {n : Int} {v : Value} (h : ErrV w n v) (hr : ∀ s, w.cell? ⟨r, 0, none⟩ ≠ some (.string s)) (hg : w.grownBy w' (some r)) : ErrV w' n v :=
  h.imp id fun ⟨h0, ss, hC⟩ => ⟨h0, ss, (hC.other hr (Nat.le_refl _) hg).mono hg.size⟩
section
variable {b : Bk} {Fd : Nat → Prop} {gd gr bn bt g : Nat} {w : World}
/-- What the four ways begin with. -/
theorem page_box (h : BkIn b Fd gd gr bn bt g w) : Below w.heap.size w (w.alloc (.cells zeros64 33)) ∧ (w.alloc (.cells zeros64 33)).heap[w.heap.size]? = some (.cells zeros64 33 (0, 0)) ∧ BkIn b Fd gd gr bn bt g (w.alloc (.cells zeros64 33)) := by
  have hb := (Below.refl w.heap.size w).alloc (Nat.le_refl _) (.cells zeros64 33)
  exact ⟨hb, heap_alloc_new _ _, h.below hb⟩
set_option maxRecDepth 100000 in
set_option maxHeartbeats 4000000 in
/-- A broken book. -/
theorem page_broken (h : BkIn b Fd gd gr bn bt g w) (hbr : b.broken = true) (i : Int) : Calls Tryz.prog 109 #[.pointer (some ⟨g, 0, none⟩), .int .i64 i] w (PageP (List.replicate 64 0) 10 w) := by
  obtain ⟨hb1, hr1, h1⟩ := page_box h
  have hs := sound_any h1
  have e10 : errVal (soundN b) = .iface 84 (.int .i64 10) := by unfold soundN; rw [hbr]; rfl
  rw [e10] at hs
  have Hs := Lib.hid hs
  have hq : ∀ W : World, (binOp .neq 30 (.iface 84 (.int .i64 10)) .nilIface).run Tryz.prog W = .ok (.bool true) W := fun W => run_neq_held_nil W 30 _ _ Tryz.methodsError
  obtain ⟨zv, Hz⟩ : ∃ zv : Array Value, Hid (zv = zeros64) := ⟨_, rfl⟩
  have hbz : Hid (Tryz.prog.built 33 [] = some zv) := by rw [Hz.out]; exact built64
  have hal : ∀ w : World, (Instr.alloc 33 true (.tuple #[])).run Tryz.prog w = .ok (.pointer (some ⟨w.heap.size, 0, none⟩)) (w.alloc (.cells zv 33)) := by rw [Hz.out]; exact alloc64
  rw [← Hz.out] at hb1 hr1 Hs
  have hzi : Hid ((Tryz.prog.info? 33).map (·.size) = some zv.size) := by rw [Hz.out, zerosV]; exact pageInfo (by simp)
  have hz1 : Hid (zv.all (·.oneCell') = true) := by rw [Hz.out, zerosV]; exact bytes_one _
  have Hr1 := Lib.hid hr1
  clear h h1 hs e10 hr1
  go_enter Tryz.func109, Tryz.ntmps109
  go_wp2_with (first
    | (refine wpList_alloc_arr rfl 33 rfl _ hal ?_)
    | (go_at_call 49; refine Hs.out.mono ?_; rintro e w' ⟨rfl, rfl⟩)
    | (refine wpList_buildZ 33 rfl zv hbz.out (by rfl) ?_)
    | (refine wpList_store_row rfl 33 _ _ rfl w.heap.size zv rfl rfl 33 zv Hr1.out hzi.out rfl hz1.out ?_))
  have hb2 := below_setRow (g := w.heap.size) hb1 (Nat.le_refl _) zv
  refine bodyPost_ret (v := .tuple #[.agg zv, .iface 84 (.int .i64 10)]) ?_ rfl ⟨_, by rw [Hz.out, zerosV]; rfl, .inr ⟨by decide, [], rfl⟩, hb2⟩
  exact results_cell_row_tmp (ty := 33) rfl _ _ w.heap.size 33 _ (0, 0) _ rfl (setRow_heap _ _ _ _ _ _ Hr1.out) Tryz.underlying33 rfl hzi.out _ rfl
set_option maxRecDepth 100000 in
set_option maxHeartbeats 4000000 in
/-- No such page. -/
theorem page_out (h : BkIn b Fd gd gr bn bt g w) (hbr : b.broken = false) (i : Int) (hi : ¬ (0 ≤ i ∧ i < (b.pages : Int))) : Calls Tryz.prog 109 #[.pointer (some ⟨g, 0, none⟩), .int .i64 i] w (PageP (List.replicate 64 0) 1 w) := by
  obtain ⟨hb1, hr1, h1⟩ := page_box h
  have hs := sound_any h1
  have e10 : errVal (soundN b) = .nilIface := by unfold soundN; rw [hbr]; rfl
  rw [e10] at hs
  have Hs := Lib.hid hs
  have hh := has_any h1 i
  rw [decide_eq_false hi] at hh
  have Hh := Lib.hid hh
  obtain ⟨zv, Hz⟩ : ∃ zv : Array Value, Hid (zv = zeros64) := ⟨_, rfl⟩
  have hbz : Hid (Tryz.prog.built 33 [] = some zv) := by rw [Hz.out]; exact built64
  have hal : ∀ w : World, (Instr.alloc 33 true (.tuple #[])).run Tryz.prog w = .ok (.pointer (some ⟨w.heap.size, 0, none⟩)) (w.alloc (.cells zv 33)) := by rw [Hz.out]; exact alloc64
  rw [← Hz.out] at hb1 hr1 Hs Hh
  have hzi : Hid ((Tryz.prog.info? 33).map (·.size) = some zv.size) := by rw [Hz.out, zerosV]; exact pageInfo (by simp)
  have hz1 : Hid (zv.all (·.oneCell') = true) := by rw [Hz.out, zerosV]; exact bytes_one _
  have Hr1 := Lib.hid hr1
  clear h h1 hs hh e10 hr1
  go_enter Tryz.func109, Tryz.ntmps109
  go_wp2_with (first
    | (refine wpList_alloc_arr rfl 33 rfl _ hal ?_)
    | (go_at_call 49; refine Hs.out.mono ?_; rintro e w' ⟨rfl, rfl⟩)
    | (go_at_call 117; refine Hh.out.mono ?_; rintro e w' ⟨rfl, rfl⟩)
    | (refine wpList_buildZ 33 rfl zv hbz.out (by rfl) ?_)
    | (refine wpList_store_row rfl 33 _ _ rfl w.heap.size zv rfl rfl 33 zv Hr1.out hzi.out rfl hz1.out ?_))
  have hb2 := below_setRow (g := w.heap.size) hb1 (Nat.le_refl _) zv
  refine bodyPost_ret (v := .tuple #[.agg zv, .iface 84 (.int .i64 1)]) ?_ rfl ⟨_, by rw [Hz.out, zerosV]; rfl, .inr ⟨by decide, [], rfl⟩, hb2⟩
  exact results_cell_row_tmp (ty := 33) rfl _ _ w.heap.size 33 _ (0, 0) _ rfl (setRow_heap _ _ _ _ _ _ Hr1.out) Tryz.underlying33 rfl hzi.out _ rfl
set_option maxRecDepth 100000 in
set_option maxHeartbeats 8000000 in
/-- A page that there is. -/
theorem page_in (h : BkIn b Fd gd gr bn bt g w) (hO : b.Ok) (hbr : b.broken = false) (i : Nat) (hi : i < b.pages) : Calls Tryz.prog 109 #[.pointer (some ⟨g, 0, none⟩), .int .i64 i] w (PageP (pageOf b i).1 (pageOf b i).2 w) := by
  obtain ⟨hb1, hr1, h1⟩ := page_box h
  have hs := sound_any h1
  have e10 : errVal (soundN b) = .nilIface := by unfold soundN; rw [hbr]; rfl
  rw [e10] at hs
  have Hs := Lib.hid hs
  have hh := has_any h1 (i : Int)
  rw [decide_eq_true (show 0 ≤ (i : Int) ∧ (i : Int) < (b.pages : Int) from ⟨by omega, by omega⟩)] at hh
  have Hh := Lib.hid hh
  have hp2048 : b.pages ≤ 2048 := Nat.min_le_right _ _
  obtain ⟨zv, Hz⟩ : ∃ zv : Array Value, Hid (zv = zeros64) := ⟨_, rfl⟩
  have hal : ∀ w : World, (Instr.alloc 33 true (.tuple #[])).run Tryz.prog w = .ok (.pointer (some ⟨w.heap.size, 0, none⟩)) (w.alloc (.cells zv 33)) := by rw [Hz.out]; exact alloc64
  have hpage : pageOf b i = match getM b.txn i with
    | some p => (p, 0)
    | none => match getM b.news i with
      | some p => (p, 0)
      | none => (bytesOf (readOf b.S (2 + b.n + i)).1, (readOf b.S (2 + b.n + i)).2) := by
    unfold pageOf
    rw [hbr, if_neg (by simp), if_neg (by omega), Int.toNat_natCast]
    rfl
  rw [← Hz.out] at hb1 hr1 Hs Hh h1
  -- what the transaction has of it
  obtain ⟨q1, hq1⟩ : ∃ q1, (getM b.txn i).getD z64p = q1 := ⟨_, rfl⟩
  have hq1l : q1.length = 64 := by
    rw [← hq1]
    cases hg : getM b.txn i with
    | none => simp [z64p]
    | some p => exact (hO.txnW _ (mem_of_getM hg)).2
  have hk1 : ∃ k1, (getM b.txn i).isSome = k1 := ⟨_, rfl⟩
  obtain ⟨k1, Hk1⟩ := hk1
  have Hk1 := Lib.hid Hk1
  obtain ⟨qv1, Hqv1⟩ : ∃ qv1 : List Value, Hid (qv1 = q1.map cu8) := ⟨_, rfl⟩
  have hv1 : Hid (.agg qv1.toArray = pageV ((getM b.txn i).getD z64p)) := by rw [hq1, Hqv1.out]; exact rfl
  have hi1 : Hid ((Tryz.prog.info? 33).map (·.size) = some qv1.toArray.size) := by rw [Hqv1.out]; exact pageInfo hq1l
  have hz1 : Hid (zv.size = qv1.toArray.size) := by rw [Hqv1.out, Hz.out]; exact pageZ hq1l
  have ho1 : Hid (qv1.toArray.all (·.oneCell') = true) := by rw [Hqv1.out]; exact bytes_one _
  have hi0 : i < 9223372036854775807 := by omega
  obtain ⟨c0, c1, c2, c3, c4, c5, c6, c7⟩ := h1.cells
  have H1 := Lib.hid h1; have Hr1 := Lib.hid hr1; have Hb1 := Lib.hid hb1
  clear hs hh e10 h1 hr1 hb1 c0 c1 c2 c3 c4 c5 c7
  go_enter Tryz.func109, Tryz.ntmps109
  go_upto_region 7 with (first
    | (refine wpList_alloc_arr rfl 33 rfl _ hal ?_)
    | (go_at_call 49; refine Hs.out.mono ?_; rintro e w' ⟨rfl, rfl⟩)
    | (go_at_call 117; refine Hh.out.mono ?_; rintro e w' ⟨rfl, rfl⟩)
    | (at_lookup; refine wpList_look_page rfl _ _ rfl H1.out.txn i hi0 rfl rfl _ hv1 k1 Hk1 ?_)
    | (refine wpList_store_new rfl 33 _ _ rfl (w.alloc (.cells zv 33)).heap.size rfl qv1.toArray rfl rfl 33 _ hi1.out hz1.out ho1.out ?_))
  have hb2 : Below (w.alloc (.cells zv 33)).heap.size (w.alloc (.cells zv 33)) ((w.alloc (.cells zv 33)).alloc (.cells qv1.toArray 33)) := (Below.refl _ _).alloc (Nat.le_refl _) _
  have hx2 : ((w.alloc (.cells zv 33)).alloc (.cells qv1.toArray 33)).heap[(w.alloc (.cells zv 33)).heap.size]? = some (.cells qv1.toArray 33 (0, 0)) := heap_alloc_new _ _
  have h2 := H1.out.below hb2
  have hr2 := (hb2.block w.heap.size (by simp)).trans Hr1.out
  have hbel2 := Hb1.out.trans (hb2.mono Hb1.out.size)
  clear Hs Hh H1 Hr1 Hb1 c6
  rw [World.size_alloc] at hx2
  generalize (w.alloc (.cells zv 33)).alloc (.cells qv1.toArray 33) = w2 at hb2 hx2 h2 hr2 hbel2 ⊢
  obtain ⟨x1, hx1⟩ : ∃ x1, w.heap.size + 1 = x1 := ⟨_, rfl⟩
  rw [hx1] at hx2 ⊢
  obtain ⟨r, hr⟩ : ∃ r, w.heap.size = r := ⟨_, rfl⟩
  rw [hr] at hr2 hbel2 ⊢
  have Hr := Lib.hid hr
  clear hx1 hr hb2
  cases k1 with
  | true =>
    obtain ⟨p, hp⟩ : ∃ p, getM b.txn i = some p := Option.isSome_iff_exists.1 Hk1.out
    have hq : pageOf b i = (q1, 0) := by rw [hpage, hp]; rw [hp] at hq1; simp only [Option.getD_some] at hq1; rw [hq1]
    have Hq := Lib.hid hq
    have hrl : r < w2.heap.size := (Array.getElem?_eq_some_iff.1 hr2).1
    clear hpage hp hq1 h2 h hv1 Hk1
    go_wp2_with (first
      | (refine wpList_load_row rfl 33 _ rfl x1 rfl 33 qv1.toArray (0, 0) _ hx2 Tryz.underlying33 rfl hi1.out ?_)
      | (refine wpList_store_row rfl 33 _ _ rfl r qv1.toArray rfl rfl 33 zv hr2 hi1.out hz1.out ho1.out ?_))
    refine bodyPost_ret (v := .tuple #[.agg qv1.toArray, .nilIface]) ?_ rfl ⟨.nilIface, by rw [Hq.out, Hqv1.out]; rfl, by rw [Hq.out]; exact ErrV.nil, by rw [Hr.out]; exact below_setRow hbel2 (Nat.le_refl _) _⟩
    exact results_cell_row_tmp (ty := 33) rfl _ _ r 33 _ (0, 0) _ rfl (setRow_heap _ _ _ _ _ _ hr2) Tryz.underlying33 rfl hi1.out _ rfl
  | false =>
    have hnone : getM b.txn i = none := by
      have := Hk1.out
      cases hg : getM b.txn i with
      | none => rfl
      | some p => rw [hg] at this; cases this
    rw [hnone] at hpage
    obtain ⟨q2, hq2⟩ : ∃ q2, (getM b.news i).getD z64p = q2 := ⟨_, rfl⟩
    have hq2l : q2.length = 64 := by
      rw [← hq2]
      cases hg : getM b.news i with
      | none => simp [z64p]
      | some p => exact (hO.newsW _ (mem_of_getM hg)).2
    obtain ⟨k2, hk2⟩ : ∃ k2, (getM b.news i).isSome = k2 := ⟨_, rfl⟩
    have Hk2 := Lib.hid hk2
    obtain ⟨qv2, Hqv2⟩ : ∃ qv2 : List Value, Hid (qv2 = q2.map cu8) := ⟨_, rfl⟩
    have hv2 : Hid (.agg qv2.toArray = pageV ((getM b.news i).getD z64p)) := by rw [hq2, Hqv2.out]; exact rfl
    have hi2 : Hid ((Tryz.prog.info? 33).map (·.size) = some qv2.toArray.size) := by rw [Hqv2.out]; exact pageInfo hq2l
    have hz2 : Hid (zeros64.size = qv2.toArray.size) := by rw [Hqv2.out]; exact pageZ hq2l
    have ho2 : Hid (qv2.toArray.all (·.oneCell') = true) := by rw [Hqv2.out]; exact bytes_one _
    have hz2' : Hid (zv.size = qv2.toArray.size) := by rw [Hz.out]; exact hz2
    obtain ⟨c0, c1, c2, c3, c4, c5, c6, c7⟩ := h2.cells
    have H2 := Lib.hid h2; have Hr2 := Lib.hid hr2; have Hb2 := Lib.hid hbel2
    have hrl : r < w2.heap.size := (Array.getElem?_eq_some_iff.1 hr2).1
    clear h2 hr2 hbel2 hx2 hnone hk2 c0 c1 c2 c3 c4 c6 c7 hv1 hi1 hz1 ho1 Hk1 hq1
    go_upto_region 10 with (first
      | (refine wpList_alloc_arr rfl 33 rfl _ hal ?_)
      | (at_lookup; refine wpList_look_page rfl _ _ rfl H2.out.news i hi0 rfl rfl _ hv2 k2 Hk2 ?_)
      | (refine wpList_store_new rfl 33 _ _ rfl w2.heap.size rfl qv2.toArray rfl rfl 33 _ hi2.out hz2'.out ho2.out ?_))
    have hb3 : Below w2.heap.size w2 (w2.alloc (.cells qv2.toArray 33)) := (Below.refl _ _).alloc (Nat.le_refl _) _
    have hx3 : (w2.alloc (.cells qv2.toArray 33)).heap[w2.heap.size]? = some (.cells qv2.toArray 33 (0, 0)) := heap_alloc_new _ _
    have h3 := H2.out.below hb3
    have hr3 := (hb3.block r hrl).trans Hr2.out
    have hbel3 := Hb2.out.trans (hb3.mono (by omega))
    clear H2 Hr2 Hb2 c5
    generalize w2.alloc (.cells qv2.toArray 33) = w3 at hb3 hx3 h3 hr3 hbel3 ⊢
    obtain ⟨x2, hx2⟩ : ∃ x2, w2.heap.size = x2 := ⟨_, rfl⟩
    rw [hx2] at hx3 ⊢
    clear hx2 hb3 hrl
    cases k2 with
    | true =>
      obtain ⟨p, hp⟩ : ∃ p, getM b.news i = some p := Option.isSome_iff_exists.1 Hk2.out
      have hq : pageOf b i = (q2, 0) := by rw [hpage, hp]; rw [hp] at hq2; simp only [Option.getD_some] at hq2; rw [hq2]
      have Hq := Lib.hid hq
      clear hpage hp hq2 h3 h hv2 Hk2 hz2
      go_wp2_with (first
        | (refine wpList_load_row rfl 33 _ rfl x2 rfl 33 qv2.toArray (0, 0) _ hx3 Tryz.underlying33 rfl hi2.out ?_)
        | (refine wpList_store_row rfl 33 _ _ rfl r qv2.toArray rfl rfl 33 zv hr3 hi2.out hz2'.out ho2.out ?_))
      refine bodyPost_ret (v := .tuple #[.agg qv2.toArray, .nilIface]) ?_ rfl ⟨.nilIface, by rw [Hq.out, Hqv2.out]; rfl, by rw [Hq.out]; exact ErrV.nil, by rw [Hr.out]; exact below_setRow hbel3 (Nat.le_refl _) _⟩
      exact results_cell_row_tmp (ty := 33) rfl _ _ r 33 _ (0, 0) _ rfl (setRow_heap _ _ _ _ _ _ hr3) Tryz.underlying33 rfl hi2.out _ rfl
    | false =>
      have hnone : getM b.news i = none := by
        have := Hk2.out
        cases hg : getM b.news i with
        | none => rfl
        | some p => rw [hg] at this; cases this
      rw [hnone] at hpage
      obtain ⟨P, hP⟩ : ∃ P : List Value, (readOf b.S (2 + b.n + i)).1 = P := ⟨_, rfl⟩
      obtain ⟨N, hN⟩ : ∃ N : Int, (readOf b.S (2 + b.n + i)).2 = N := ⟨_, rfl⟩
      have hPb : BP P := by
        rw [← hP]
        unfold readOf readN
        split
        · rw [List.getD_eq_getElem?_getD]
          cases hg : b.S.newest[(2 + (b.n : Int) + i).toNat]? with
          | none => exact zero_bytes
          | some p => exact flushS_mem _ _ _ hO.byt.1 hO.byt.2 _ (List.mem_of_getElem? hg)
        · exact zero_bytes
      have Hq : Hid (pageOf b i = (bytesOf P, N)) := by rw [hP, hN] at hpage; exact hpage
      have HPv : Hid (pageV (bytesOf P) = .agg P.toArray) := by unfold pageV; rw [hPb.bytes.1]; exact rfl
      have hle := hO.le; have hroom := hO.room; have hhome := hO.home hi
      obtain ⟨f, hf⟩ : ∃ f : Nat, 2 + b.n = f := ⟨_, rfl⟩
      have wadd : IntKind.i64.wrap ((f : Int) + (i : Int)) = ((f + i : Nat) : Int) := by rw [IntWalk.i64_in _ (by omega)]; omega
      have Hrd := Lib.hid (fun W (hW : Below w3.heap.size w3 W) => show Calls Tryz.prog 111 #[.pointer (some ⟨gd, 0, none⟩), .int .i64 ((f + i : Nat) : Int)] W (PReadPost P N W) by
        have := pd_read (h3.below hW).disk ((f + i : Nat) : Int)
        rw [show ((f + i : Nat) : Int) = 2 + b.n + i by omega, hP, hN] at this
        rw [show ((f + i : Nat) : Int) = 2 + b.n + i by omega]
        exact this)
      have Hc := Lib.hid (fun W (hW : Below w3.heap.size w3 W) => show W.cell? ⟨g, 0, none⟩ = some (.pointer (some ⟨gd, 0, none⟩)) ∧ W.cell? ⟨g, 2, none⟩ = some (.int .i64 f) by
        obtain ⟨c0, c1, c2, _⟩ := (h3.below hW).cells
        rw [hf] at c2
        exact ⟨c0, c2⟩)
      have hPi : Hid ((Tryz.prog.info? 33).map (·.size) = some P.toArray.size) := by
        have e : P.toArray.size = 64 := by rw [List.size_toArray]; exact hPb.page.1
        rw [e]; exact info64
      have hPz : Hid (zv.size = P.toArray.size) := by
        have e : P.toArray.size = 64 := by rw [List.size_toArray]; exact hPb.page.1
        rw [e, Hz.out]; exact (rfl : zeros64.size = 64)
      have hP1 : Hid (P.toArray.all (·.oneCell') = true) := all_oneCell_toArray hPb.page.2
      have hrl : r < w3.heap.size := (Array.getElem?_eq_some_iff.1 hr3).1
      clear hpage hnone hP hN hf h3 h hx3 hv2 hi2 hz2 hz2' ho2 Hk2 hq2 hhome
      go_upto_region 12 with (fail)
      refine wp_region_up 13 (fun w' => Below w3.heap.size w3 w') (by kernel_rfl) ?_
      have hb4 : Below w3.heap.size w3 { w3 with drawn := w3.drawn + 1 } := ⟨rfl, rfl, rfl, Nat.le_refl _, fun _ _ => rfl⟩
      obtain ⟨wd, hdr⟩ : ∃ wd : World, ({ w3 with drawn := w3.drawn + 1 } : World) = wd := ⟨_, rfl⟩
      rw [hdr] at hb4 ⊢
      clear hdr
      refine up_take (i := 0) (v := .pointer (some ⟨g, 0, none⟩)) rfl (by kernel_rfl) (by kernel_rfl) (fun _ _ _ h => h) (Or.inl ⟨by rfl, ?_⟩) hb4 ?_
      · intro w' _; go_simp
      try simp only [List.getElem_toArray, List.getElem_cons_succ, List.getElem_cons_zero, Act.put, List.setIfInBounds_toArray, List.set]
      refine up_take (i := 1) (v := .pointer (some ⟨g, 0, none⟩)) rfl (by kernel_rfl) (by kernel_rfl) (fun _ _ _ h => h) (Or.inl ⟨by rfl, ?_⟩) hb4 ?_
      · intro w' _; go_simp
      try simp only [List.getElem_toArray, List.getElem_cons_succ, List.getElem_cons_zero, Act.put, List.setIfInBounds_toArray, List.set]
      refine up_take (i := 2) (v := .pointer (some ⟨g, 0, none⟩)) rfl (by kernel_rfl) (by kernel_rfl) (fun _ _ _ h => h) (Or.inl ⟨by rfl, ?_⟩) hb4 ?_
      · intro w' _; go_simp
      try simp only [List.getElem_toArray, List.getElem_cons_succ, List.getElem_cons_zero, Act.put, List.setIfInBounds_toArray, List.set]
      refine up_take (i := 3) (v := .pointer (some ⟨gd, 0, none⟩)) rfl (by kernel_rfl) (by kernel_rfl) (fun _ _ _ h => h) (Or.inl ⟨by rfl, ?_⟩) hb4 ?_
      · intro w' hS'
        obtain ⟨d0, d2⟩ := Hc.out w' hS'
        clear hS'
        go_simp
      try simp only [List.getElem_toArray, List.getElem_cons_succ, List.getElem_cons_zero, Act.put, List.setIfInBounds_toArray, List.set]
      refine up_take (i := 4) (v := .pointer (some ⟨g, 0, none⟩)) rfl (by kernel_rfl) (by kernel_rfl) (fun _ _ _ h => h) (Or.inl ⟨by rfl, ?_⟩) hb4 ?_
      · intro w' _; go_simp
      try simp only [List.getElem_toArray, List.getElem_cons_succ, List.getElem_cons_zero, Act.put, List.setIfInBounds_toArray, List.set]
      refine up_take (i := 5) (v := .pointer (some ⟨g, 0, none⟩)) rfl (by kernel_rfl) (by kernel_rfl) (fun _ _ _ h => h) (Or.inl ⟨by rfl, ?_⟩) hb4 ?_
      · intro w' _; go_simp
      try simp only [List.getElem_toArray, List.getElem_cons_succ, List.getElem_cons_zero, Act.put, List.setIfInBounds_toArray, List.set]
      refine up_take (i := 6) (v := .pointer (some ⟨g, 2, none⟩)) rfl (by kernel_rfl) (by kernel_rfl) (fun _ _ _ h => h) (Or.inl ⟨by rfl, ?_⟩) hb4 ?_
      · intro w' _; go_simp
      try simp only [List.getElem_toArray, List.getElem_cons_succ, List.getElem_cons_zero, Act.put, List.setIfInBounds_toArray, List.set]
      refine up_take (i := 7) (v := .int .i64 f) rfl (by kernel_rfl) (by kernel_rfl) (fun _ _ _ h => h) (Or.inl ⟨by rfl, ?_⟩) hb4 ?_
      · intro w' hS'
        obtain ⟨d0, d2⟩ := Hc.out w' hS'
        clear hS'
        go_simp
      try simp only [List.getElem_toArray, List.getElem_cons_succ, List.getElem_cons_zero, Act.put, List.setIfInBounds_toArray, List.set]
      refine up_take (i := 8) (v := .int .i64 i) rfl (by kernel_rfl) (by kernel_rfl) (fun _ _ _ h => h) (Or.inl ⟨by rfl, ?_⟩) hb4 ?_
      · intro w' _; go_simp
      try simp only [List.getElem_toArray, List.getElem_cons_succ, List.getElem_cons_zero, Act.put, List.setIfInBounds_toArray, List.set]
      refine up_take (i := 9) (v := .int .i64 ((f + i : Nat) : Int)) rfl (by kernel_rfl) (by kernel_rfl) (fun _ _ _ h => h) (Or.inl ⟨by rfl, ?_⟩) hb4 ?_
      · intro w' _; go_simp
      try simp only [List.getElem_toArray, List.getElem_cons_succ, List.getElem_cons_zero, Act.put, List.setIfInBounds_toArray, List.set]
      refine up_one 10 _ rfl (by kernel_rfl) (by decide) (by rfl) (fun K hK => ?_)
      go_simp
      refine (Hrd.out _ hb4).mono ?_
      rintro e w5 ⟨ev, rfl, hE5, hq⟩
      have hb5 := hb4.trans (hq.mono hb4.size)
      refine hK _ _ hb5 ?_
      clear hK K
      try simp only [List.getElem_toArray, List.getElem_cons_succ, List.getElem_cons_zero, Act.put, List.setIfInBounds_toArray, List.set]
      clear hq
      refine up_take (i := 11) (v := .agg P.toArray) rfl (by kernel_rfl) (by kernel_rfl) (fun _ _ _ h => h) (Or.inl ⟨by rfl, ?_⟩) hb5 ?_
      · intro w' _; go_simp
      try simp only [List.getElem_toArray, List.getElem_cons_succ, List.getElem_cons_zero, Act.put, List.setIfInBounds_toArray, List.set]
      refine up_take (i := 12) (v := ev) rfl (by kernel_rfl) (by kernel_rfl) (fun _ _ _ h => h) (Or.inl ⟨by rfl, ?_⟩) hb5 ?_
      · intro w' _; go_simp
      try simp only [List.getElem_toArray, List.getElem_cons_succ, List.getElem_cons_zero, Act.put, List.setIfInBounds_toArray, List.set]
      refine up_tail ?_
      refine up_last 13 _ rfl (by kernel_rfl) (by decide) (by rfl) (fun K hK => ?_)
      refine wp_store_whole 33 _ _ rfl r P.toArray rfl rfl zv 33 ((hb5.block r hrl).trans hr3) hPi.out hPz.out hP1.out ?_
      intro w6 Hs6 Hg6
      refine hK _ _ ?_
      clear hK K
      try simp only [List.getElem_toArray, List.getElem_cons_succ, List.getElem_cons_zero, Act.put, List.setIfInBounds_toArray, List.set]
      refine up_last 14 _ rfl (by kernel_rfl) (by decide) (by rfl) (fun K hK => ?_)
      go_simp
      refine hK _ _ ?_
      clear hK K
      try simp only [List.getElem_toArray, List.getElem_cons_succ, List.getElem_cons_zero, Act.put, List.setIfInBounds_toArray, List.set]
      refine up_done (by kernel_rfl) ?_ _
      have hr6 := Hs6.out
      have hbel6 : Below r w w6 := below_of_grown (hbel3.trans (hb5.mono (by omega))) Hg6.out (by have := hb5.size; have := hbel3.size; have := Hr.out; omega) (Nat.le_refl _)
      have hE6 : ErrV w6 N ev := hE5.other (r := r) (fun s => by
        rw [cell_of_row w5 r 0 _ _ _ ((hb5.block r hrl).trans hr3), Hz.out, zerosV]
        simp [cu8]) Hg6.out
      clear Hs6 Hg6 hE5 hb5 hb4 hbel3 hr3
      go_wp2
      refine bodyPost_ret (v := .tuple #[.agg P.toArray, ev]) ?_ rfl ⟨ev, by rw [Hq.out, HPv.out], by rw [Hq.out]; exact hE6, by rw [Hr.out]; exact hbel6⟩
      exact results_cell_row_tmp (ty := 33) rfl _ _ r 33 _ (0, 0) _ rfl hr6 Tryz.underlying33 rfl hPi.out _ rfl
end
end Go.Proofs.YtjkkbceddbkejaaGreatDoor
