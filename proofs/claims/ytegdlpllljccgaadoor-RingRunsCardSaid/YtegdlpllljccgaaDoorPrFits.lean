/-
  The program's ring: Fits, Head, Cut.
-/
import Derived.Test.YtegdlpllljccgaaDoorPrAt
set_option linter.unusedSimpArgs false
set_option linter.unusedVariables false
namespace Go.Proofs.YtegdlpllljccgaaDoor
open Go.RowKit Sh

theorem wpList_buildZ {ops : Array Oper} {Q : Exit → Act → World → Prop} {a : Act} {w : World} {o : Oper} {rest : List Oper} (T : TypeId) (ho : o.op = .build T #[]) (p : Array Value)
    (hb : Tryd.prog.built T [] = some p) (hw : Region.wanted o (yielded ops a.tmps) = true) (h : wpList Tryd.prog ops Q rest (a.put o.dst (.agg p)) w) : wpList Tryd.prog ops Q (o :: rest) a w := by
  refine wpList_val hw (exec_build w ho ?_) h
  have e : ((#[] : Array (Nat × Operand)).map fun (i, x) => (i, a.eval x)).toList = [] := by simp
  rw [e]; exact hb
def fitsB (room k : Nat) : Bool := decide (1 ≤ k ∧ k ≤ 60 ∧ takes k ≤ room)
theorem fitsB_iff (room k : Nat) : fitsB room k = true ↔ 1 ≤ k ∧ k ≤ 60 ∧ takes k ≤ room := by simp [fitsB]
theorem fits_of {v : Value} {b c : Bool} {w w' : World} {e : Ending} (h : QuietP (.bool c) w e w') (hbc : c = b) : QuietP (.bool b) w e w' := hbc ▸ h
set_option maxRecDepth 100000 in
set_option maxHeartbeats 1000000 in
/-- Fits, of any ring whose Room answers so. -/
theorem fits_room (p : Value) (R k : Nat) (hR : R ≤ 4096) (hk : k ≤ 4096) (w : World) (hroom : ∀ W : World, W = w → Calls Tryd.prog 26 #[p] W (QuietP (.int .i64 (R : Int)) W)) :
    Calls Tryd.prog 20 #[p, .int .i64 k] w (QuietP (.bool (fitsB R k)) w) := by
  by_cases h1 : 1 ≤ k
  · by_cases h60 : k ≤ 60
    · obtain ⟨T, hT⟩ : ∃ T, takes k = T := ⟨_, rfl⟩
      have hsz := psize_any k hk w
      rw [hT] at hsz
      by_cases hf : T ≤ R
      · have hb : fitsB R k = true := (fitsB_iff R k).2 ⟨h1, h60, by rw [hT]; exact hf⟩
        rw [hb]
        have hd : decide ((T : Int) ≤ (R : Int)) = true := by simpa using hf
        clear hT
        go_enter Tryd.func20, Tryd.ntmps20
        go_wp2_with (first
          | (go_at_call 44; refine hsz.mono ?_; rintro e w' ⟨rfl, rfl⟩)
          | (go_at_call 26; refine (hroom _ rfl).mono ?_; rintro e w' ⟨rfl, m, rfl⟩))
        go_ret
        exact ⟨rfl, m, rfl⟩
      · have hb : fitsB R k = false := by
          cases hc : fitsB R k
          · rfl
          · exact absurd ((fitsB_iff R k).1 hc).2.2 (by rw [hT]; exact hf)
        rw [hb]
        have hd : decide ((T : Int) ≤ (R : Int)) = false := by simpa using hf
        clear hT
        go_enter Tryd.func20, Tryd.ntmps20
        go_wp2_with (first
          | (go_at_call 44; refine hsz.mono ?_; rintro e w' ⟨rfl, rfl⟩)
          | (go_at_call 26; refine (hroom _ rfl).mono ?_; rintro e w' ⟨rfl, m, rfl⟩))
        go_ret
        exact ⟨rfl, m, rfl⟩
    · have hb : fitsB R k = false := by simp [fitsB, h60]
      rw [hb]
      go_enter Tryd.func20, Tryd.ntmps20
      go_wp2
      go_ret
      exact ⟨rfl, 0, rfl⟩
  · have hb : fitsB R k = false := by simp [fitsB, h1]
    rw [hb]
    go_enter Tryd.func20, Tryd.ntmps20
    go_wp2
    go_ret
    exact ⟨rfl, 0, rfl⟩
section
variable {g gd first n used : Nat} {m : Mk} {w w' : World}
theorem fits_any (h : PrAt g gd first n m used w) (hO : RingOk first n m used) (k : Nat) (hk : k ≤ 4096) : Calls Tryd.prog 20 #[.pointer (some ⟨g, 0, none⟩), .int .i64 k] w (QuietP (.bool (fitsB (n - used) k)) w) :=
  fits_room _ (n - used) k (by have := hO.n1; omega) hk w (fun W hW => by rw [hW]; exact room_any h hO)
theorem fits_nil (k : Nat) (hk : k ≤ 4096) (w : World) : Calls Tryd.prog 20 #[.pointer none, .int .i64 k] w (QuietP (.bool false) w) := by
  have := fits_room (.pointer none) 0 k (by omega) hk w (fun W _ => room_nil W)
  have e : fitsB 0 k = false := by
    cases hc : fitsB 0 k
    · rfl
    · have := ((fitsB_iff 0 k).1 hc).2.2
      have := takes_pos k
      omega
  rw [e] at this
  exact this

def zMark : List Value := markCells ⟨0, 0, List.replicate 32 0⟩
theorem zMark_len : zMark.length = 34 := rfl
theorem allocMark (w : World) : (Instr.alloc 25 true (.tuple #[])).run Tryd.prog w = .ok (.pointer (some ⟨w.heap.size, 0, none⟩)) (w.alloc (.cells zMark.toArray 25)) := by kernel_rfl
theorem infoPMark : (Tryd.prog.info? 25).map (·.size) = some 34 := by kernel_rfl
theorem builtPMark : Tryd.prog.built 25 [] = some zMark.toArray := by kernel_rfl
set_option maxRecDepth 100000 in
set_option maxHeartbeats 1000000 in
/-- Head. -/
theorem head_any (h : PrAt g gd first n m used w) : Calls Tryd.prog 25 #[.pointer (some ⟨g, 0, none⟩)] w (AggPost (fun r => r = (markCells m).toArray) w) := by
  have hb1 := (Below.refl w.heap.size w).alloc (Nat.le_refl _) (.cells zMark.toArray 25)
  have hr := (h.below hb1).mark
  obtain ⟨hl, Hl⟩ : ∃ hl : List Value, Hid (hl = markCells m) := ⟨_, rfl⟩
  have hln : hl.length = 34 := by rw [Hl.out]; simp [markCells, h.last]
  rw [← Hl.out] at hr ⊢
  have hvn : Hid (hl.toArray.size = 34) := by rw [List.size_toArray]; exact hln
  have hv1 : Hid (hl.toArray.all (·.oneCell') = true) := by rw [Hl.out]; exact all_oneCell_toArray (mark_one m)
  have hi : Hid ((Tryd.prog.info? 25).map (·.size) = some hl.toArray.size) := by rw [hvn.out]; exact infoPMark
  have hi' : Hid ((Tryd.prog.info? 25).map (·.size) = some hl.length) := by rw [hln]; exact infoPMark
  have hz : Hid (zMark.toArray.size = hl.toArray.size) := by rw [hvn.out]; exact (rfl : zMark.toArray.size = 34)
  have Hr := Lib.hid hr
  clear hr hln
  go_enter Tryd.func25, Tryd.ntmps25
  go_wp2_with (first
    | (refine wpList_alloc_arr rfl 25 rfl _ allocMark ?_)
    | (refine wpList_load_mid rfl 25 _ rfl g 3 rfl hl _ Hr.out Tryd.underlying25 rfl hi'.out ?_)
    | (refine wpList_store_new rfl 25 _ _ rfl w.heap.size rfl hl.toArray rfl rfl 25 _ hi.out hz.out hv1.out ?_))
  refine bodyPost_ret (v := .agg hl.toArray) ?_ rfl ⟨hl.toArray, rfl, rfl, (Below.refl _ _).alloc (Nat.le_refl _) _⟩
  exact results_cell_row (ty := 25) rfl _ _ w.heap.size 25 _ (0, 0) _ rfl (heap_alloc_new _ _) Tryd.underlying25 rfl hi.out
set_option maxRecDepth 100000 in
set_option maxHeartbeats 1000000 in
theorem head_nil (w : World) : Calls Tryd.prog 25 #[.pointer none] w (AggPost (fun r => r = zMark.toArray) w) := by
  obtain ⟨hl, Hl⟩ : ∃ hl : List Value, Hid (hl = zMark) := ⟨_, rfl⟩
  have hln : hl.length = 34 := by rw [Hl.out]; rfl
  rw [← Hl.out]
  have hvn : Hid (hl.toArray.size = 34) := by rw [List.size_toArray]; exact hln
  have hv1 : Hid (hl.toArray.all (·.oneCell') = true) := by rw [Hl.out]; exact all_oneCell_toArray (mark_one _)
  have hi : Hid ((Tryd.prog.info? 25).map (·.size) = some hl.toArray.size) := by rw [hvn.out]; exact infoPMark
  have hz : Hid (zMark.toArray.size = hl.toArray.size) := by rw [hvn.out]; exact (rfl : zMark.toArray.size = 34)
  have hbu : Hid (Tryd.prog.built 25 [] = some hl.toArray) := by rw [Hl.out]; exact builtPMark
  clear hln
  go_enter Tryd.func25, Tryd.ntmps25
  go_wp2_with (first
    | (refine wpList_alloc_arr rfl 25 rfl _ allocMark ?_)
    | (refine wpList_buildZ 25 rfl hl.toArray hbu.out (by rfl) ?_)
    | (refine wpList_store_new rfl 25 _ _ rfl w.heap.size rfl hl.toArray rfl rfl 25 _ hi.out hz.out hv1.out ?_))
  refine bodyPost_ret (v := .agg hl.toArray) ?_ rfl ⟨hl.toArray, rfl, rfl, (Below.refl _ _).alloc (Nat.le_refl _) _⟩
  exact results_cell_row (ty := 25) rfl _ _ w.heap.size 25 _ (0, 0) _ rfl (heap_alloc_new _ _) Tryd.underlying25 rfl hi.out

theorem splice_last (gd first n : Nat) (m : Mk) (used : Nat) (d : List UInt8) (h : m.last.length = 32) (h2 : d.length = 32) :
    (splice (ringCells gd first n m used).toList 5 (d.map cu8)).toArray = ringCells gd first n ⟨m.place, m.num, d⟩ used := by
  simp only [splice, ringCells]
  simp [h2, h]
theorem PrAt.setUsed (h : PrAt g gd first n m used w) (u : Nat) : PrAt g gd first n m u (w.setCell ⟨g, 37, none⟩ (.int .i64 u)) := by
  refine ⟨?_, h.last⟩
  rw [← set_ring gd first n m used u h.last]
  simp [World.setCell, Array.getElem?_modify, h.at_]
def TurnP (g gd first n : Nat) (m : Mk) (used : Nat) (w : World) (e : Ending) (w' : World) : Prop := e = .returned (.tuple #[]) ∧ PrAt g gd first n m used w' ∧ Only (fun j => j = g) w w'
theorem cut_nil (dv : List Value) (w : World) : Calls Tryd.prog 27 #[.pointer none, .agg dv.toArray] w fun e w' => e = .returned (.tuple #[]) ∧ Below w.heap.size w w' := by
  have hb1 := (Below.refl w.heap.size w).alloc (Nat.le_refl _) (.cells dv.toArray 23)
  go_enter Tryd.func27, Tryd.ntmps27
  go_wp2
  first | go_end0 | refine bodyPost_ret (v := .tuple #[]) (results_none rfl _ _ _) rfl ?_
  exact ⟨rfl, hb1⟩
set_option maxRecDepth 100000 in
set_option maxHeartbeats 1000000 in
/-- Cut. -/
theorem cut_any (h : PrAt g gd first n m used w) (d : List UInt8) (hd : d.length = 32) : Calls Tryd.prog 27 #[.pointer (some ⟨g, 0, none⟩), .agg (d.map cu8).toArray] w (TurnP g gd first n ⟨m.place, m.num, d⟩ 0 w) := by
  obtain ⟨dv, Hdv⟩ : ∃ dv : List Value, Hid (dv = d.map cu8) := ⟨_, rfl⟩
  have hdl : dv.length = 32 := by rw [Hdv.out]; simp [hd]
  rw [← Hdv.out]
  have hb1 := (Below.refl w.heap.size w).alloc (Nat.le_refl _) (.cells dv.toArray 23)
  have hbox : (w.alloc (.cells dv.toArray 23)).heap[w.heap.size]? = some (.cells dv.toArray 23 (0, 0)) := heap_alloc_new w _
  have hS := h.below hb1
  have hi : Hid ((Tryd.prog.info? 23).map (·.size) = some dv.toArray.size) := by rw [List.size_toArray, hdl]; exact (by kernel_rfl : (Tryd.prog.info? 23).map (·.size) = some 32)
  have hcells : Hid ((w.alloc (.cells dv.toArray 23)).heap[g]? = some (.cells (ringCells gd first n m used).toList.toArray 98 (0, 0))) := hS.at_
  have hlen : (ringCells gd first n m used).toList.length = 38 := by simp [ringCells, h.last]
  have hsp := Lib.hid (splice_last gd first n m used d h.last hd)
  rw [← Hdv.out] at hsp
  obtain ⟨rc, hrc⟩ : ∃ rc, (ringCells gd first n m used).toList = rc := ⟨_, rfl⟩
  rw [hrc] at hcells hlen hsp
  have hfit : Hid (5 + dv.toArray.size ≤ rc.length) := by show 5 + dv.toArray.size ≤ rc.length; rw [List.size_toArray]; omega
  have hone : Hid (∀ v ∈ dv.toArray.toList, v.oneCell' = true) := fun v hv => by rw [Hdv.out] at hv; obtain ⟨x, _, rfl⟩ := List.mem_map.1 (by simpa using hv); rfl
  have hgl := h.lt
  have Hbox := Lib.hid hbox; have Hb1 := Lib.hid hb1
  clear hrc hlen hdl hbox hS hb1
  go_enter Tryd.func27, Tryd.ntmps27
  go_wp2_with (first
    | (refine wpList_load_row rfl 23 _ rfl w.heap.size rfl 23 dv.toArray (0, 0) _ Hbox.out Tryd.underlying23 rfl hi.out ?_)
    | (refine wpList_store_into rfl 23 _ _ rfl g 5 dv.toArray rfl rfl rc 98 hcells.out hi.out hfit.out hone.out ?_; intro w5 Hs5 Hg5
       have hS5 : PrAt g gd first n ⟨m.place, m.num, d⟩ used w5 := ⟨by rw [← hsp.out]; exact Hs5.out, hd⟩
       have ho5 : Only (fun j => j = g) w w5 := (Only.of_below Hb1.out).trans (Only.of_grown (F := fun j => j = g) Hg5.out (fun j e => by simpa using e.symm)) (fun j hj => .inl hj)
       have c37 := hS5.cell37
       have f37 := hS5.thawed 37
       have hS6 := hS5.setUsed 0
       have ho6 := ho5.trans (Only.of_grown (F := fun j => j = g) (grown_setCell w5 ⟨g, 37, none⟩ (.int .i64 ((0 : Nat) : Int))) (fun j e => by simpa using e.symm)) (fun j hj => .inl hj)
       clear hS5 ho5 Hs5 Hg5))
  first | go_end0 | refine bodyPost_ret (v := .tuple #[]) (results_none rfl _ _ _) rfl ?_
  exact ⟨rfl, hS6, ho6⟩
end
end Go.Proofs.YtegdlpllljccgaaDoor
