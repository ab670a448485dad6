import Derived.Test.YtjkkbceddbkejaaGreatDoorJDrb
import Derived.Test.YtjkkbceddbkejaaGreatDoorJDra
import Derived.Test.YtjkkbceddbkejaaGreatDoorDpOpen
set_option linter.unusedSimpArgs false
set_option linter.unusedVariables false
namespace Go.Proofs.YtjkkbceddbkejaaGreatDoor
open Go.RowKit Sh Go.Maps Go.Extern.Stop Go.Stop Go.Extern
section
variable {m sb bb xd first n gd g : Nat} {hs : List (List UInt8)} {bl : Nat → List UInt8} {w w0 : World} {b : Bk} {T : List (Nat × Obj)}
/-- What a Get of both leaves: all as it was. -/
def Both3P (b : Bk) (gd g : Nat) (T : List (Nat × Obj)) (w0 : World) (e : Ending) (w' : World) : Prop := e = .returned (.bool true) ∧ OwnX b gd g T w0 w'
set_option maxRecDepth 100000 in
set_option maxHeartbeats 16000000 in
theorem both3_no (h : OwnX b gd g T w0 w) (hL : Laid w0) (hD : De b first n hs bl) (hf : first ≤ 2000) (hn : n ≤ 64) (hR : RfT (xd, depO g first n) m sb bb (4 * n) T (stN hs) bl) (sl : Int) (wh : UInt8) (hno : (getOf hs bl n sl).2 ≠ 0) :
    Calls Tryz.prog 29 #[.pointer (some ⟨g, 0, none⟩), .pointer (some ⟨xd, 0, none⟩), .pointer (some ⟨m, 0, none⟩), callV 3 sl wh] w (Both3P b gd g T w0) := by
  obtain ⟨pv, Hpv⟩ : ∃ pv : List Value, Hid (pv = [.int .i64 3, .int .i64 sl, cu8 wh]) := ⟨_, rfl⟩
  have hpV : callV 3 sl wh = .agg pv.toArray := by rw [Hpv.out]; rfl
  rw [hpV]
  have hba : Below w.heap.size w (w.alloc (.cells pv.toArray 69)) := (Below.refl _ _).alloc (Nat.le_refl _) _
  have hx1 : (w.alloc (.cells pv.toArray 69)).heap[w.heap.size]? = some (.cells pv.toArray 69 (0, 0)) := heap_alloc_new w _
  have hX1 := h.holds hba (Nat.le_refl _) hx1
  clear h hpV
  go_enter Tryz.func29, Tryz.ntmps29
  go_upto_region 1 with (fail)
  generalize w.alloc (.cells pv.toArray 69) = wa at hx1 hX1 hba ⊢
  obtain ⟨y, hy⟩ : ∃ y, w.heap.size = y := ⟨_, rfl⟩
  rw [hy] at hx1 hX1
  try rw [hy]
  have Hck : Hid (∀ W : World, W.heap[y]? = some (Obj.cells pv.toArray 69 (0, 0)) → W.cell? ⟨y, 1, none⟩ = some (.int .i64 sl)) := Lib.hid (fun W hW => by rw [cell_of_row W y 1 _ _ _ hW, Hpv.out]; rfl)
  have ck0 : wa.cell? ⟨y, 0, none⟩ = some (.int .i64 3) := by rw [cell_of_row wa y 0 _ _ _ hx1, Hpv.out]; rfl
  have ck1 := Hck.out wa hx1
  have hmem : (xd, depO g first n) ∈ (y, (Obj.cells pv.toArray 69 (0, 0))) :: T := List.mem_cons_of_mem _ hR.mem
  have hgt := hX1.dGet hmem hD hf hn sl
  have hpl := getOf_len hD sl
  have hhs := has_get (hs := hs) (n := n) bl sl
  obtain ⟨⟨p, e⟩, hpe⟩ : ∃ q, getOf hs bl n sl = q := ⟨_, rfl⟩
  rw [hpe] at hgt hpl hhs hno
  simp only at hgt hpl hhs hno
  obtain ⟨pz, Hpz⟩ : ∃ pz : List Value, Hid (pz = p.map cu8) := ⟨_, rfl⟩
  have hpV : pageV p = .agg pz.toArray := by rw [Hpz.out]; rfl
  have hBP : BP pz := ⟨p, hpl, by rw [Hpz.out]⟩
  have hz1 : Hid ((Tryz.prog.info? 33).map (·.size) = some pz.toArray.size) := page_size hBP.page
  have hz2 : Hid (pz.toArray.all (·.oneCell') = true) := page_all hBP.page
  have hz3 : Hid (zeros64.size = pz.toArray.size) := by
    have : pz.toArray.size = 64 := by rw [List.size_toArray]; exact hBP.page.1
    rw [this]; exact (rfl : zeros64.size = 64)
  have hgt' : Calls Tryz.prog 13 #[.pointer (some ⟨xd, 0, none⟩), .int .i64 sl] wa (TQ2 (.agg pz.toArray) e (fun w' => Below wa.heap.size wa w')) := hgt.mono fun e w' ⟨v, h1, h2, h3⟩ => ⟨v, by rw [h1, ← hpV], h2, h3⟩
  have Hgt := Lib.hid hgt'
  have Hhas := Lib.hid (fun W (hX : OwnX b gd g T w0 W) => rhas_any (hR.get hX) (by omega) sl)
  rw [hhs] at Hhas
  have HX1 := Lib.hid hX1; have HD := Lib.hid hD; have HR := Lib.hid hR; have HL := Lib.hid hL
  clear hgt hgt' hpV hpl hBP hhs hpe hX1 hx1 hba hy hmem hR hL hD
  go_wp2_with (first
    | (go_at_call 13; refine Hgt.out.mono ?_))
  rintro e' w3 ⟨v3, rfl, hE3, hb3⟩
  have hX3 := HX1.out.below hb3
  clear hb3 Hgt HX1 ck0 ck1
  go_upto_region 30 with (first
    | (refine wpList_alloc_arr rfl 33 rfl _ alloc64 ?_)
    | (refine wpList_store_new rfl 33 _ _ rfl w3.heap.size rfl pz.toArray rfl rfl 33 _ hz1.out hz3.out hz2.out ?_))
  have hba : Below w3.heap.size w3 (w3.alloc (.cells pz.toArray 33)) := (Below.refl _ _).alloc (Nat.le_refl _) _
  have hx2 : (w3.alloc (.cells pz.toArray 33)).heap[w3.heap.size]? = some (.cells pz.toArray 33 (0, 0)) := heap_alloc_new w3 _
  have hE4 := hE3.below hba
  have hX4 := hX3.below hba
  generalize w3.alloc (.cells pz.toArray 33) = w4 at hba hE4 hX4 hx2 ⊢
  obtain ⟨y2, hy2⟩ : ∃ y2, w3.heap.size = y2 := ⟨_, rfl⟩
  rw [hy2] at hx2
  try rw [hy2]
  have ck1 := Hck.out w4 (hX4.at_ (x := (y, Obj.cells pv.toArray 69 (0, 0))) (by simp))
  have Hh4 := Lib.hid (Hhas.out w4 hX4.drop)
  have HL4 := Lib.hid (HL.out.below HL.out.pos hX4.bel)
  have HX4 := Lib.hid hX4; have HE4 := Lib.hid hE4; have Hx2 := Lib.hid hx2
  clear hba hE3 hE4 hX3 hX4 hy2 hz1 hz2 hz3 Hhas hx2 HL
  go_upto_region 31 with (go_at_call 61; refine Hh4.out.mono ?_; rintro e9 w9 ⟨rfl, rfl⟩)
  clear Hh4 ck1
  have hX4 : OwnX b gd g ((y, Obj.cells pv.toArray 69 (0, 0)) :: T) w0 w9 := HX4.out
  refine wp_region_up 20 (fun W => Below w9.heap.size w9 W) (by kernel_rfl) ?_
  have hb0 : Below w9.heap.size w9 { w9 with drawn := w9.drawn + 1 } := (Below.refl w9.heap.size w9).drew
  obtain ⟨wd, hdr⟩ : ∃ wd : World, ({ w9 with drawn := w9.drawn + 1 } : World) = wd := ⟨_, rfl⟩
  rw [hdr] at hb0 ⊢
  clear hdr
  refine up_take (i := 0) (v := v3) rfl (by kernel_rfl) (by kernel_rfl) (fun _ _ _ h => h) (Or.inl ⟨by rfl, ?_⟩) hb0 ?_
  · intro w' _; go_simp
  try simp only [List.getElem_toArray, List.getElem_cons_succ, List.getElem_cons_zero, Act.put, List.setIfInBounds_toArray, List.set]
  refine up_take (i := 2) (v := .int .i64 e) rfl (by kernel_rfl) (by kernel_rfl) (fun _ _ _ h => h) (Or.inl ⟨by rfl, ?_⟩) hb0 ?_
  · intro w' _; go_simp
  try simp only [List.getElem_toArray, List.getElem_cons_succ, List.getElem_cons_zero, Act.put, List.setIfInBounds_toArray, List.set]
  refine up_one 1 _ rfl (by kernel_rfl) (by decide) (by rfl) (fun K hK => ?_)
  go_simp
  refine (num_any _ v3 _ (HL4.out.below (by have := HL4.out.pos; omega) hb0) (HE4.out.below hb0)).mono ?_
  rintro e5 w5 ⟨rfl, hb5⟩
  have hS5 := hb0.trans (hb5.mono hb0.size)
  refine hK _ _ hS5 ?_
  clear hK K
  try simp only [List.getElem_toArray, List.getElem_cons_succ, List.getElem_cons_zero, Act.put, List.setIfInBounds_toArray, List.set]
  refine up_take (i := 3) (v := .bool true) rfl (by kernel_rfl) (by kernel_rfl) (fun _ _ _ h => h) (Or.inl ⟨by rfl, ?_⟩) hS5 ?_
  · intro w' _; go_simp
  try simp only [List.getElem_toArray, List.getElem_cons_succ, List.getElem_cons_zero, Act.put, List.setIfInBounds_toArray, List.set]
  refine up_take (i := 4) (v := .bool true) rfl (by kernel_rfl) (by kernel_rfl) (fun _ _ _ h => h) (Or.inl ⟨by rfl, ?_⟩) hS5 ?_
  · intro w' _; go_simp
  try simp only [List.getElem_toArray, List.getElem_cons_succ, List.getElem_cons_zero, Act.put, List.setIfInBounds_toArray, List.set]
  refine up_take (i := 5) (v := .int .i64 e) rfl (by kernel_rfl) (by kernel_rfl) (fun _ _ _ h => h) (Or.inl ⟨by rfl, ?_⟩) hS5 ?_
  · intro w' _; go_simp
  try simp only [List.getElem_toArray, List.getElem_cons_succ, List.getElem_cons_zero, Act.put, List.setIfInBounds_toArray, List.set]
  refine up_take (i := 6) (v := .bool true) rfl (by kernel_rfl) (by kernel_rfl) (fun _ _ _ h => h) (Or.inl ⟨by rfl, ?_⟩) hS5 ?_
  · intro w' _; go_simp
  try simp only [List.getElem_toArray, List.getElem_cons_succ, List.getElem_cons_zero, Act.put, List.setIfInBounds_toArray, List.set]
  refine up_take (i := 7) (v := .bool true) rfl (by kernel_rfl) (by kernel_rfl) (fun _ _ _ h => h) (Or.inl ⟨by rfl, ?_⟩) hS5 ?_
  · intro w' _; go_simp
  try simp only [List.getElem_toArray, List.getElem_cons_succ, List.getElem_cons_zero, Act.put, List.setIfInBounds_toArray, List.set]
  refine up_take (i := 8) (v := undef) rfl (by kernel_rfl) (by kernel_rfl) (fun _ _ _ h => h) (Or.inr ⟨by rfl, rfl⟩) hS5 ?_
  try simp only [List.getElem_toArray, List.getElem_cons_succ, List.getElem_cons_zero, Act.put, List.setIfInBounds_toArray, List.set]
  refine up_take (i := 9) (v := undef) rfl (by kernel_rfl) (by kernel_rfl) (fun _ _ _ h => h) (Or.inr ⟨by rfl, rfl⟩) hS5 ?_
  try simp only [List.getElem_toArray, List.getElem_cons_succ, List.getElem_cons_zero, Act.put, List.setIfInBounds_toArray, List.set]
  refine up_take (i := 10) (v := undef) rfl (by kernel_rfl) (by kernel_rfl) (fun _ _ _ h => h) (Or.inr ⟨by rfl, rfl⟩) hS5 ?_
  try simp only [List.getElem_toArray, List.getElem_cons_succ, List.getElem_cons_zero, Act.put, List.setIfInBounds_toArray, List.set]
  refine up_take (i := 11) (v := undef) rfl (by kernel_rfl) (by kernel_rfl) (fun _ _ _ h => h) (Or.inr ⟨by rfl, rfl⟩) hS5 ?_
  try simp only [List.getElem_toArray, List.getElem_cons_succ, List.getElem_cons_zero, Act.put, List.setIfInBounds_toArray, List.set]
  refine up_take (i := 12) (v := undef) rfl (by kernel_rfl) (by kernel_rfl) (fun _ _ _ h => h) (Or.inr ⟨by rfl, rfl⟩) hS5 ?_
  try simp only [List.getElem_toArray, List.getElem_cons_succ, List.getElem_cons_zero, Act.put, List.setIfInBounds_toArray, List.set]
  refine up_take (i := 13) (v := undef) rfl (by kernel_rfl) (by kernel_rfl) (fun _ _ _ h => h) (Or.inr ⟨by rfl, rfl⟩) hS5 ?_
  try simp only [List.getElem_toArray, List.getElem_cons_succ, List.getElem_cons_zero, Act.put, List.setIfInBounds_toArray, List.set]
  refine up_take (i := 14) (v := undef) rfl (by kernel_rfl) (by kernel_rfl) (fun _ _ _ h => h) (Or.inr ⟨by rfl, rfl⟩) hS5 ?_
  try simp only [List.getElem_toArray, List.getElem_cons_succ, List.getElem_cons_zero, Act.put, List.setIfInBounds_toArray, List.set]
  refine up_take (i := 15) (v := undef) rfl (by kernel_rfl) (by kernel_rfl) (fun _ _ _ h => h) (Or.inr ⟨by rfl, rfl⟩) hS5 ?_
  try simp only [List.getElem_toArray, List.getElem_cons_succ, List.getElem_cons_zero, Act.put, List.setIfInBounds_toArray, List.set]
  refine up_take (i := 16) (v := undef) rfl (by kernel_rfl) (by kernel_rfl) (fun _ _ _ h => h) (Or.inr ⟨by rfl, rfl⟩) hS5 ?_
  try simp only [List.getElem_toArray, List.getElem_cons_succ, List.getElem_cons_zero, Act.put, List.setIfInBounds_toArray, List.set]
  refine up_take (i := 17) (v := undef) rfl (by kernel_rfl) (by kernel_rfl) (fun _ _ _ h => h) (Or.inr ⟨by rfl, rfl⟩) hS5 ?_
  try simp only [List.getElem_toArray, List.getElem_cons_succ, List.getElem_cons_zero, Act.put, List.setIfInBounds_toArray, List.set]
  refine up_take (i := 18) (v := .bool true) rfl (by kernel_rfl) (by kernel_rfl) (fun _ _ _ h => h) (Or.inl ⟨by rfl, ?_⟩) hS5 ?_
  · intro w' _; go_simp
  try simp only [List.getElem_toArray, List.getElem_cons_succ, List.getElem_cons_zero, Act.put, List.setIfInBounds_toArray, List.set]
  refine up_take (i := 19) (v := .bool true) rfl (by kernel_rfl) (by kernel_rfl) (fun _ _ _ h => h) (Or.inl ⟨by rfl, ?_⟩) hS5 ?_
  · intro w' _; go_simp
  try simp only [List.getElem_toArray, List.getElem_cons_succ, List.getElem_cons_zero, Act.put, List.setIfInBounds_toArray, List.set]
  refine up_tail ?_
  refine up_last 20 _ rfl (by kernel_rfl) (by decide) (by rfl) (fun K hK => ?_)
  go_simp
  refine hK _ _ ?_
  clear hK K
  try simp only [List.getElem_toArray, List.getElem_cons_succ, List.getElem_cons_zero, Act.put, List.setIfInBounds_toArray, List.set]
  refine up_done (by kernel_rfl) ?_ _
  have HX5 := Lib.hid (hX4.below hS5)
  clear hX4 hS5 hb5 hb0 Hck
  go_wp2
  go_ret
  exact ⟨rfl, HX5.out.drop⟩
set_option maxRecDepth 100000 in
set_option maxHeartbeats 16000000 in
theorem both3_yes (h : OwnX b gd g T w0 w) (hL : Laid w0) (hD : De b first n hs bl) (hf : first ≤ 2000) (hn : n ≤ 64) (hR : RfT (xd, depO g first n) m sb bb (4 * n) T (stN hs) bl) (sl : Int) (wh : UInt8) (hno : (getOf hs bl n sl).2 = 0) :
    Calls Tryz.prog 29 #[.pointer (some ⟨g, 0, none⟩), .pointer (some ⟨xd, 0, none⟩), .pointer (some ⟨m, 0, none⟩), callV 3 sl wh] w (Both3P b gd g T w0) := by
  obtain ⟨pv, Hpv⟩ : ∃ pv : List Value, Hid (pv = [.int .i64 3, .int .i64 sl, cu8 wh]) := ⟨_, rfl⟩
  have hpV : callV 3 sl wh = .agg pv.toArray := by rw [Hpv.out]; rfl
  rw [hpV]
  have hba : Below w.heap.size w (w.alloc (.cells pv.toArray 69)) := (Below.refl _ _).alloc (Nat.le_refl _) _
  have hx1 : (w.alloc (.cells pv.toArray 69)).heap[w.heap.size]? = some (.cells pv.toArray 69 (0, 0)) := heap_alloc_new w _
  have hX1 := h.holds hba (Nat.le_refl _) hx1
  clear h hpV
  go_enter Tryz.func29, Tryz.ntmps29
  go_upto_region 1 with (fail)
  generalize w.alloc (.cells pv.toArray 69) = wa at hx1 hX1 hba ⊢
  obtain ⟨y, hy⟩ : ∃ y, w.heap.size = y := ⟨_, rfl⟩
  rw [hy] at hx1 hX1
  try rw [hy]
  have Hck : Hid (∀ W : World, W.heap[y]? = some (Obj.cells pv.toArray 69 (0, 0)) → W.cell? ⟨y, 1, none⟩ = some (.int .i64 sl)) := Lib.hid (fun W hW => by rw [cell_of_row W y 1 _ _ _ hW, Hpv.out]; rfl)
  have ck0 : wa.cell? ⟨y, 0, none⟩ = some (.int .i64 3) := by rw [cell_of_row wa y 0 _ _ _ hx1, Hpv.out]; rfl
  have ck1 := Hck.out wa hx1
  have hmem : (xd, depO g first n) ∈ (y, (Obj.cells pv.toArray 69 (0, 0))) :: T := List.mem_cons_of_mem _ hR.mem
  have hgt := hX1.dGet hmem hD hf hn sl
  have hpl := getOf_len hD sl
  have hhs := has_get (hs := hs) (n := n) bl sl
  have hge : ∃ s : Nat, s < 4 * n ∧ sl = (s : Int) ∧ (getOf hs bl n sl).1 = bl s := by
    unfold getOf at hno ⊢
    split at hno
    · exact absurd hno (by decide)
    · rename_i hi
      split at hno
      · rename_i hl
        refine ⟨sl.toNat, by omega, by omega, ?_⟩
        rw [if_neg hi, if_pos hl]
      · exact absurd hno (by decide)
  obtain ⟨s, hs4, rfl, hpb⟩ := hge
  obtain ⟨⟨p, e⟩, hpe⟩ : ∃ q, getOf hs bl n (s : Nat) = q := ⟨_, rfl⟩
  rw [hpe] at hgt hpl hhs hno hpb
  simp only at hgt hpl hhs hno hpb
  obtain ⟨pz, Hpz⟩ : ∃ pz : List Value, Hid (pz = p.map cu8) := ⟨_, rfl⟩
  have hpV : pageV p = .agg pz.toArray := by rw [Hpz.out]; rfl
  have hBP : BP pz := ⟨p, hpl, by rw [Hpz.out]⟩
  have hz1 : Hid ((Tryz.prog.info? 33).map (·.size) = some pz.toArray.size) := page_size hBP.page
  have hz2 : Hid (pz.toArray.all (·.oneCell') = true) := page_all hBP.page
  have hz3 : Hid (zeros64.size = pz.toArray.size) := by
    have : pz.toArray.size = 64 := by rw [List.size_toArray]; exact hBP.page.1
    rw [this]; exact (rfl : zeros64.size = 64)
  have hgt' : Calls Tryz.prog 13 #[.pointer (some ⟨xd, 0, none⟩), .int .i64 (s : Nat)] wa (TQ2 (.agg pz.toArray) e (fun w' => Below wa.heap.size wa w')) := hgt.mono fun e w' ⟨v, h1, h2, h3⟩ => ⟨v, by rw [h1, ← hpV], h2, h3⟩
  have Hgt := Lib.hid hgt'
  have Hhas := Lib.hid (fun W (hX : OwnX b gd g T w0 W) => rhas_any (hR.get hX) (by omega) (s : Nat))
  rw [hhs] at Hhas
  subst hno
  have HEq := Lib.hid (fun W => hBP.same W)
  have hpz64 : Hid (pz.length = 64) := hBP.page.1
  have Hrg := Lib.hid (fun W (hX : OwnX b gd g T w0 W) => show W.rangeAt bb (s * 64) pz by rw [Hpz.out, hpb]; exact (hR.get hX).pg s hs4)
  have Hc1 := Lib.hid (fun W (hX : OwnX b gd g T w0 W) => (hR.get hX).c1)
  obtain ⟨M, hM⟩ : ∃ M, 4 * n = M := ⟨_, rfl⟩
  rw [hM] at Hc1
  have hsM : s < M := by omega
  have hsM' : (s : Int) < (M : Int) := by omega
  have HX1 := Lib.hid hX1; have HD := Lib.hid hD; have HR := Lib.hid hR; have HL := Lib.hid hL
  clear hgt hgt' hpV hpl hBP hhs hpe hX1 hx1 hba hy hmem hR hL hD hpb hM hs4
  go_wp2_with (first
    | (go_at_call 13; refine Hgt.out.mono ?_))
  rintro e' w3 ⟨v3, rfl, hE3, hb3⟩
  have hX3 := HX1.out.below hb3
  clear hb3 Hgt HX1 ck0 ck1
  go_upto_region 30 with (first
    | (refine wpList_alloc_arr rfl 33 rfl _ alloc64 ?_)
    | (refine wpList_store_new rfl 33 _ _ rfl w3.heap.size rfl pz.toArray rfl rfl 33 _ hz1.out hz3.out hz2.out ?_))
  have hba : Below w3.heap.size w3 (w3.alloc (.cells pz.toArray 33)) := (Below.refl _ _).alloc (Nat.le_refl _) _
  have hx2 : (w3.alloc (.cells pz.toArray 33)).heap[w3.heap.size]? = some (.cells pz.toArray 33 (0, 0)) := heap_alloc_new w3 _
  have hE4 := hE3.below hba
  have hX4 := hX3.below hba
  generalize w3.alloc (.cells pz.toArray 33) = w4 at hba hE4 hX4 hx2 ⊢
  obtain ⟨y2, hy2⟩ : ∃ y2, w3.heap.size = y2 := ⟨_, rfl⟩
  rw [hy2] at hx2
  try rw [hy2]
  have ck1 := Hck.out w4 (hX4.at_ (x := (y, Obj.cells pv.toArray 69 (0, 0))) (by simp))
  have Hh4 := Lib.hid (Hhas.out w4 hX4.drop)
  have HL4 := Lib.hid (HL.out.below HL.out.pos hX4.bel)
  have HX4 := Lib.hid hX4; have HE4 := Lib.hid hE4; have Hx2 := Lib.hid hx2
  clear hba hE3 hE4 hX3 hX4 hy2 hz1 hz2 hz3 Hhas hx2 HL
  go_upto_region 31 with (go_at_call 61; refine Hh4.out.mono ?_; rintro e9 w9 ⟨rfl, rfl⟩)
  clear Hh4 ck1
  have hX4 : OwnX b gd g ((y, Obj.cells pv.toArray 69 (0, 0)) :: T) w0 w9 := HX4.out
  refine wp_region_up 20 (fun W => Below w9.heap.size w9 W) (by kernel_rfl) ?_
  have hb0 : Below w9.heap.size w9 { w9 with drawn := w9.drawn + 1 } := (Below.refl w9.heap.size w9).drew
  obtain ⟨wd, hdr⟩ : ∃ wd : World, ({ w9 with drawn := w9.drawn + 1 } : World) = wd := ⟨_, rfl⟩
  rw [hdr] at hb0 ⊢
  clear hdr
  refine up_take (i := 0) (v := v3) rfl (by kernel_rfl) (by kernel_rfl) (fun _ _ _ h => h) (Or.inl ⟨by rfl, ?_⟩) hb0 ?_
  · intro w' _; go_simp
  try simp only [List.getElem_toArray, List.getElem_cons_succ, List.getElem_cons_zero, Act.put, List.setIfInBounds_toArray, List.set]
  refine up_take (i := 2) (v := .int .i64 0) rfl (by kernel_rfl) (by kernel_rfl) (fun _ _ _ h => h) (Or.inl ⟨by rfl, ?_⟩) hb0 ?_
  · intro w' _; go_simp
  try simp only [List.getElem_toArray, List.getElem_cons_succ, List.getElem_cons_zero, Act.put, List.setIfInBounds_toArray, List.set]
  refine up_one 1 _ rfl (by kernel_rfl) (by decide) (by rfl) (fun K hK => ?_)
  go_simp
  refine (num_any _ v3 _ (HL4.out.below (by have := HL4.out.pos; omega) hb0) (HE4.out.below hb0)).mono ?_
  rintro e5 w5 ⟨rfl, hb5⟩
  have hS5 := hb0.trans (hb5.mono hb0.size)
  refine hK _ _ hS5 ?_
  clear hK K
  try simp only [List.getElem_toArray, List.getElem_cons_succ, List.getElem_cons_zero, Act.put, List.setIfInBounds_toArray, List.set]
  refine up_take (i := 3) (v := .bool true) rfl (by kernel_rfl) (by kernel_rfl) (fun _ _ _ h => h) (Or.inl ⟨by rfl, ?_⟩) hS5 ?_
  · intro w' _; go_simp
  try simp only [List.getElem_toArray, List.getElem_cons_succ, List.getElem_cons_zero, Act.put, List.setIfInBounds_toArray, List.set]
  refine up_take (i := 4) (v := .bool true) rfl (by kernel_rfl) (by kernel_rfl) (fun _ _ _ h => h) (Or.inl ⟨by rfl, ?_⟩) hS5 ?_
  · intro w' _; go_simp
  try simp only [List.getElem_toArray, List.getElem_cons_succ, List.getElem_cons_zero, Act.put, List.setIfInBounds_toArray, List.set]
  refine up_take (i := 5) (v := .int .i64 0) rfl (by kernel_rfl) (by kernel_rfl) (fun _ _ _ h => h) (Or.inl ⟨by rfl, ?_⟩) hS5 ?_
  · intro w' _; go_simp
  try simp only [List.getElem_toArray, List.getElem_cons_succ, List.getElem_cons_zero, Act.put, List.setIfInBounds_toArray, List.set]
  refine up_take (i := 6) (v := .bool false) rfl (by kernel_rfl) (by kernel_rfl) (fun _ _ _ h => h) (Or.inl ⟨by rfl, ?_⟩) hS5 ?_
  · intro w' _; go_simp
  try simp only [List.getElem_toArray, List.getElem_cons_succ, List.getElem_cons_zero, Act.put, List.setIfInBounds_toArray, List.set]
  refine up_take (i := 7) (v := .bool false) rfl (by kernel_rfl) (by kernel_rfl) (fun _ _ _ h => h) (Or.inl ⟨by rfl, ?_⟩) hS5 ?_
  · intro w' _; go_simp
  try simp only [List.getElem_toArray, List.getElem_cons_succ, List.getElem_cons_zero, Act.put, List.setIfInBounds_toArray, List.set]
  refine up_take (i := 8) (v := .agg pz.toArray) rfl (by kernel_rfl) (by kernel_rfl) (fun _ _ _ h => h) (Or.inl ⟨by rfl, ?_⟩) hS5 ?_
  · intro w' hS'; exact exec_load _ _ 33 _ rfl y2 0 rfl _ (run_loadAt_mid w' y2 0 33 pz _ (fun j v hj => by rw [Nat.zero_add, cell_of_row w' y2 j _ _ _ ((hS'.block y2 (Array.getElem?_eq_some_iff.1 Hx2.out).1).trans Hx2.out)]; simpa using hj) Tryz.underlying33 rfl (by rw [hpz64.out]; exact info64))
  try simp only [List.getElem_toArray, List.getElem_cons_succ, List.getElem_cons_zero, Act.put, List.setIfInBounds_toArray, List.set]
  refine up_take (i := 9) (v := .pointer (some ⟨m, 0, none⟩)) rfl (by kernel_rfl) (by kernel_rfl) (fun _ _ _ h => h) (Or.inl ⟨by rfl, ?_⟩) hS5 ?_
  · intro w' _; go_simp
  try simp only [List.getElem_toArray, List.getElem_cons_succ, List.getElem_cons_zero, Act.put, List.setIfInBounds_toArray, List.set]
  refine up_take (i := 10) (v := .pointer (some ⟨m, 0, none⟩)) rfl (by kernel_rfl) (by kernel_rfl) (fun _ _ _ h => h) (Or.inl ⟨by rfl, ?_⟩) hS5 ?_
  · intro w' _; go_simp
  try simp only [List.getElem_toArray, List.getElem_cons_succ, List.getElem_cons_zero, Act.put, List.setIfInBounds_toArray, List.set]
  refine up_take (i := 11) (v := .pointer (some ⟨m, 1, none⟩)) rfl (by kernel_rfl) (by kernel_rfl) (fun _ _ _ h => h) (Or.inl ⟨by rfl, ?_⟩) hS5 ?_
  · intro w' _; go_simp
  try simp only [List.getElem_toArray, List.getElem_cons_succ, List.getElem_cons_zero, Act.put, List.setIfInBounds_toArray, List.set]
  refine up_take (i := 12) (v := .slice (some ⟨bb, 0, none⟩) M M) rfl (by kernel_rfl) (by kernel_rfl) (fun _ _ _ h => h) (Or.inl ⟨by rfl, ?_⟩) hS5 ?_
  · intro w' hS'
    have c1 := Hc1.out w' (hX4.below hS').drop
    clear hS'
    go_simp
  try simp only [List.getElem_toArray, List.getElem_cons_succ, List.getElem_cons_zero, Act.put, List.setIfInBounds_toArray, List.set]
  refine up_take (i := 13) (v := .pointer (some ⟨y, 1, none⟩)) rfl (by kernel_rfl) (by kernel_rfl) (fun _ _ _ h => h) (Or.inl ⟨by rfl, ?_⟩) hS5 ?_
  · intro w' _; go_simp
  try simp only [List.getElem_toArray, List.getElem_cons_succ, List.getElem_cons_zero, Act.put, List.setIfInBounds_toArray, List.set]
  refine up_take (i := 14) (v := .int .i64 (s : Nat)) rfl (by kernel_rfl) (by kernel_rfl) (fun _ _ _ h => h) (Or.inl ⟨by rfl, ?_⟩) hS5 ?_
  · intro w' hS'
    have c1 := Hck.out w' ((hX4.below hS').at_ (x := (y, Obj.cells pv.toArray 69 (0, 0))) (by simp))
    clear hS'
    go_simp
  try simp only [List.getElem_toArray, List.getElem_cons_succ, List.getElem_cons_zero, Act.put, List.setIfInBounds_toArray, List.set]
  refine up_take (i := 15) (v := .pointer (some ⟨bb, s * 64, none⟩)) rfl (by kernel_rfl) (by kernel_rfl) (fun _ _ _ h => h) (Or.inl ⟨by rfl, ?_⟩) hS5 ?_
  · intro w' _; go_simp
  try simp only [List.getElem_toArray, List.getElem_cons_succ, List.getElem_cons_zero, Act.put, List.setIfInBounds_toArray, List.set]
  refine up_take (i := 16) (v := .agg pz.toArray) rfl (by kernel_rfl) (by kernel_rfl) (fun _ _ _ h => h) (Or.inl ⟨by rfl, ?_⟩) hS5 ?_
  · intro w' hS'; exact exec_load _ _ 33 _ rfl bb (s * 64) rfl _ (run_loadAt_mid w' bb (s * 64) 33 pz _ (Hrg.out w' (hX4.below hS').drop) Tryz.underlying33 rfl (by rw [hpz64.out]; exact info64))
  try simp only [List.getElem_toArray, List.getElem_cons_succ, List.getElem_cons_zero, Act.put, List.setIfInBounds_toArray, List.set]
  refine up_take (i := 17) (v := .bool true) rfl (by kernel_rfl) (by kernel_rfl) (fun _ _ _ h => h) (Or.inl ⟨by rfl, ?_⟩) hS5 ?_
  · intro w' hS'
    have he := HEq.out w'
    clear hS'
    go_simp
  try simp only [List.getElem_toArray, List.getElem_cons_succ, List.getElem_cons_zero, Act.put, List.setIfInBounds_toArray, List.set]
  refine up_take (i := 18) (v := .bool true) rfl (by kernel_rfl) (by kernel_rfl) (fun _ _ _ h => h) (Or.inl ⟨by rfl, ?_⟩) hS5 ?_
  · intro w' _; go_simp
  try simp only [List.getElem_toArray, List.getElem_cons_succ, List.getElem_cons_zero, Act.put, List.setIfInBounds_toArray, List.set]
  refine up_take (i := 19) (v := .bool true) rfl (by kernel_rfl) (by kernel_rfl) (fun _ _ _ h => h) (Or.inl ⟨by rfl, ?_⟩) hS5 ?_
  · intro w' _; go_simp
  try simp only [List.getElem_toArray, List.getElem_cons_succ, List.getElem_cons_zero, Act.put, List.setIfInBounds_toArray, List.set]
  refine up_tail ?_
  refine up_last 20 _ rfl (by kernel_rfl) (by decide) (by rfl) (fun K hK => ?_)
  go_simp
  refine hK _ _ ?_
  clear hK K
  try simp only [List.getElem_toArray, List.getElem_cons_succ, List.getElem_cons_zero, Act.put, List.setIfInBounds_toArray, List.set]
  refine up_done (by kernel_rfl) ?_ _
  have HX5 := Lib.hid (hX4.below hS5)
  clear hX4 hS5 hb5 hb0 Hck
  go_wp2
  go_ret
  exact ⟨rfl, HX5.out.drop⟩
theorem both3_any (h : OwnX b gd g T w0 w) (hL : Laid w0) (hD : De b first n hs bl) (hf : first ≤ 2000) (hn : n ≤ 64) (hR : RfT (xd, depO g first n) m sb bb (4 * n) T (stN hs) bl) (sl : Int) (wh : UInt8) :
    Calls Tryz.prog 29 #[.pointer (some ⟨g, 0, none⟩), .pointer (some ⟨xd, 0, none⟩), .pointer (some ⟨m, 0, none⟩), callV 3 sl wh] w (Both3P b gd g T w0) := by
  by_cases h0 : (getOf hs bl n sl).2 = 0
  · exact both3_yes h hL hD hf hn hR sl wh h0
  · exact both3_no h hL hD hf hn hR sl wh h0
end
end Go.Proofs.YtjkkbceddbkejaaGreatDoor

namespace Go.Proofs.YtjkkbceddbkejaaGreatDoor
open Go.RowKit Sh Go.Maps Go.Extern.Stop Go.Stop Go.Extern
section
variable {m sb bb xd first n gd g : Nat} {hs : List (List UInt8)} {bl : Nat → List UInt8} {w w0 : World} {b : Bk} {T : List (Nat × Obj)}
theorem both_any (h : OwnX b gd g T w0 w) (hL : Laid w0) (hD : De b first n hs bl) (hf : first ≤ 2000) (hn : n ≤ 64) (hR : RfT (xd, depO g first n) m sb bb (4 * n) T (stN hs) bl) (hats : b.S.ats.length ≤ 10000) (ht : b.txn = []) (kd sl : Int) (wh : UInt8) :
    Calls Tryz.prog 29 #[.pointer (some ⟨g, 0, none⟩), .pointer (some ⟨xd, 0, none⟩), .pointer (some ⟨m, 0, none⟩), callV kd sl wh] w (BothP b gd g xd first n m sb bb bl w0) := by
  by_cases k0 : kd = 0
  · subst k0; exact both0_any h hL hD hf hn hR ht sl wh
  by_cases k1 : kd = 1
  · subst k1; exact both1_any h hL hD hf hn hR ht sl wh
  by_cases k2 : kd = 2
  · subst k2; exact both2_any h hL hD hf hn hR ht sl wh
  by_cases k3 : kd = 3
  · subst k3
    refine (both3_any h hL hD hf hn hR sl wh).mono ?_
    rintro e w' ⟨rfl, hX⟩
    exact BothP.same hX hD hR ht
  exact bothE_any h hD hR hats ht kd sl wh k0 k1 k2 k3
end
end Go.Proofs.YtjkkbceddbkejaaGreatDoor

namespace Go.Proofs.YtjkkbceddbkejaaGreatDoor
open Go.RowKit Sh Go.Maps Go.Extern.Stop Go.Stop Go.Extern

theorem infoC7 : (Tryz.prog.info? 69).map (·.size) = some 3 := by kernel_rfl
theorem allocC7 (w : World) : (Instr.alloc 69 true (.tuple #[])).run Tryz.prog w = .ok (.pointer (some ⟨w.heap.size, 0, none⟩)) (w.alloc (.cells #[.int .i64 0, .int .i64 0, .int .u8 0] 69)) := by kernel_rfl
theorem range7 {w : World} {b o : Nat} {pv : List Value} {k s : Int} {c : UInt8} (h : pv = [.int .i64 k, .int .i64 s, cu8 c]) (e0 : w.cell? ⟨b, o, none⟩ = some (.int .i64 k)) (e1 : w.cell? ⟨b, o + 1, none⟩ = some (.int .i64 s)) (e2 : w.cell? ⟨b, o + 2, none⟩ = some (cu8 c)) : w.rangeAt b o pv := by
  subst h
  intro j v hj
  match j with
  | 0 => simp at hj; subst hj; simpa using e0
  | 1 => simp at hj; subst hj; exact e1
  | 2 => simp at hj; subst hj; exact e2
  | j + 3 => simp at hj
/-- What a walk wants of a call's three cells. -/
theorem call_facts {pv : List Value} {k s : Int} {c : UInt8} (h : pv = [.int .i64 k, .int .i64 s, cu8 c]) : Hid (pv.length = 3) ∧ Hid ((Tryz.prog.info? 69).map (·.size) = some pv.length) ∧ Hid ((Tryz.prog.info? 69).map (·.size) = some pv.toArray.size) ∧
    Hid ((#[.int .i64 0, .int .i64 0, .int .u8 0] : Array Value).size = pv.toArray.size) ∧ Hid (pv.toArray.all (·.oneCell') = true) := by
  subst h
  exact ⟨rfl, infoC7, infoC7, rfl, all_oneCell_toArray (fun u hu => by simp only [List.mem_cons, List.not_mem_nil, or_false] at hu; rcases hu with rfl | rfl | rfl <;> rfl)⟩
theorem built_call (i : Int) : Tryz.prog.built 69 [(0, .int .i64 3), (1, .int .i64 i)] = some #[.int .i64 3, .int .i64 i, cu8 0] := by kernel_rfl
theorem wpList_buildC {ops : Array Oper} {Q : Exit → Act → World → Prop} {a : Act} {w : World} {o : Oper} {rest : List Oper} (x y : Operand) (ho : o.op = .build 69 #[(0, x), (1, y)]) (v u : Value) (hx : a.eval x = v) (hy : a.eval y = u) (p : Array Value)
    (hb : Tryz.prog.built 69 [(0, v), (1, u)] = some p) (hw : Region.wanted o (yielded ops a.tmps) = true) (h : wpList Tryz.prog ops Q rest (a.put o.dst (.agg p)) w) : wpList Tryz.prog ops Q (o :: rest) a w := by
  refine wpList_val hw (exec_build w ho ?_) h
  have e : ((#[(0, x), (1, y)] : Array (Nat × Operand)).map fun (i, x) => (i, a.eval x)).toList = [(0, v), (1, u)] := by simp [hx, hy]
  rw [e]; exact hb
theorem stN_new (n : Nat) : (fun _ : Nat => 0) = stN (List.replicate n z4) := by
  funext i
  unfold stN stS
  rw [List.getD_eq_getElem?_getD (l := List.replicate n z4), List.getElem?_replicate]
  split
  · rw [Option.getD_some, getD_z4]; rfl
  · rfl
end Go.Proofs.YtjkkbceddbkejaaGreatDoor
