/-
  Package radix: set.
-/
import Derived.Test.YtfagnbjjffjcbaaGreatDoorRxWrite
set_option linter.unusedSimpArgs false
set_option linter.unusedVariables false
namespace Go.Proofs.YtfagnbjjffjcbaaGreatDoor
open Go.RowKit Sh Go.Maps Go.Extern.Stop Go.Stop Go.Extern

/-- What Set answers, and what there is then. -/
def SetP (b : Bk) (gd g : Nat) (T : List (Nat × Obj)) (w0 : World) (first n : Nat) (v : Nat → Nat) (X m : Nat) (e : Ending) (w' : World) : Prop := ∃ u, e = .returned u ∧
  ((ErrV w' 0 u ∧ ∃ t, OwnX { b with txn := t } gd g T w0 w' ∧ Fo { b with txn := t } first n (setV v X m) ∧ t.length ≤ b.txn.length + 2) ∨ (ErrV w' 22 u ∧ n < takenO (setV v X m) 4 ∧ OwnX b gd g T w0 w'))
theorem set_map_cell {w : World} {z J : Nat} {l : List Value} {t : TypeId} (h : w.heap[z]? = some (.cells l.toArray t (0, 0))) (u : Value) : (w.setCell ⟨z, J, none⟩ u).heap[z]? = some (.cells (l.set J u).toArray t (0, 0)) := by
  simp [World.setCell, Array.getElem?_modify, h]
section
variable {b : Bk} {gd g first n x : Nat} {T : List (Nat × Obj)} {w0 w : World} {v : Nat → Nat}
set_option maxRecDepth 100000 in
set_option maxHeartbeats 16000000 in
theorem set1_any (h : OwnX b gd g T w0 w) (hT : (x, foO g first n) ∈ T) (hF : Fo b first n v) (hf : first ≤ 2000) (hn : n ≤ 2000) (ht : b.txn.length ≤ 50) (lun block m : Nat) (h1 : lun < 4) (h2 : block < 256) (h3 : m < 16777216) :
    Calls Tryz.prog 43 #[.pointer (some ⟨x, 0, none⟩), .int .i64 lun, .int .i64 block, .int .i64 m] w (SetP b gd g T w0 first n v (lun * 256 + block) m) := by
  have hR := h.reads hF
  have hfo := h.fo hT
  have hr := hF.rep
  have hlen := fun i (hi : i ≤ n) => hF.cont_len hi
  obtain ⟨q, hq⟩ : ∃ q, contB b first = q := ⟨_, rfl⟩
  have hql : q.length = 64 := by rw [← hq]; exact hr.rl
  have hrt := roots_any hfo (by omega) (by omega) hR hr.rl hr.le
  rw [hq] at hrt
  obtain ⟨X, hX⟩ : ∃ X, lun * 256 + block = X := ⟨_, rfl⟩
  have hX1024 : X < 1024 := by omega
  obtain ⟨J, hJ⟩ : ∃ J, lun * 16 + block / 16 = J := ⟨_, rfl⟩
  have hJ64 : J < 64 := by omega
  have hJX : X / 16 = J := by omega
  obtain ⟨I, hI⟩ : ∃ I, block % 16 = I := ⟨_, rfl⟩
  have hI16 : I < 16 := by omega
  have hIX : X % 16 = I := by omega
  have hm : ((block : Int)).tmod 16 = (I : Int) := by rw [Int.tmod_eq_emod_of_nonneg (by omega)]; omega
  have hcn := hr.le J hJ64
  have hlfe := hr.leaf hJ64
  rw [hq] at hcn hlfe
  have hlf := fun W (hW : Below w.heap.size w W) => leaf_any (hfo.below hW) (by omega) (by omega) (hR.below hW) (at8 q J) hcn (hlen _ hcn)
  rw [hlfe] at hlf
  have hroot := fun W => rroot_any (w := W) lun block h1 h2
  rw [hJ] at hroot
  rw [hX]
  obtain ⟨qv, Hqv⟩ : ∃ qv : List Value, Hid (qv = q.map cu8) := ⟨_, rfl⟩
  have hqV : pageV q = .agg qv.toArray := by rw [Hqv.out]; rfl
  obtain ⟨sv, Hsv⟩ : ∃ sv : List Value, Hid (sv = cellsL (sixteen v J)) := ⟨_, rfl⟩
  have hsV : leafV (sixteen v J) = .agg sv.toArray := by rw [Hsv.out]; rfl
  have hqr : Hid ((Tryz.prog.info? 86).map (·.size) = some qv.toArray.size) := by rw [Hqv.out]; exact rootsInfo hql
  have hqz : Hid (zeros64.size = qv.toArray.size) := by rw [Hqv.out]; exact pageZ hql
  have hq1 : Hid (qv.toArray.all (·.oneCell') = true) := by rw [Hqv.out]; exact bytes_one _
  have hsi : Hid ((Tryz.prog.info? 126).map (·.size) = some sv.toArray.size) := by rw [Hsv.out]; exact leafInfo (sixteen_len v J)
  obtain ⟨zn, Hzn⟩ : ∃ zn : Array Value, Hid (zn = (cellsL noneL).toArray) := ⟨_, rfl⟩
  have hal : ∀ w : World, (Instr.alloc 126 true (.tuple #[])).run Tryz.prog w = .ok (.pointer (some ⟨w.heap.size, 0, none⟩)) (w.alloc (.cells zn 126)) := by rw [Hzn.out]; exact allocLeaf
  have hbz : Hid (Tryz.prog.built 126 [] = some zn) := by rw [Hzn.out]; exact built_leaf
  have hsz : Hid (zn.size = sv.toArray.size) := by
    have e : sv.toArray.size = 16 := by rw [List.size_toArray, Hsv.out, cellsL_len, sixteen_len]
    rw [e, Hzn.out]; exact (rfl : (cellsL noneL).toArray.size = 16)
  have hs1 : Hid (sv.toArray.all (·.oneCell') = true) := by rw [Hsv.out]; exact cellsL_one _
  have halr : ∀ w : World, (Instr.alloc 86 true (.tuple #[])).run Tryz.prog w = .ok (.pointer (some ⟨w.heap.size, 0, none⟩)) (w.alloc (.cells zeros64 86)) := allocRoots
  have Hrt : Hid (Calls Tryz.prog 41 #[.pointer (some ⟨x, 0, none⟩)] w (fun e w' => e = .returned (.tuple #[.agg qv.toArray, .nilIface]) ∧ Below w.heap.size w w')) := by
    have : Calls Tryz.prog 41 #[.pointer (some ⟨x, 0, none⟩)] w (fun e w' => e = .returned (.tuple #[.agg qv.toArray, .nilIface]) ∧ Below w.heap.size w w') := hrt.mono fun e w' ⟨h1, h2⟩ => ⟨by rw [h1, hqV], h2⟩
    exact this
  obtain ⟨C, hC⟩ : ∃ C : Nat, (at8 q J).toNat = C := ⟨_, rfl⟩
  rw [hC] at hlf hcn
  have HlfW : Hid (∀ W, Below w.heap.size w W → Calls Tryz.prog 67 #[.pointer (some ⟨x, 0, none⟩), .int .u8 (C : Int)] W (fun e w' => e = .returned (.tuple #[.agg sv.toArray, .nilIface]) ∧ Below W.heap.size W w')) := by
    have : ∀ W, Below w.heap.size w W → Calls Tryz.prog 67 #[.pointer (some ⟨x, 0, none⟩), .int .u8 (C : Int)] W (fun e w' => e = .returned (.tuple #[.agg sv.toArray, .nilIface]) ∧ Below W.heap.size W w') := fun W hW => (hlf W hW).mono fun e w' ⟨h1, h2⟩ => ⟨by rw [h1, hsV], h2⟩
    exact this
  have Hroot := Lib.hid hroot
  have Hcell : Hid (qv[J]? = some (.int .u8 (C : Int))) := by
    have : qv[J]? = some (.int .u8 (C : Int)) := by rw [Hqv.out, List.getElem?_map, at8_take_list (by omega), ← hC, ← cu8N]; rfl
    exact this
  obtain ⟨u0, hu0⟩ : ∃ u0, sv[I]? = some u0 := ⟨_, List.getElem?_eq_getElem (by rw [Hsv.out, cellsL_len, sixteen_len]; exact hI16)⟩
  obtain ⟨L, hL⟩ : ∃ L, (sixteen v J).set I m = L := ⟨_, rfl⟩
  have hLl : L.length = 16 := by rw [← hL, List.length_set, sixteen_len]
  have hLs : ∀ a ∈ L, a < 16777216 := fun a ha => by
    rw [← hL] at ha
    rcases List.mem_or_eq_of_mem_set ha with ha | ha
    · exact sixteen_lt hr.small J a ha
    · rw [ha]; exact h3
  obtain ⟨lv, Hlv⟩ : ∃ lv : List Value, Hid (lv = cellsL L) := ⟨_, rfl⟩
  have hsl : sv.set I (.int .i64 (m : Int)) = lv := by rw [Hsv.out, Hlv.out, ← hL, cellsL, cellsL, List.map_set]
  have hli : Hid ((Tryz.prog.info? 126).map (·.size) = some lv.toArray.size) := by rw [Hlv.out]; exact leafInfo hLl
  have HeqD := Lib.hid (fun W => eqLeaf L noneL hLl rfl W)
  rw [← Hlv.out, ← Hzn.out] at HeqD
  have k1 : (0 : Int) ≤ (lun : Int) := by omega
  have k2 : (lun : Int) < 4 := by omega
  have k3 : (0 : Int) ≤ (block : Int) := by omega
  have k4 : (block : Int) < 256 := by omega
  have k5 : ¬ ((m : Int) < 0) := by omega
  have k6 : ¬ (16777215 < (m : Int)) := by omega
  have hJ' : (J : Int) < 64 := by omega
  have hI' : (I : Int) < 16 := by omega
  have Hq := Lib.hid hq; have HJX := Lib.hid hJX; have HIX := Lib.hid hIX; have HL := Lib.hid hL; have HC := Lib.hid hC
  clear hlf hroot hlfe hrt hq hqV hsV hC hR hlen hfo hJ hI hX hJX hIX hL
  go_enter Tryz.func43, Tryz.ntmps43
  go_wp2_with (first
    | (go_at_call 65; refine (has_yes ⟨x, 0, none⟩ lun block k1 k2 k3 k4).mono ?_; rintro e w' ⟨rfl, rfl⟩)
    | (go_at_call 41; refine Hrt.out.mono ?_))
  rintro e w2 ⟨rfl, hb2⟩
  clear Hrt
  go_upto_region 4 with (first
    | (refine wpList_alloc_arr rfl 86 rfl _ halr ?_)
    | (refine wpList_store_new rfl 86 _ _ rfl w2.heap.size rfl qv.toArray rfl rfl 86 _ hqr.out hqz.out hq1.out ?_))
  have hb3 : Below w2.heap.size w2 (w2.alloc (.cells qv.toArray 86)) := (Below.refl _ _).alloc (Nat.le_refl _) _
  have hz3 : (w2.alloc (.cells qv.toArray 86)).heap[w2.heap.size]? = some (.cells qv.toArray 86 (0, 0)) := heap_alloc_new w2 _
  have hbw3 := hb2.trans (hb3.mono hb2.size)
  have hzw : w.heap.size ≤ w2.heap.size := hb2.size
  generalize w2.alloc (.cells qv.toArray 86) = w3 at hb3 hz3 hbw3 ⊢
  obtain ⟨z, hz⟩ : ∃ z, w2.heap.size = z := ⟨_, rfl⟩
  rw [hz] at hz3 hzw ⊢
  have cz : w3.cell? ⟨z, J, none⟩ = some (.int .u8 (C : Int)) := by rw [cell_of_row w3 z J _ _ _ hz3, List.getElem?_toArray]; exact Hcell.out
  have HB3 := Lib.hid hbw3
  clear hz hb3 hb2 hbw3 halr
  go_wp2_with (first
    | (go_at_call 66; refine (Hroot.out _).mono ?_; rintro e w' ⟨rfl, rfl⟩)
    | (go_at_call 67; refine (HlfW.out _ HB3.out).mono ?_))
  rintro e w4 ⟨rfl, hb4⟩
  have hbw4 := HB3.out.trans (hb4.mono HB3.out.size)
  have hz4 := (hb4.block z (Array.getElem?_eq_some_iff.1 hz3).1).trans hz3
  clear HlfW Hroot cz hb4 HB3 hz3
  go_upto_region 8 with (first
    | (refine wpList_alloc_arr rfl 126 rfl _ hal ?_)
    | (refine wpList_store_new rfl 126 _ _ rfl w4.heap.size rfl sv.toArray rfl rfl 126 _ hsi.out hsz.out hs1.out ?_))
  have hb5 : Below w4.heap.size w4 (w4.alloc (.cells sv.toArray 126)) := (Below.refl _ _).alloc (Nat.le_refl _) _
  have hy5 : (w4.alloc (.cells sv.toArray 126)).heap[w4.heap.size]? = some (.cells sv.toArray 126 (0, 0)) := heap_alloc_new w4 _
  have hbw5 := hbw4.trans (hb5.mono hbw4.size)
  have hzl4 := (Array.getElem?_eq_some_iff.1 hz4).1
  have hz5 := (hb5.block z hzl4).trans hz4
  have hyw : z < w4.heap.size := hzl4
  generalize w4.alloc (.cells sv.toArray 126) = w5 at hb5 hy5 hbw5 hz5 ⊢
  obtain ⟨y, hy⟩ : ∃ y, w4.heap.size = y := ⟨_, rfl⟩
  rw [hy] at hy5 hyw ⊢
  have cy : w5.cell? ⟨y, I, none⟩ = some u0 := by rw [cell_of_row w5 y I _ _ _ hy5, List.getElem?_toArray]; exact hu0
  have fy : w5.frozen? ⟨y, I, none⟩ = false := by simp [World.frozen?, hy5]
  have hy6 := set_map_cell hy5 (J := I) (.int .i64 (m : Int))
  rw [hsl] at hy6
  have hg6 := grown_setCell w5 ⟨y, I, none⟩ (.int .i64 (m : Int))
  have hz6 := (hg6.block z (Array.getElem?_eq_some_iff.1 hz5).1 (by simp; omega)).trans hz5
  have hbw6 := below_of_grown hbw5 hg6 hbw5.size (by show w.heap.size ≤ y; omega)
  have Hy6 := Lib.hid hy6; have Hz6 := Lib.hid hz6; have Hb6 := Lib.hid hbw6
  clear hy hb5 hy5 hbw5 hbw4 hal hz4 hz5 hzl4 hg6 hy6 hz6 hbw6 hu0 hsl
  go_upto_region 11 with (fail)
  clear cy fy
  have hyk := Hy6.out; have hzk := Hz6.out; have hbk := Hb6.out
  clear Hy6 Hz6 Hb6
  generalize w5.setCell ⟨y, I, none⟩ (.int .i64 (m : Int)) = w6 at hyk hzk hbk ⊢
  have hLX : (sixteen v (X / 16)).set (X % 16) m = L := by rw [HJX.out, HIX.out]; exact HL.out
  have czq : w6.cell? ⟨z, J, none⟩ = some (.int .u8 (C : Int)) := by rw [cell_of_row w6 z J _ _ _ hzk, List.getElem?_toArray]; exact Hcell.out
  have fzq : w6.frozen? ⟨z, J, none⟩ = false := by simp [World.frozen?, hzk]
  have HrX := Lib.hid hr
  clear hr
  by_cases hzz : L = noneL
  · have heq : ∀ W : World, (binOp .eql 126 (.agg lv.toArray) (.agg zn)).run Tryz.prog W = .ok (.bool true) W := fun W => by rw [HeqD.out W, decide_eq_true hzz]
    have hrepN : Rep (upd (contB b) first (q.set J 0)) first n (setV v X m) := by
      have := HrX.out.left hX1024 h3 (by rw [hLX]; exact hzz)
      rw [Hq.out, HJX.out] at this; exact this
    have hRl : (q.set J 0).length = 64 := by rw [List.length_set]; exact hql
    obtain ⟨t1, e1, l1, hfo⟩ := hF.one (by omega) (p := q.set J 0) hRl
    have Hfo := Lib.hid (hfo _ hrepN); have He1 := Lib.hid e1
    clear hfo hrepN e1
    have hzk7 := set_map_cell hzk (J := J) (.int .u8 0)
    have hg7 := grown_setCell w6 ⟨z, J, none⟩ (.int .u8 0)
    have hbk7 := below_of_grown hbk hg7 hbk.size (by show w.heap.size ≤ z; omega)
    obtain ⟨rv, Hrv⟩ : ∃ rv : List Value, Hid (rv = (q.set J 0).map cu8) := ⟨_, rfl⟩
    have hrvq : qv.set J (.int .u8 0) = rv := by rw [Hrv.out, Hqv.out, List.map_set]; rfl
    rw [hrvq] at hzk7
    clear hg7 hrvq hzk
    have hrV : pageV (q.set J 0) = .agg rv.toArray := by rw [Hrv.out]; rfl
    have hrr : Hid ((Tryz.prog.info? 86).map (·.size) = some rv.toArray.size) := by rw [Hrv.out]; exact rootsInfo hRl
    have Hw2 := Lib.hid (show Calls Tryz.prog 68 #[.pointer (some ⟨x, 0, none⟩), .agg rv.toArray] (w6.setCell ⟨z, J, none⟩ (.int .u8 0)) (TqP (fun u w' => ErrV w' 0 u ∧ OwnX { b with txn := t1 } gd g T w0 w')) by
      rw [← hrV]
      have hX7 := h.below hbk7
      refine write_of (hX7.fo hT) (q.set J 0) hRl (fun W hW => ?_)
      have := (hX7.below hW).write hF.ok ((first : Nat) : Int) (q.set J 0) hRl
      rw [He1.out] at this; exact this)
    have Hl2 := Lib.hid (show t1.length ≤ b.txn.length + 2 by omega)
    clear hrV l1 hbk7 hbk
    go_wp2_with (first
      | (refine wpList_load_row rfl 126 _ rfl y rfl 126 lv.toArray (0, 0) _ hyk Tryz.underlying126 rfl hli.out ?_)
      | (refine wpList_buildZ 126 rfl zn hbz.out (by rfl) ?_)
      | (refine wpList_load_row rfl 86 _ rfl z rfl 86 rv.toArray (0, 0) _ hzk7 Tryz.underlying86 rfl hrr.out ?_)
      | (go_at_call 68; refine Hw2.out.mono ?_))
    rintro e wf ⟨u, rfl, hEu, hXu⟩
    have Hfin := Lib.hid (show SetP b gd g T w0 first n v X m (.returned u) wf from ⟨u, rfl, .inl ⟨hEu, t1, hXu, Hfo.out, Hl2.out⟩⟩)
    clear hEu hXu Hw2 hzk7
    go_wp2
    first | exact Hfin.out | (go_ret; exact Hfin.out) | refine bodyPost_ret (v := u) (by simp [results, Tryz.results43, go_sem]) rfl Hfin.out
  · have heq : ∀ W : World, (binOp .eql 126 (.agg lv.toArray) (.agg zn)).run Tryz.prog W = .ok (.bool false) W := fun W => by rw [HeqD.out W, decide_eq_false hzz]
    by_cases hc0 : C = 0
    · have hat0 : at8 q J = 0 := UInt8.toNat_inj.1 (by rw [HC.out, hc0]; rfl)
      have hfr := fun W => rfree_any (w := W) q hql
      have hqV : pageV q = .agg qv.toArray := by rw [Hqv.out]; rfl
      rw [hqV] at hfr
      have Hfr := Lib.hid hfr
      have Hyk := Lib.hid hyk; have Hzk := Lib.hid hzk; have Hbk := Lib.hid hbk
      subst hc0
      clear hfr hqV hbk
      go_wp2_with (first
        | (refine wpList_load_row rfl 126 _ rfl y rfl 126 lv.toArray (0, 0) _ hyk Tryz.underlying126 rfl hli.out ?_)
        | (refine wpList_buildZ 126 rfl zn hbz.out (by rfl) ?_)
        | (refine wpList_load_row rfl 86 _ rfl z rfl 86 qv.toArray (0, 0) _ hzk Tryz.underlying86 rfl hqr.out ?_)
        | (go_at_call 69; refine (Hfr.out _).mono ?_))
      rintro e w7 ⟨f, rfl, hfp, hb7⟩
      have f1 := hfp.pos; have f2 := hfp.lt
      have ft : (UInt8.ofNat f).toNat = f := by rw [UInt8.toNat_ofNat']; omega
      obtain ⟨R, hRe⟩ : ∃ R, q.set J (UInt8.ofNat f) = R := ⟨_, rfl⟩
      have hRl : R.length = 64 := by rw [← hRe, List.length_set]; exact hql
      have hRJ : at8 R J = UInt8.ofNat f := by rw [← hRe, at8_set (by omega), if_pos rfl]
      have hz7 := (hb7.block z (Array.getElem?_eq_some_iff.1 Hzk.out).1).trans Hzk.out
      have hy7 := (hb7.block y (Array.getElem?_eq_some_iff.1 Hyk.out).1).trans Hyk.out
      have hbw7 := Hbk.out.trans (hb7.mono Hbk.out.size)
      have cz7 : w7.cell? ⟨z, J, none⟩ = some (.int .u8 ((0 : Nat) : Int)) := by rw [cell_of_row w7 z J _ _ _ hz7, List.getElem?_toArray]; exact Hcell.out
      have fz7 : w7.frozen? ⟨z, J, none⟩ = false := by simp [World.frozen?, hz7]
      have hz8 := set_map_cell hz7 (J := J) (.int .u8 (f : Int))
      have hrvq : qv.set J (.int .u8 (f : Int)) = R.map cu8 := by rw [← hRe, Hqv.out, List.map_set, cu8N, ft]
      rw [hrvq] at hz8
      have hg8 := grown_setCell w7 ⟨z, J, none⟩ (.int .u8 (f : Int))
      have hy8 := (hg8.block y (Array.getElem?_eq_some_iff.1 hy7).1 (by simp; omega)).trans hy7
      have hbw8 := below_of_grown hbw7 hg8 hbw7.size (by show w.heap.size ≤ z; omega)
      have Hz8 := Lib.hid hz8; have Hy8 := Lib.hid hy8; have Hb8 := Lib.hid hbw8
      clear hz8 hy8 hbw8 hg8 hbw7 hz7 hy7 hb7 Hfr Hyk Hzk Hbk hyk hzk czq fzq heq hrvq
      go_upto_region 16 with (fail)
      have hzk := Hz8.out; have hyk := Hy8.out; have hbk := Hb8.out
      clear Hz8 Hy8 Hb8 cz7 fz7
      generalize w7.setCell ⟨z, J, none⟩ (.int .u8 (f : Int)) = wj at hzk hyk hbk ⊢
      obtain ⟨K, hK⟩ : ∃ K, takenR R 4 = K := ⟨_, rfl⟩
      have hK68 : K ≤ 68 := by rw [← hK]; exact takenR_le R 4
      have hqz16 : at8 (contB b first) (X / 16) = 0 := by rw [Hq.out, HJX.out]; exact hat0
      have hfpX : FreeP (contB b first) f := by rw [Hq.out]; exact hfp
      have hRX : (contB b first).set (X / 16) (UInt8.ofNat f) = R := by rw [Hq.out, HJX.out]; exact hRe
      have Htk := Lib.hid (fun W => (show Calls Tryz.prog 42 #[pageV R] W (RetQ (.int .i64 (K : Nat)) W) by
        have := taken_any (w := W) R hRl
        rw [hK] at this; exact this))
      obtain ⟨rv, Hrv⟩ : ∃ rv : List Value, Hid (rv = R.map cu8) := ⟨_, rfl⟩
      have hrV : pageV R = .agg rv.toArray := by rw [Hrv.out]; rfl
      rw [hrV] at Htk
      rw [← Hrv.out] at hzk
      have hrr : Hid ((Tryz.prog.info? 86).map (·.size) = some rv.length) := by have := rootsInfo hRl; rw [← Hrv.out, List.size_toArray] at this; exact this
      have hzl := (Array.getElem?_eq_some_iff.1 hzk).1
      have HLr := Lib.hid (fun W (hW : Below wj.heap.size wj W) => run_loadAt_mid (P := Tryz.prog) W z 0 86 rv _ (fun j v hj => by rw [Nat.zero_add, cell_of_row W z j _ _ _ ((hW.block z hzl).trans hzk)]; simpa using hj) Tryz.underlying86 rfl hrr.out)
      have hXj := h.below hbk
      have HX := Lib.hid (fun W (hW : Below wj.heap.size wj W) => (hXj.fo hT).below hW)
      have Hxj := Lib.hid hXj
      clear hXj hrV
      refine wp_region_up 6 (fun w' => Below wj.heap.size wj w') (by kernel_rfl) ?_
      have hd2 : Below wj.heap.size wj { wj with drawn := wj.drawn + 1 } := ⟨rfl, rfl, rfl, Nat.le_refl _, fun _ _ => rfl⟩
      obtain ⟨wd, hdr⟩ : ∃ wd : World, ({ wj with drawn := wj.drawn + 1 } : World) = wd := ⟨_, rfl⟩
      rw [hdr] at hd2 ⊢
      clear hdr
      refine up_take (i := 0) (v := .agg rv.toArray) rfl (by kernel_rfl) (by kernel_rfl) (fun _ _ _ h => h) (Or.inl ⟨by rfl, ?_⟩) hd2 ?_
      · intro w' hS'; exact exec_load _ _ 86 _ rfl z 0 rfl _ (HLr.out w' hS')
      try simp only [List.getElem_toArray, List.getElem_cons_succ, List.getElem_cons_zero, Act.put, List.setIfInBounds_toArray, List.set]
      refine up_take (i := 2) (v := .pointer (some ⟨x, 0, none⟩)) rfl (by kernel_rfl) (by kernel_rfl) (fun _ _ _ h => h) (Or.inl ⟨by rfl, ?_⟩) hd2 ?_
      · intro w' _; go_simp
      try simp only [List.getElem_toArray, List.getElem_cons_succ, List.getElem_cons_zero, Act.put, List.setIfInBounds_toArray, List.set]
      refine up_take (i := 3) (v := .pointer (some ⟨x, 0, none⟩)) rfl (by kernel_rfl) (by kernel_rfl) (fun _ _ _ h => h) (Or.inl ⟨by rfl, ?_⟩) hd2 ?_
      · intro w' _; go_simp
      try simp only [List.getElem_toArray, List.getElem_cons_succ, List.getElem_cons_zero, Act.put, List.setIfInBounds_toArray, List.set]
      refine up_take (i := 4) (v := .pointer (some ⟨x, 2, none⟩)) rfl (by kernel_rfl) (by kernel_rfl) (fun _ _ _ h => h) (Or.inl ⟨by rfl, ?_⟩) hd2 ?_
      · intro w' _; go_simp
      try simp only [List.getElem_toArray, List.getElem_cons_succ, List.getElem_cons_zero, Act.put, List.setIfInBounds_toArray, List.set]
      refine up_take (i := 5) (v := .int .i64 n) rfl (by kernel_rfl) (by kernel_rfl) (fun _ _ _ h => h) (Or.inl ⟨by rfl, ?_⟩) hd2 ?_
      · intro w' hS'
        obtain ⟨_, _, c2⟩ := FoAt.cells (HX.out _ hS')
        clear hS'
        go_simp
      try simp only [List.getElem_toArray, List.getElem_cons_succ, List.getElem_cons_zero, Act.put, List.setIfInBounds_toArray, List.set]
      refine up_one 1 _ rfl (by kernel_rfl) (by decide) (by rfl) (fun K hK => ?_)
      go_simp
      refine (Htk.out _).mono ?_
      rintro e w8 ⟨rfl, hb8⟩
      have hd3 := hd2.trans (hb8.mono hd2.size)
      refine hK _ _ hd3 ?_
      clear hK K
      try simp only [List.getElem_toArray, List.getElem_cons_succ, List.getElem_cons_zero, Act.put, List.setIfInBounds_toArray, List.set]
      refine up_tail ?_
      refine up_last 6 _ rfl (by kernel_rfl) (by decide) (by rfl) (fun K hK => ?_)
      go_simp
      refine hK _ _ ?_
      clear hK K
      try simp only [List.getElem_toArray, List.getElem_cons_succ, List.getElem_cons_zero, Act.put, List.setIfInBounds_toArray, List.set]
      refine up_done (by kernel_rfl) ?_ _
      have hz9 := (hd3.block z hzl).trans hzk
      have hy9 := (hd3.block y (Array.getElem?_eq_some_iff.1 hyk).1).trans hyk
      have hb9 := hbk.trans (hd3.mono hbk.size)
      have Hx9 := Lib.hid (Hxj.out.below hd3)
      clear HX HLr Htk hd3 hd2 hzk hyk hbk hzl hb8
      by_cases hfull : n < K
      · have hover : n < takenO (setV v X m) 4 := by
          rw [← HrX.out.full hX1024 hqz16 (by rw [hLX]; exact hzz) hfpX, hRX, hK]; exact hfull
        have hfull' : (n : Int) < (K : Int) := by omega
        have Hfin := Lib.hid (show SetP b gd g T w0 first n v X m (.returned (.iface 85 (.int .i64 22))) w8 from ⟨_, rfl, .inr ⟨.inr ⟨by decide, [], rfl⟩, hover, Hx9.out⟩⟩)
        clear hover Hx9 hz9 hy9 hb9 Hxj
        go_wp2
        refine bodyPost_ret (v := .iface 85 (.int .i64 22)) (by simp [results, Tryz.results43, go_sem]) rfl Hfin.out
      · have hcap : K ≤ n := by omega
        obtain ⟨hFn, _, hrepN⟩ := HrX.out.grow hX1024 h3 hqz16 (by rw [hLX]; exact hzz) hfpX (by rw [hRX, hK]; exact hcap)
        rw [hLX, hRX] at hrepN
        have HrepN := Lib.hid hrepN
        have hfull' : ¬ ((n : Int) < (K : Int)) := by omega
        have Hz9 := Lib.hid hz9; have Hy9 := Lib.hid hy9; have Hb9 := Lib.hid hb9
        clear hrepN hz9 hy9 hb9
        go_upto_region 18 with (fail)
        have hFC : (at8 R J).toNat = f := by rw [hRJ]; exact ft
        clear hfull' hfull hRX hfpX hqz16 hrr
        have hzk := Hz9.out; have hyk := Hy9.out; have hbk := Hb9.out
        have hrepN := HrepN.out
        rw [Hrv.out] at hzk
        clear Hz9
        obtain ⟨F, hFe⟩ : ∃ F, f = F := ⟨_, rfl⟩
        rw [hFe] at hFn hrepN hFC
        obtain ⟨wk, hwk⟩ : ∃ wk, w8 = wk := ⟨_, rfl⟩
        rw [hwk] at hzk hyk hbk ⊢
        clear hwk hFe Hx9 Hxj Hy9 Hb9 HrepN
        obtain ⟨t1, t2, e1, o1, e2, l2, hfo⟩ := hF.two (by omega) hFn (pageL_len L) hRl
        have Hfo := Lib.hid (hfo _ hrepN); have Hl2 := Lib.hid l2; have He1 := Lib.hid e1; have He2 := Lib.hid e2; have Ho1 := Lib.hid o1
        clear hfo hrepN l2 e1 e2 o1
        have hXk := h.hold hbk hzw hzk
        have hTk : (x, foO g first n) ∈ ((z, Obj.cells (R.map cu8).toArray 86 (0, 0)) :: T) := List.mem_cons_of_mem _ hT
        obtain ⟨rv, Hrv⟩ : ∃ rv : List Value, Hid (rv = R.map cu8) := ⟨_, rfl⟩
        rw [← Hrv.out] at hXk hTk
        have hzl := (Array.getElem?_eq_some_iff.1 hzk).1
        have hyl := (Array.getElem?_eq_some_iff.1 hyk).1
        have HX := Lib.hid (fun W (hW : Below wk.heap.size wk W) => (hXk.fo hTk).below hW)
        have HCz := Lib.hid (fun W (hW : Below wk.heap.size wk W) => (show W.cell? ⟨z, J, none⟩ = some (.int .u8 (F : Int)) by
          rw [cell_of_row W z J _ _ _ ((hW.block z hzl).trans hzk), List.getElem?_toArray, List.getElem?_map, at8_take_list (by omega), ← hFC, ← cu8N]; rfl))
        have hli2 : Hid ((Tryz.prog.info? 126).map (·.size) = some lv.length) := by have := hli.out; rw [List.size_toArray] at this; exact this
        have HLl := Lib.hid (fun W (hW : Below wk.heap.size wk W) => run_loadAt_mid (P := Tryz.prog) W y 0 126 lv _ (fun j v hj => by rw [Nat.zero_add, cell_of_row W y j _ _ _ ((hW.block y hyl).trans hyk)]; simpa using hj) Tryz.underlying126 rfl hli2.out)
        obtain ⟨A, hA⟩ : ∃ A : Nat, first + F = A := ⟨_, rfl⟩
        have Hat := Lib.hid (fun W (hW : Below wk.heap.size wk W) => (show Calls Tryz.prog 71 #[.pointer (some ⟨x, 0, none⟩), .int .u8 (F : Int)] W (SameQ (.int .i64 (A : Nat)) W) by
          have := leafAt_any (HX.out W hW) (by omega) (at8 R J)
          rw [hFC, hA] at this; exact this))
        obtain ⟨pv, Hpv⟩ : ∃ pv : List Value, Hid (pv = (pageL L).map cu8) := ⟨_, rfl⟩
        have hpV : pageV (pageL L) = .agg pv.toArray := by rw [Hpv.out]; rfl
        have Hpg := Lib.hid (fun W => (show Calls Tryz.prog 72 #[.agg lv.toArray] W (RetQ (.agg pv.toArray) W) by
          have := lpage_any (w := W) L hLl hLs
          rw [hpV] at this
          unfold leafV at this
          rw [← Hlv.out] at this; exact this))
        have Hw := Lib.hid (fun W (hW : Below wk.heap.size wk W) => (show Calls Tryz.prog 70 #[.pointer (some ⟨g, 0, none⟩), .int .i64 (A : Nat), .agg pv.toArray] W (OwnXP { b with txn := t1 } 0 gd g ((z, Obj.cells rv.toArray 86 (0, 0)) :: T) w0) by
          have := (hXk.below hW).write hF.ok ((first + F : Nat) : Int) (pageL L) (pageL_len L)
          rw [He1.out, hpV, hA] at this; exact this))
        have HA := Lib.hid hA
        clear hA hXk hzl hyl hzk hyk hFC
        refine wp_region_up 11 (fun w' => Below wk.heap.size wk w') (by kernel_rfl) ?_
        have hd2 : Below wk.heap.size wk { wk with drawn := wk.drawn + 1 } := ⟨rfl, rfl, rfl, Nat.le_refl _, fun _ _ => rfl⟩
        obtain ⟨wd, hdr⟩ : ∃ wd : World, ({ wk with drawn := wk.drawn + 1 } : World) = wd := ⟨_, rfl⟩
        rw [hdr] at hd2 ⊢
        clear hdr
        refine up_take (i := 0) (v := .pointer (some ⟨x, 0, none⟩)) rfl (by kernel_rfl) (by kernel_rfl) (fun _ _ _ h => h) (Or.inl ⟨by rfl, ?_⟩) hd2 ?_
        · intro w' _; go_simp
        try simp only [List.getElem_toArray, List.getElem_cons_succ, List.getElem_cons_zero, Act.put, List.setIfInBounds_toArray, List.set]
        refine up_take (i := 1) (v := .pointer (some ⟨x, 0, none⟩)) rfl (by kernel_rfl) (by kernel_rfl) (fun _ _ _ h => h) (Or.inl ⟨by rfl, ?_⟩) hd2 ?_
        · intro w' _; go_simp
        try simp only [List.getElem_toArray, List.getElem_cons_succ, List.getElem_cons_zero, Act.put, List.setIfInBounds_toArray, List.set]
        refine up_take (i := 2) (v := .pointer (some ⟨x, 0, none⟩)) rfl (by kernel_rfl) (by kernel_rfl) (fun _ _ _ h => h) (Or.inl ⟨by rfl, ?_⟩) hd2 ?_
        · intro w' _; go_simp
        try simp only [List.getElem_toArray, List.getElem_cons_succ, List.getElem_cons_zero, Act.put, List.setIfInBounds_toArray, List.set]
        refine up_take (i := 3) (v := .pointer (some ⟨g, 0, none⟩)) rfl (by kernel_rfl) (by kernel_rfl) (fun _ _ _ h => h) (Or.inl ⟨by rfl, ?_⟩) hd2 ?_
        · intro w' hS'
          obtain ⟨c0, _, _⟩ := FoAt.cells (HX.out _ hS')
          clear hS'
          go_simp
        try simp only [List.getElem_toArray, List.getElem_cons_succ, List.getElem_cons_zero, Act.put, List.setIfInBounds_toArray, List.set]
        refine up_take (i := 4) (v := .pointer (some ⟨x, 0, none⟩)) rfl (by kernel_rfl) (by kernel_rfl) (fun _ _ _ h => h) (Or.inl ⟨by rfl, ?_⟩) hd2 ?_
        · intro w' _; go_simp
        try simp only [List.getElem_toArray, List.getElem_cons_succ, List.getElem_cons_zero, Act.put, List.setIfInBounds_toArray, List.set]
        refine up_take (i := 5) (v := .int .i64 J) rfl (by kernel_rfl) (by kernel_rfl) (fun _ _ _ h => h) (Or.inl ⟨by rfl, ?_⟩) hd2 ?_
        · intro w' _; go_simp
        try simp only [List.getElem_toArray, List.getElem_cons_succ, List.getElem_cons_zero, Act.put, List.setIfInBounds_toArray, List.set]
        refine up_take (i := 6) (v := .pointer (some ⟨z, J, none⟩)) rfl (by kernel_rfl) (by kernel_rfl) (fun _ _ _ h => h) (Or.inl ⟨by rfl, ?_⟩) hd2 ?_
        · intro w' _; go_simp
        try simp only [List.getElem_toArray, List.getElem_cons_succ, List.getElem_cons_zero, Act.put, List.setIfInBounds_toArray, List.set]
        refine up_take (i := 7) (v := .int .u8 (F : Nat)) rfl (by kernel_rfl) (by kernel_rfl) (fun _ _ _ h => h) (Or.inl ⟨by rfl, ?_⟩) hd2 ?_
        · intro w' hS'
          have cz := HCz.out _ hS'
          clear hS'
          go_simp
        try simp only [List.getElem_toArray, List.getElem_cons_succ, List.getElem_cons_zero, Act.put, List.setIfInBounds_toArray, List.set]
        refine up_take (i := 9) (v := .agg lv.toArray) rfl (by kernel_rfl) (by kernel_rfl) (fun _ _ _ h => h) (Or.inl ⟨by rfl, ?_⟩) hd2 ?_
        · intro w' hS'; exact exec_load _ _ 126 _ rfl y 0 rfl _ (HLl.out w' hS')
        try simp only [List.getElem_toArray, List.getElem_cons_succ, List.getElem_cons_zero, Act.put, List.setIfInBounds_toArray, List.set]
        refine up_one 8 _ rfl (by kernel_rfl) (by decide) (by rfl) (fun K hK => ?_)
        go_simp
        refine (Hat.out _ hd2).mono ?_
        rintro e w8 ⟨rfl, rfl⟩
        refine hK _ _ hd2 ?_
        clear hK K
        try simp only [List.getElem_toArray, List.getElem_cons_succ, List.getElem_cons_zero, Act.put, List.setIfInBounds_toArray, List.set]
        refine up_one 10 _ rfl (by kernel_rfl) (by decide) (by rfl) (fun K hK => ?_)
        go_simp
        refine (Hpg.out _).mono ?_
        rintro e w8 ⟨rfl, hb8⟩
        have hd3 := hd2.trans (hb8.mono hd2.size)
        refine hK _ _ hd3 ?_
        clear hK K
        try simp only [List.getElem_toArray, List.getElem_cons_succ, List.getElem_cons_zero, Act.put, List.setIfInBounds_toArray, List.set]
        refine up_tail ?_
        refine up_last 11 _ rfl (by kernel_rfl) (by decide) (by rfl) (fun K hK => ?_)
        go_simp
        refine (Hw.out _ hd3).mono ?_
        rintro e w9 ⟨v9, rfl, hE9, hX9⟩
        obtain rfl := ErrV.zero hE9
        refine hK _ _ ?_
        clear hK K
        try simp only [List.getElem_toArray, List.getElem_cons_succ, List.getElem_cons_zero, Act.put, List.setIfInBounds_toArray, List.set]
        refine up_last 12 _ rfl (by kernel_rfl) (by decide) (by rfl) (fun K hK => ?_)
        go_simp
        refine hK _ _ ?_
        clear hK K
        try simp only [List.getElem_toArray, List.getElem_cons_succ, List.getElem_cons_zero, Act.put, List.setIfInBounds_toArray, List.set]
        refine up_done (by kernel_rfl) ?_ _
        have hzr9 := hX9.at_ (x := (z, Obj.cells rv.toArray 86 (0, 0))) (by simp)
        have hrV : pageV R = .agg rv.toArray := by rw [Hrv.out]; rfl
        have hrr : Hid ((Tryz.prog.info? 86).map (·.size) = some rv.toArray.size) := by rw [Hrv.out]; exact rootsInfo hRl
        have Hw2 := Lib.hid (show Calls Tryz.prog 68 #[.pointer (some ⟨x, 0, none⟩), .agg rv.toArray] w9 (TqP (fun u w' => ErrV w' 0 u ∧ OwnX { b with txn := t2 } gd g T w0 w')) by
          rw [← hrV]
          refine write_of (hX9.fo hTk) R hRl (fun W hW => ?_)
          have := ((hX9.drop).below hW).write Ho1.out ((first : Nat) : Int) R hRl
          rw [He2.out] at this; exact this)
        clear hX9 hE9 Hw Hpg Hat HLl HCz HX hrV hTk
        go_wp2_with (first
          | (refine wpList_load_row rfl 86 _ rfl z rfl 86 rv.toArray (0, 0) _ hzr9 Tryz.underlying86 rfl hrr.out ?_)
          | (go_at_call 68; refine Hw2.out.mono ?_))
        rintro e wf ⟨u, rfl, hEu, hXu⟩
        have Hfin := Lib.hid (show SetP b gd g T w0 first n v X m (.returned u) wf from ⟨u, rfl, .inl ⟨hEu, t2, hXu, Hfo.out, Hl2.out⟩⟩)
        clear hEu hXu Hw2 hzr9
        go_wp2
        first | exact Hfin.out | (go_ret; exact Hfin.out) | refine bodyPost_ret (v := u) (by simp [results, Tryz.results43, go_sem]) rfl Hfin.out
    · have hc0' : ¬ ((C : Int) = 0) := by omega
      have hat0 : at8 (contB b first) (X / 16) ≠ 0 := fun h => hc0 (by rw [← HC.out, ← Hq.out, ← HJX.out, h]; rfl)
      have hrep1 := HrX.out.turn hX1024 h3 hat0 (by rw [hLX]; exact hzz)
      rw [hLX] at hrep1
      have hCX : (at8 (contB b first) (X / 16)).toNat = C := by rw [Hq.out, HJX.out]; exact HC.out
      rw [hCX] at hrep1
      have hrepN : Rep (upd (upd (contB b) (first + C) (pageL L)) first q) first n (setV v X m) := hrep1.congr (fun i hi => by
        by_cases e : i = 0
        · subst e
          show upd _ first q (first + 0) = _
          rw [Nat.add_zero]
          unfold upd
          rw [if_pos rfl, if_neg (by omega)]
          exact Hq.out.symm
        · unfold upd
          rw [if_neg (by omega)])
      have HrepN := Lib.hid hrepN
      have Hzk := Lib.hid hzk; have Hbk := Lib.hid hbk
      clear hrep1 hat0 hCX hrepN hbk
      go_wp2_with (first
        | (refine wpList_load_row rfl 126 _ rfl y rfl 126 lv.toArray (0, 0) _ hyk Tryz.underlying126 rfl hli.out ?_)
        | (refine wpList_buildZ 126 rfl zn hbz.out (by rfl) ?_))
      clear czq fzq heq hc0' hzk
      have hrepN := HrepN.out; have hzk := Hzk.out; have hbk := Hbk.out
      clear HrepN Hzk Hbk
      obtain ⟨R, hRe⟩ : ∃ R, q = R := ⟨_, rfl⟩
      have hRl := hql
      have hFC := HC.out
      rw [Hqv.out] at hzk
      rw [hRe] at hRl hFC hrepN hzk
      obtain ⟨F, hFe⟩ : ∃ F, C = F := ⟨_, rfl⟩
      have hFn := hcn
      rw [hFe] at hFn hrepN hFC
      obtain ⟨wk, hwk⟩ : ∃ wk, w6 = wk := ⟨_, rfl⟩
      rw [hwk] at hzk hyk hbk ⊢
      clear hwk hFe hRe
      obtain ⟨t1, t2, e1, o1, e2, l2, hfo⟩ := hF.two (by omega) hFn (pageL_len L) hRl
      have Hfo := Lib.hid (hfo _ hrepN); have Hl2 := Lib.hid l2; have He1 := Lib.hid e1; have He2 := Lib.hid e2; have Ho1 := Lib.hid o1
      clear hfo hrepN l2 e1 e2 o1
      have hXk := h.hold hbk hzw hzk
      have hTk : (x, foO g first n) ∈ ((z, Obj.cells (R.map cu8).toArray 86 (0, 0)) :: T) := List.mem_cons_of_mem _ hT
      obtain ⟨rv, Hrv⟩ : ∃ rv : List Value, Hid (rv = R.map cu8) := ⟨_, rfl⟩
      rw [← Hrv.out] at hXk hTk
      have hzl := (Array.getElem?_eq_some_iff.1 hzk).1
      have hyl := (Array.getElem?_eq_some_iff.1 hyk).1
      have HX := Lib.hid (fun W (hW : Below wk.heap.size wk W) => (hXk.fo hTk).below hW)
      have HCz := Lib.hid (fun W (hW : Below wk.heap.size wk W) => (show W.cell? ⟨z, J, none⟩ = some (.int .u8 (F : Int)) by
        rw [cell_of_row W z J _ _ _ ((hW.block z hzl).trans hzk), List.getElem?_toArray, List.getElem?_map, at8_take_list (by omega), ← hFC, ← cu8N]; rfl))
      have hli2 : Hid ((Tryz.prog.info? 126).map (·.size) = some lv.length) := by have := hli.out; rw [List.size_toArray] at this; exact this
      have HLl := Lib.hid (fun W (hW : Below wk.heap.size wk W) => run_loadAt_mid (P := Tryz.prog) W y 0 126 lv _ (fun j v hj => by rw [Nat.zero_add, cell_of_row W y j _ _ _ ((hW.block y hyl).trans hyk)]; simpa using hj) Tryz.underlying126 rfl hli2.out)
      obtain ⟨A, hA⟩ : ∃ A : Nat, first + F = A := ⟨_, rfl⟩
      have Hat := Lib.hid (fun W (hW : Below wk.heap.size wk W) => (show Calls Tryz.prog 71 #[.pointer (some ⟨x, 0, none⟩), .int .u8 (F : Int)] W (SameQ (.int .i64 (A : Nat)) W) by
        have := leafAt_any (HX.out W hW) (by omega) (at8 R J)
        rw [hFC, hA] at this; exact this))
      obtain ⟨pv, Hpv⟩ : ∃ pv : List Value, Hid (pv = (pageL L).map cu8) := ⟨_, rfl⟩
      have hpV : pageV (pageL L) = .agg pv.toArray := by rw [Hpv.out]; rfl
      have Hpg := Lib.hid (fun W => (show Calls Tryz.prog 72 #[.agg lv.toArray] W (RetQ (.agg pv.toArray) W) by
        have := lpage_any (w := W) L hLl hLs
        rw [hpV] at this
        unfold leafV at this
        rw [← Hlv.out] at this; exact this))
      have Hw := Lib.hid (fun W (hW : Below wk.heap.size wk W) => (show Calls Tryz.prog 70 #[.pointer (some ⟨g, 0, none⟩), .int .i64 (A : Nat), .agg pv.toArray] W (OwnXP { b with txn := t1 } 0 gd g ((z, Obj.cells rv.toArray 86 (0, 0)) :: T) w0) by
        have := (hXk.below hW).write hF.ok ((first + F : Nat) : Int) (pageL L) (pageL_len L)
        rw [He1.out, hpV, hA] at this; exact this))
      have HA := Lib.hid hA
      clear hA hXk hzl hyl hzk hyk hFC
      refine wp_region_up 11 (fun w' => Below wk.heap.size wk w') (by kernel_rfl) ?_
      have hd2 : Below wk.heap.size wk { wk with drawn := wk.drawn + 1 } := ⟨rfl, rfl, rfl, Nat.le_refl _, fun _ _ => rfl⟩
      obtain ⟨wd, hdr⟩ : ∃ wd : World, ({ wk with drawn := wk.drawn + 1 } : World) = wd := ⟨_, rfl⟩
      rw [hdr] at hd2 ⊢
      clear hdr
      refine up_take (i := 0) (v := .pointer (some ⟨x, 0, none⟩)) rfl (by kernel_rfl) (by kernel_rfl) (fun _ _ _ h => h) (Or.inl ⟨by rfl, ?_⟩) hd2 ?_
      · intro w' _; go_simp
      try simp only [List.getElem_toArray, List.getElem_cons_succ, List.getElem_cons_zero, Act.put, List.setIfInBounds_toArray, List.set]
      refine up_take (i := 1) (v := .pointer (some ⟨x, 0, none⟩)) rfl (by kernel_rfl) (by kernel_rfl) (fun _ _ _ h => h) (Or.inl ⟨by rfl, ?_⟩) hd2 ?_
      · intro w' _; go_simp
      try simp only [List.getElem_toArray, List.getElem_cons_succ, List.getElem_cons_zero, Act.put, List.setIfInBounds_toArray, List.set]
      refine up_take (i := 2) (v := .pointer (some ⟨x, 0, none⟩)) rfl (by kernel_rfl) (by kernel_rfl) (fun _ _ _ h => h) (Or.inl ⟨by rfl, ?_⟩) hd2 ?_
      · intro w' _; go_simp
      try simp only [List.getElem_toArray, List.getElem_cons_succ, List.getElem_cons_zero, Act.put, List.setIfInBounds_toArray, List.set]
      refine up_take (i := 3) (v := .pointer (some ⟨g, 0, none⟩)) rfl (by kernel_rfl) (by kernel_rfl) (fun _ _ _ h => h) (Or.inl ⟨by rfl, ?_⟩) hd2 ?_
      · intro w' hS'
        obtain ⟨c0, _, _⟩ := FoAt.cells (HX.out _ hS')
        clear hS'
        go_simp
      try simp only [List.getElem_toArray, List.getElem_cons_succ, List.getElem_cons_zero, Act.put, List.setIfInBounds_toArray, List.set]
      refine up_take (i := 4) (v := .pointer (some ⟨x, 0, none⟩)) rfl (by kernel_rfl) (by kernel_rfl) (fun _ _ _ h => h) (Or.inl ⟨by rfl, ?_⟩) hd2 ?_
      · intro w' _; go_simp
      try simp only [List.getElem_toArray, List.getElem_cons_succ, List.getElem_cons_zero, Act.put, List.setIfInBounds_toArray, List.set]
      refine up_take (i := 5) (v := .int .i64 J) rfl (by kernel_rfl) (by kernel_rfl) (fun _ _ _ h => h) (Or.inl ⟨by rfl, ?_⟩) hd2 ?_
      · intro w' _; go_simp
      try simp only [List.getElem_toArray, List.getElem_cons_succ, List.getElem_cons_zero, Act.put, List.setIfInBounds_toArray, List.set]
      refine up_take (i := 6) (v := .pointer (some ⟨z, J, none⟩)) rfl (by kernel_rfl) (by kernel_rfl) (fun _ _ _ h => h) (Or.inl ⟨by rfl, ?_⟩) hd2 ?_
      · intro w' _; go_simp
      try simp only [List.getElem_toArray, List.getElem_cons_succ, List.getElem_cons_zero, Act.put, List.setIfInBounds_toArray, List.set]
      refine up_take (i := 7) (v := .int .u8 (F : Nat)) rfl (by kernel_rfl) (by kernel_rfl) (fun _ _ _ h => h) (Or.inl ⟨by rfl, ?_⟩) hd2 ?_
      · intro w' hS'
        have cz := HCz.out _ hS'
        clear hS'
        go_simp
      try simp only [List.getElem_toArray, List.getElem_cons_succ, List.getElem_cons_zero, Act.put, List.setIfInBounds_toArray, List.set]
      refine up_take (i := 9) (v := .agg lv.toArray) rfl (by kernel_rfl) (by kernel_rfl) (fun _ _ _ h => h) (Or.inl ⟨by rfl, ?_⟩) hd2 ?_
      · intro w' hS'; exact exec_load _ _ 126 _ rfl y 0 rfl _ (HLl.out w' hS')
      try simp only [List.getElem_toArray, List.getElem_cons_succ, List.getElem_cons_zero, Act.put, List.setIfInBounds_toArray, List.set]
      refine up_one 8 _ rfl (by kernel_rfl) (by decide) (by rfl) (fun K hK => ?_)
      go_simp
      refine (Hat.out _ hd2).mono ?_
      rintro e w8 ⟨rfl, rfl⟩
      refine hK _ _ hd2 ?_
      clear hK K
      try simp only [List.getElem_toArray, List.getElem_cons_succ, List.getElem_cons_zero, Act.put, List.setIfInBounds_toArray, List.set]
      refine up_one 10 _ rfl (by kernel_rfl) (by decide) (by rfl) (fun K hK => ?_)
      go_simp
      refine (Hpg.out _).mono ?_
      rintro e w8 ⟨rfl, hb8⟩
      have hd3 := hd2.trans (hb8.mono hd2.size)
      refine hK _ _ hd3 ?_
      clear hK K
      try simp only [List.getElem_toArray, List.getElem_cons_succ, List.getElem_cons_zero, Act.put, List.setIfInBounds_toArray, List.set]
      refine up_tail ?_
      refine up_last 11 _ rfl (by kernel_rfl) (by decide) (by rfl) (fun K hK => ?_)
      go_simp
      refine (Hw.out _ hd3).mono ?_
      rintro e w9 ⟨v9, rfl, hE9, hX9⟩
      obtain rfl := ErrV.zero hE9
      refine hK _ _ ?_
      clear hK K
      try simp only [List.getElem_toArray, List.getElem_cons_succ, List.getElem_cons_zero, Act.put, List.setIfInBounds_toArray, List.set]
      refine up_last 12 _ rfl (by kernel_rfl) (by decide) (by rfl) (fun K hK => ?_)
      go_simp
      refine hK _ _ ?_
      clear hK K
      try simp only [List.getElem_toArray, List.getElem_cons_succ, List.getElem_cons_zero, Act.put, List.setIfInBounds_toArray, List.set]
      refine up_done (by kernel_rfl) ?_ _
      have hzr9 := hX9.at_ (x := (z, Obj.cells rv.toArray 86 (0, 0))) (by simp)
      have hrV : pageV R = .agg rv.toArray := by rw [Hrv.out]; rfl
      have hrr : Hid ((Tryz.prog.info? 86).map (·.size) = some rv.toArray.size) := by rw [Hrv.out]; exact rootsInfo hRl
      have Hw2 := Lib.hid (show Calls Tryz.prog 68 #[.pointer (some ⟨x, 0, none⟩), .agg rv.toArray] w9 (TqP (fun u w' => ErrV w' 0 u ∧ OwnX { b with txn := t2 } gd g T w0 w')) by
        rw [← hrV]
        refine write_of (hX9.fo hTk) R hRl (fun W hW => ?_)
        have := ((hX9.drop).below hW).write Ho1.out ((first : Nat) : Int) R hRl
        rw [He2.out] at this; exact this)
      clear hX9 hE9 Hw Hpg Hat HLl HCz HX hrV hTk
      go_wp2_with (first
        | (refine wpList_load_row rfl 86 _ rfl z rfl 86 rv.toArray (0, 0) _ hzr9 Tryz.underlying86 rfl hrr.out ?_)
        | (go_at_call 68; refine Hw2.out.mono ?_))
      rintro e wf ⟨u, rfl, hEu, hXu⟩
      have Hfin := Lib.hid (show SetP b gd g T w0 first n v X m (.returned u) wf from ⟨u, rfl, .inl ⟨hEu, t2, hXu, Hfo.out, Hl2.out⟩⟩)
      clear hEu hXu Hw2 hzr9
      go_wp2
      first | exact Hfin.out | (go_ret; exact Hfin.out) | refine bodyPost_ret (v := u) (by simp [results, Tryz.results43, go_sem]) rfl Hfin.out
end
end Go.Proofs.YtfagnbjjffjcbaaGreatDoor
