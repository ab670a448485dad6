/-
  Package depot: Worst, Slots.
-/
import Derived.Test.YtjkkbceddbkejaaGreatDoorDpSlice
set_option linter.unusedSimpArgs false
set_option linter.unusedVariables false
namespace Go.Proofs.YtjkkbceddbkejaaGreatDoor
open Go.RowKit Sh Go.Maps Go.Extern.Stop Go.Stop Go.Extern

theorem infoInt' : (Tryz.prog.info? 3).map (fun i => (i.zero, i.size, i.bytes)) = some (some (.int .i64 0), 1, 8) := by kernel_rfl
theorem ownForm {w : World} {B : Nat} {e : TypeId} {s n : Nat} {v : Value} {xs : List Value} (h : w.ownsRow B e s v n xs) : ∃ ao cap, v = .slice ao n cap := by
  rcases h.2 with ⟨hv, h0⟩ | ⟨g, cap, cur, hv, _⟩
  · exact ⟨none, 0, by rw [hv, h0]⟩
  · exact ⟨_, _, hv⟩
section
variable {b : Bk} {gd g first n x : Nat} {T : List (Nat × Obj)} {w0 w : World} {hs : List (List UInt8)} {bl : Nat → List UInt8}
set_option maxRecDepth 100000 in
set_option maxHeartbeats 16000000 in
theorem OwnX.dworst (h : OwnX b gd g T w0 w) (hT : (x, depO g first n) ∈ T) (hD : De b first n hs bl) (hf : first ≤ 2000) (hn : n ≤ 64) :
    Calls Tryz.prog 98 #[.pointer (some ⟨x, 0, none⟩)] w (TQ3 (.int .i64 ((worstL hs).1 : Nat)) (.int .i64 ((worstL hs).2 : Nat)) 0 (fun w' => Below w.heap.size w w')) := by
  have Hh := Lib.hid (heads_any h hT hD hf hn)
  have hlen := hD.len
  have hH := hD.hd
  have n0 : (0 : Int) ≤ (n : Int) := by omega
  have HH := Lib.hid hH; have HL := Lib.hid hlen
  obtain ⟨G, hG⟩ : ∃ G, worstL hs = G := ⟨_, rfl⟩
  have HG := Lib.hid (show worstAt 0 hs (0, 0) = G from hG)
  rw [hG]
  obtain ⟨zn, Hzn⟩ : ∃ zn : Array Value, Hid (zn = zeroHead) := ⟨_, rfl⟩
  have hal : ∀ w : World, (Instr.alloc 91 true (.tuple #[])).run Tryz.prog w = .ok (.pointer (some ⟨w.heap.size, 0, none⟩)) (w.alloc (.cells zn 91)) := by rw [Hzn.out]; exact allocHead
  clear h hD hH hlen hG
  go_enter Tryz.func98, Tryz.ntmps98
  go_wp2_with (first
    | (go_at_call 39; refine Hh.out.mono ?_))
  rintro e w1 ⟨y, rfl, hy1, hb1, hyw⟩
  clear Hh hyw
  go_wp2
  go_loopg [22, 7, 8] n (fun m v vo vm wr => ∃ (k wo mo : Nat), m = n - k ∧ k ≤ n ∧ v = .int .i64 k ∧ vo = .int .i64 (wo : Nat) ∧ vm = .int .i64 (mo : Nat) ∧ worstAt k (hs.drop k) (wo, mo) = G ∧ wr.heap[y]? = some (.cells (rowH hs) 91 (0, 0)) ∧ Below w.heap.size w wr)
  case atStart => exact ⟨0, 0, 0, rfl, by omega, rfl, rfl, rfl, (by rw [List.drop_zero]; exact HG.out), hy1, hb1⟩
  case round =>
    clear hb1 hy1
    obtain ⟨k, wo, mo, rfl, hk, rfl, rfl, rfl, hwo, hyr, hb⟩ := hrel
    by_cases hlt : k < n
    · have hlt' : (k : Int) < (n : Int) := by omega
      have hks : k < hs.length := by rw [HL.out]; exact hlt
      rw [drop_at hks] at hwo
      have hHk := HH.out _ (getD_mem hks).1
      have hrow := rowH_at (fun h hh => (HH.out h hh).len) hks hyr
      obtain ⟨hd0, hhd0⟩ : ∃ hd0, hs.getD k [] = hd0 := ⟨_, rfl⟩
      rw [hhd0] at hHk hrow hwo
      have hdl := hHk.len
      obtain ⟨hv, Hhv⟩ : ∃ hv : List Value, Hid (hv = hd0.map cu8) := ⟨_, rfl⟩
      rw [← Hhv.out] at hrow
      have HRg := Lib.hid hrow
      have hV : headV hd0 = .agg hv.toArray := by rw [Hhv.out]; rfl
      have hcn := fun (W : World) => hcount_any (w := W) hd0 hdl 2
      rw [hV] at hcn
      obtain ⟨c2, hc2⟩ : ∃ c2, hd0.count 2 = c2 := ⟨_, rfl⟩
      have Hc2 := Lib.hid (fun W => (show Calls Tryz.prog 40 #[.agg hv.toArray, .int .u8 2] W (RetP (.int .i64 (c2 : Nat)) W) by have := hcn W; rw [hc2, cu8_nat] at this; exact this))
      have hstep : worstAt (k + 1) (hs.drop (k + 1)) (if mo < c2 then (k, c2) else (wo, mo)) = G := by
        rw [← hwo]; conv => rhs; unfold worstAt
        rw [hc2]
      have hvl : hv.length = 4 := by rw [Hhv.out]; simp [hdl]
      have hi : Hid ((Tryz.prog.info? 91).map (·.size) = some hv.toArray.size) := by rw [List.size_toArray, hvl]; exact infoHead
      have hi4 : Hid ((Tryz.prog.info? 91).map (·.size) = some hv.length) := by rw [hvl]; exact infoHead
      have hz : Hid (zn.size = hv.toArray.size) := by
        have e : hv.toArray.size = 4 := by rw [List.size_toArray, hvl]
        rw [e, Hzn.out]; exact (rfl : zeroHead.size = 4)
      have h1 : Hid (hv.toArray.all (·.oneCell') = true) := by rw [Hhv.out]; exact bytes_one _
      have hb3 : Below wr.heap.size wr (wr.alloc (.cells hv.toArray 91)) := (Below.refl _ _).alloc (Nat.le_refl _) _
      have hx3 : (wr.alloc (.cells hv.toArray 91)).heap[wr.heap.size]? = some (.cells hv.toArray 91 (0, 0)) := heap_alloc_new wr _
      have hyr3 := (hb3.block y (Array.getElem?_eq_some_iff.1 hyr).1).trans hyr
      have hbw3 := hb.trans (hb3.mono hb.size)
      clear hV hrow hb hb3 hyr hHk hhd0 hcn hc2 hwo hdl hvl
      go_wp2_with (first
        | (refine wpList_alloc_arr rfl 91 rfl _ hal ?_)
        | (refine wpList_load_mid rfl 91 _ rfl y (k * 4) rfl hv _ HRg.out Tryz.underlying91 rfl hi4.out ?_)
        | (refine wpList_store_new rfl 91 _ _ rfl wr.heap.size rfl hv.toArray rfl rfl 91 _ hi.out hz.out h1.out ?_)
        | (refine wpList_load_row rfl 91 _ rfl wr.heap.size rfl 91 hv.toArray (0, 0) _ hx3 Tryz.underlying91 rfl hi.out ?_)
        | (go_at_call 40; refine (Hc2.out _).mono ?_))
      rintro e w4 ⟨rfl, hb4⟩
      have hyr4 := (hb4.block y (Array.getElem?_eq_some_iff.1 hyr3).1).trans hyr3
      have hbw4 := hbw3.trans (hb4.mono hbw3.size)
      have Hyr4 := Lib.hid hyr4; have Hbw4 := Lib.hid hbw4; have Hst := Lib.hid hstep
      clear hx3 hyr3 hbw3 hb4 Hc2 HRg hyr4 hbw4 hstep
      by_cases hmo : mo < c2
      · have hmo' : (mo : Int) < (c2 : Int) := by omega
        have hst := Hst.out
        rw [if_pos hmo] at hst
        have Hst2 := Lib.hid hst
        clear Hst hst
        go_wp2
        go_roundg (n - (k + 1))
        case measure => omega
        case rel => exact ⟨k + 1, k, c2, rfl, by omega, by go_num, rfl, rfl, Hst2.out, Hyr4.out, Hbw4.out⟩
      · have hmo' : ¬ ((mo : Int) < (c2 : Int)) := by omega
        have hst := Hst.out
        rw [if_neg hmo] at hst
        have Hst2 := Lib.hid hst
        clear Hst hst
        go_wp2
        go_roundg (n - (k + 1))
        case measure => omega
        case rel => exact ⟨k + 1, wo, mo, rfl, by omega, by go_num, rfl, rfl, Hst2.out, Hyr4.out, Hbw4.out⟩
    · obtain rfl : k = n := by omega
      have hlt' : ¬ ((k : Int) < (k : Int)) := by omega
      have e1 : hs.drop k = [] := List.drop_eq_nil_of_le (by rw [HL.out]; exact Nat.le_refl _)
      rw [e1] at hwo
      have hGf : (wo, mo) = G := hwo
      subst hGf
      have Hfin := Lib.hid (show TQ3 (.int .i64 (wo : Nat)) (.int .i64 (mo : Nat)) 0 (fun w' => Below w.heap.size w w') (.returned (.tuple #[.int .i64 (wo : Nat), .int .i64 (mo : Nat), .nilIface])) wr from ⟨_, rfl, ErrV.nil, hb⟩)
      clear hyr hb hwo e1
      go_wp2
      first | exact Hfin.out | (go_ret; exact Hfin.out) | refine bodyPost_ret (v := .tuple #[.int .i64 (wo : Nat), .int .i64 (mo : Nat), .nilIface]) (by simp [results, Tryz.results98, go_sem]) rfl Hfin.out
theorem keepsB (w : World) : Keeps (fun w' => Below w.heap.size w w') := fun _ _ h hb => h.trans (hb.mono h.size)
/-- Worst. -/
theorem OwnX.dWorst (h : OwnX b gd g T w0 w) (hT : (x, depO g first n) ∈ T) (hD : De b first n hs bl) (hf : first ≤ 2000) (hn : n ≤ 64) :
    Calls Tryz.prog 63 #[.pointer (some ⟨x, 0, none⟩)] w (TQ3 (.int .i64 ((worstL hs).1 : Nat)) (.int .i64 ((worstL hs).2 : Nat)) 0 (fun w' => Below w.heap.size w w')) :=
  dWorst_of (keepsB w) (h.dworst hT hD hf hn)
/-- A slice of new numbers, and no error. -/
def SlotsP (L : List Nat) (w : World) (e : Ending) (w' : World) : Prop := ∃ ap cp v, e = .returned (.tuple #[.slice ap L.length cp, v]) ∧ ErrV w' 0 v ∧ w'.ownsRow w.heap.size 3 1 (.slice ap L.length cp) L.length (slI L) ∧ Below w.heap.size w w'
set_option maxRecDepth 100000 in
set_option maxHeartbeats 16000000 in
theorem OwnX.dslots (h : OwnX b gd g T w0 w) (hT : (x, depO g first n) ∈ T) (hD : De b first n hs bl) (hf : first ≤ 2000) (hn : n ≤ 64) {k : Nat} (hk : k < n) :
    Calls Tryz.prog 99 #[.pointer (some ⟨x, 0, none⟩), .int .i64 k] w (SlotsP (slotsH (k * 4) (hs.getD k []) 4) w) := by
  have hdh := h.dhead hT hD hf hn hk
  obtain ⟨_, _, c2⟩ := (h.dep hT).cells
  have hhd := hD.hd _ (getD_mem (hs := hs) (k := k) (by rw [hD.len]; exact hk)).1
  obtain ⟨hd0, hhd0⟩ : ∃ hd0, hs.getD k [] = hd0 := ⟨_, rfl⟩
  rw [hhd0] at hhd hdh ⊢
  have hdl := hhd.len
  obtain ⟨hv, Hhv⟩ : ∃ hv : List Value, Hid (hv = hd0.map cu8) := ⟨_, rfl⟩
  have hV : headV hd0 = .agg hv.toArray := by rw [Hhv.out]; rfl
  rw [hV] at hdh
  have hvl : hv.length = 4 := by rw [Hhv.out]; simp [hdl]
  have hi : Hid ((Tryz.prog.info? 91).map (·.size) = some hv.toArray.size) := by rw [List.size_toArray, hvl]; exact infoHead
  have hz : Hid (zeroHead.size = hv.toArray.size) := by
    have e : hv.toArray.size = 4 := by rw [List.size_toArray, hvl]
    rw [e]; exact (rfl : zeroHead.size = 4)
  have h1 : Hid (hv.toArray.all (·.oneCell') = true) := by rw [Hhv.out]; exact bytes_one _
  obtain ⟨zn, Hzn⟩ : ∃ zn : Array Value, Hid (zn = zeroHead) := ⟨_, rfl⟩
  rw [← Hzn.out] at hz
  have hal : ∀ w : World, (Instr.alloc 91 true (.tuple #[])).run Tryz.prog w = .ok (.pointer (some ⟨w.heap.size, 0, none⟩)) (w.alloc (.cells zn 91)) := by rw [Hzn.out]; exact allocHead
  have Hix := Lib.hid (fun (j : Nat) (c : UInt8) (hc : hd0[j]? = some c) (hj : j < 4) (W : World) => (show (Instr.index 91 (.agg hv.toArray) (.int .i64 (j : Int))).run Tryz.prog W = .ok (.int .u8 (c.toNat : Int)) W from
    run_index_row _ _ 4 Tryz.underlying91 Tryz.underlying5 (by kernel_rfl) hv.toArray j hj _ (by rw [List.getElem?_toArray, Hhv.out, List.getElem?_map, hc, ← cu8_nat]; rfl) W))
  have hk1 : ¬ ((k : Int) < 0) := by omega
  have hk2 : ¬ ((n : Int) ≤ (k : Int)) := by omega
  have Hdh := Lib.hid hdh
  obtain ⟨i0, hi0, hzz⟩ := Option.map_eq_some_iff.1 infoInt'
  simp only [Prod.mk.injEq] at hzz
  have Hi0 := Lib.hid hi0; have Hzz := Lib.hid hzz
  obtain ⟨B, hB⟩ : ∃ B, w.heap.size = B := ⟨_, rfl⟩
  have HB := Lib.hid hB
  have hhl := hdl
  clear hdh hhd0 hhd hV hi0 hzz hB h hD
  go_enter Tryz.func99, Tryz.ntmps99
  go_wp2_with (first
    | (go_at_call 77; refine Hdh.out.mono ?_))
  rintro e w2 ⟨rfl, hb2⟩
  have hb3 : Below w2.heap.size w2 (w2.alloc (.cells hv.toArray 91)) := (Below.refl _ _).alloc (Nat.le_refl _) _
  have hx3 : (w2.alloc (.cells hv.toArray 91)).heap[w2.heap.size]? = some (.cells hv.toArray 91 (0, 0)) := heap_alloc_new w2 _
  have Hbw3 := Lib.hid (hb2.trans (hb3.mono hb2.size))
  clear hb2 hb3 c2 Hdh
  go_wp2_with (first
    | (refine wpList_alloc_arr rfl 91 rfl _ hal ?_)
    | (refine wpList_store_new rfl 91 _ _ rfl w2.heap.size rfl hv.toArray rfl rfl 91 _ hi.out hz.out h1.out ?_)
    | (refine wpList_load_row rfl 91 _ rfl w2.heap.size rfl 91 hv.toArray (0, 0) _ hx3 Tryz.underlying91 rfl hi.out ?_))
  have hbw3 := Hbw3.out
  clear hx3 Hbw3
  generalize w2.alloc (.cells hv.toArray 91) = w3 at hbw3 ⊢
  go_loopg [36, 8] 4 (fun m v sv wr => ∃ (j : Nat) (L : List Nat), m = 4 - j ∧ j ≤ 4 ∧ v = .int .i64 j ∧ L = slotsH (k * 4) hd0 j ∧ L.length ≤ j ∧ wr.ownsRow w.heap.size 3 1 sv L.length (slI L) ∧ Below w.heap.size w wr)
  case atStart => exact ⟨0, [], rfl, by omega, rfl, rfl, by simp, World.ownsRow_nil _ _ _ _, hbw3⟩
  case round =>
    clear hbw3
    obtain ⟨j, L, rfl, hj, rfl, hL, hLj, hown, hb⟩ := hrel
    obtain ⟨ap, cp, rfl⟩ := ownForm hown
    by_cases hlt : j < 4
    · have hlt' : (j : Int) < 4 := by omega
      obtain ⟨c, hc⟩ : ∃ c, hd0[j]? = some c := ⟨_, List.getElem?_eq_getElem (by omega)⟩
      have hix := Hix.out j c hc hlt
      have hst := slotsH_step (base := k * 4) hc
      obtain ⟨C, hC⟩ : ∃ C : Nat, c.toNat = C := ⟨_, rfl⟩
      rw [hC] at hix
      by_cases e : c = 1
      · subst e
        rw [if_pos rfl, ← hL] at hst
        have hC1 : (C : Int) = 1 := by have : ((1 : UInt8).toNat) = 1 := rfl; omega
        obtain ⟨s, hs'⟩ : ∃ s, k * 4 + j = s := ⟨_, rfl⟩
        rw [hs'] at hst
        have w1 : IntKind.i64.wrap ((k : Int) * 4) = (k : Int) * 4 := IntWalk.i64_in _ (by omega)
        have w2 : IntKind.i64.wrap ((k : Int) * 4 + (j : Int)) = (s : Int) := by rw [IntWalk.i64_in _ (by omega)]; omega
        have hBs : B ≤ wr.heap.size := by have := hb.size; have := HB.out; omega
        obtain ⟨J, hJ⟩ : ∃ J, L.length = J := ⟨_, rfl⟩
        have hJ4 : J ≤ 4 := by omega
        have Hst := Lib.hid hst; have Hb := Lib.hid hb; have HJ := Lib.hid hJ
        obtain ⟨hq0, hq1, hq2⟩ := Hzz.out
        have hi0 := Hi0.out
        rw [HB.out, hJ] at hown
        rw [hJ]
        clear hst hb hL hC hs' hc
        go_wp2_with (at_builtin; refine wpList_append_lies _ rfl _ _ _ rfl B 3 i0 _ 1 8 Tryz.underlying22 hi0 hq0 hq1 hq2 rfl (by omega) _ J _ rfl (hown.alloc _) ⟨wr.heap.size, 0, none⟩ 1 1 [.int .i64 (s : Nat)] rfl rfl (World.news_of_block (cs := #[.int .i64 (s : Nat)]) (t := 3) (fr := (0, 0)) (heap_alloc_new wr _)) (by simp [Value.oneCell']) (by omega) (by unfold maxLen; omega) (by omega) (by simp; omega) (wr.heap.size + 1) (by simp) ?_)
        intro q cap2 w4 hown4 hgr4 hat4 hlt4
        have hbs5 : Below w.heap.size w w4 := by
          have hbs := Hb.out
          refine ⟨hgr4.os.trans hbs.os, hgr4.tape.trans hbs.tape, hgr4.output.trans hbs.output, Nat.le_trans hbs.size (Nat.le_trans (by simp) hgr4.size), fun q hq => ?_⟩
          have := HB.out
          exact (hgr4.block q (by simp; omega) (fun e => by have := (hown.lt q e.symm).1; omega)).trans ((Below.heap_alloc _ _ _ (by omega)).trans (hbs.block q hq))
        have hown5 : w4.ownsRow w.heap.size 3 1 (.slice (some ⟨q, 0, none⟩) (L ++ [s]).length cap2) (L ++ [s]).length (slI (L ++ [s])) := by
          rw [List.length_append, List.length_singleton, HJ.out, HB.out, show slI (L ++ [s]) = slI L ++ [.int .i64 (s : Nat)] by simp [slI]]
          exact hown4
        have hl5 : (L ++ [s]).length = J + 1 := by rw [List.length_append, List.length_singleton, HJ.out]
        rw [hl5] at hown5
        have Hown5 := Lib.hid hown5; have Hbs5 := Lib.hid hbs5; have Hl5 := Lib.hid hl5
        clear hown hown4 hgr4 hat4 hlt4 Hb hown5 hbs5 hq0 hq1 hq2 hi0 hl5
        go_wp2
        go_roundg (4 - (j + 1))
        case measure => omega
        case rel => exact ⟨j + 1, L ++ [s], rfl, by omega, by go_num, Hst.out.symm, by rw [Hl5.out]; omega, by rw [Hl5.out]; exact Hown5.out, Hbs5.out⟩
      · rw [if_neg e, List.append_nil, ← hL] at hst
        have e2 : ¬ ((C : Int) = 1) := fun h2 => e (UInt8.toNat_inj.1 (by rw [hC]; show C = 1; omega))
        have Hst := Lib.hid hst; have Hb := Lib.hid hb; have Hown := Lib.hid hown
        clear hst hb hL hC hc hown e
        go_wp2
        go_roundg (4 - (j + 1))
        case measure => omega
        case rel => exact ⟨j + 1, L, rfl, by omega, by go_num, Hst.out.symm, by omega, Hown.out, Hb.out⟩
    · obtain rfl : j = 4 := by omega
      subst hL
      have Hfin := Lib.hid (show SlotsP (slotsH (k * 4) hd0 4) w (.returned (.tuple #[.slice ap (slotsH (k * 4) hd0 4).length cp, .nilIface])) wr from ⟨_, _, _, rfl, ErrV.nil, hown, hb⟩)
      clear hb hown hlt
      go_wp2
      first | exact Hfin.out | (go_ret; exact Hfin.out) | refine bodyPost_ret (v := .tuple #[.slice ap (slotsH (k * 4) hd0 4).length cp, .nilIface]) (by simp [results, Tryz.results99, go_sem]) rfl Hfin.out
set_option maxRecDepth 100000 in
/-- Slots. -/
theorem OwnX.dSlots (h : OwnX b gd g T w0 w) (hT : (x, depO g first n) ∈ T) (hD : De b first n hs bl) (hf : first ≤ 2000) (hn : n ≤ 64) {k : Nat} (hk : k < n) :
    Calls Tryz.prog 66 #[.pointer (some ⟨x, 0, none⟩), .int .i64 k] w (SlotsP (slotsH (k * 4) (hs.getD k []) 4) w) := by
  obtain ⟨L, hL⟩ : ∃ L, slotsH (k * 4) (hs.getD k []) 4 = L := ⟨_, rfl⟩
  have hc := h.dslots hT hD hf hn hk
  rw [hL] at hc ⊢
  have Hc := Lib.hid hc
  clear hc h hD hL
  go_enter Tryz.func66, Tryz.ntmps66
  go_wp2_with (first
    | (go_at_call 99; refine Hc.out.mono ?_))
  rintro e w1 ⟨ap, cp, v, rfl, hE, hown, hb⟩
  have Hi := Lib.hid (in_err ⟨#[100, 101, 112, 111, 116, 46, 83, 108, 111, 116, 115]⟩ _ v w1 hE)
  have Hown := Lib.hid hown; have Hb := Lib.hid hb
  clear hE Hc hown hb
  go_wp2_with (first | (go_at_call 35; refine Hi.out.mono ?_))
  rintro e w2 ⟨v2, rfl, hE2, hb2⟩
  have hown2 : w2.ownsRow w.heap.size 3 1 (.slice ap L.length cp) L.length (slI L) := by
    have ho := Hown.out
    rcases ho.2 with ⟨hv, h0⟩ | ⟨q, cap, cur, hv, hq⟩
    · exact ⟨ho.1, .inl ⟨hv, h0⟩⟩
    · refine owns_of_block ho (nb := q) (by rw [hv]; rfl) (hb2.block q ?_)
      exact (Array.getElem?_eq_some_iff.1 hq.2.1).1
  have Hfin := Lib.hid (show SlotsP L w (.returned (.tuple #[.slice ap L.length cp, v2])) w2 from ⟨_, _, v2, rfl, hE2, hown2, Hb.out.trans (hb2.mono Hb.out.size)⟩)
  clear hE2 hb2 Hi hown2 Hown Hb
  go_wp2
  refine bodyPost_ret (v := .tuple #[.slice ap L.length cp, v2]) (by simp [results, Tryz.results66, go_sem]) rfl ?_
  exact Hfin.out
end
end Go.Proofs.YtjkkbceddbkejaaGreatDoor
