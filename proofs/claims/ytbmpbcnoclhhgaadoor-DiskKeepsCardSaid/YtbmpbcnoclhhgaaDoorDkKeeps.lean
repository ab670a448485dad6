/-
  'DiskKeeps': its walk.
-/
import Derived.Test.YtbmpbcnoclhhgaaDoorDkKeepsMem
import Derived.Deep.RegionHeld
namespace Go.Proofs.YtbmpbcnoclhhgaaDoor
open Go.RowKit Sh Go.Extern.Stop Go.Stop Go.Extern

theorem wpAnyH_one {P : Program} {md : Region.Mode} {ops : Array Oper} {Q : Exit → Act → World → Prop} {S : World → Prop} {fuel : Nat} {listed : Array Bool} {a : Act} {w : World} (i : Nat) (o : Oper) (hi : ops[i]? = some o) (hr : Region.ready md ops listed = [i])
    (hw : Region.wanted o (yielded ops a.tmps) = true) (h : ∀ K : Act → World → Prop, (∀ a' w', S w' → wpAnyH P md ops Q S fuel (listed.setIfInBounds i true) a' w' → K a' w') → Oper.wp P o a w K Q) : wpAnyH P md ops Q S (fuel + 1) listed a w := by
  refine wpAnyH_all hr (by simp) (fun j hj => ?_)
  obtain rfl : j = i := by simpa using hj
  unfold wpOp
  simp only [hi, hw, if_true]
  exact .inl (h _ fun _ _ h1 h2 => ⟨h1, h2⟩)
theorem wpAnyH_two {P : Program} {md : Region.Mode} {ops : Array Oper} {Q : Exit → Act → World → Prop} {S : World → Prop} {fuel : Nat} {listed : Array Bool} {a : Act} {w : World} (i j : Nat) (oi oj : Oper) (hi : ops[i]? = some oi) (hj : ops[j]? = some oj) (hr : Region.ready md ops listed = [i, j])
    (wi : Region.wanted oi (yielded ops a.tmps) = true) (wj : Region.wanted oj (yielded ops a.tmps) = true)
    (h1 : ∀ K : Act → World → Prop, (∀ a' w', S w' → wpAnyH P md ops Q S fuel (listed.setIfInBounds i true) a' w' → K a' w') → Oper.wp P oi a w K Q)
    (h2 : ∀ K : Act → World → Prop, (∀ a' w', S w' → wpAnyH P md ops Q S fuel (listed.setIfInBounds j true) a' w' → K a' w') → Oper.wp P oj a w K Q) : wpAnyH P md ops Q S (fuel + 1) listed a w := by
  refine wpAnyH_all hr (by simp) (fun k hk => ?_)
  simp only [List.mem_cons, List.not_mem_nil, or_false] at hk
  rcases hk with rfl | rfl
  · unfold wpOp
    simp only [hi, wi, if_true]
    exact .inl (h1 _ fun _ _ a b => ⟨a, b⟩)
  · unfold wpOp
    simp only [hj, wj, if_true]
    exact .inl (h2 _ fun _ _ a b => ⟨a, b⟩)

theorem wp_quiet {P : Program} {o : Oper} {a : Act} {w : World} {K : Act → World → Prop} {Q : Exit → Act → World → Prop} {v : Value} (hrun : (execOp a.eval o).run P w = .ok (.value v) w) (h : K (a.put o.dst v) w) : Oper.wp P o a w K Q := by
  unfold Oper.wp
  rw [hrun]
  exact h

def zeros20 : List (List Value) := List.replicate 20 zeroPage
def zeros1280 : Array Value := (List.replicate 1280 (Value.int .u8 0)).toArray
def nils20 : Array Value := (List.replicate 20 (Value.slice none 0 0)).toArray
set_option maxRecDepth 100000 in
theorem alloc48 (w : World) : (Instr.alloc 48 true (.tuple #[])).run Tryd.prog w = .ok (.pointer (some ⟨w.heap.size, 0, none⟩)) (w.alloc (.cells zeros1280 48)) := by kernel_rfl
set_option maxRecDepth 100000 in
theorem alloc49 (w : World) : (Instr.alloc 49 true (.tuple #[])).run Tryd.prog w = .ok (.pointer (some ⟨w.heap.size, 0, none⟩)) (w.alloc (.cells nils20 49)) := by kernel_rfl
theorem zeros20_flat : zeros20.flatten.toArray = zeros1280 := by unfold zeros20 zeros1280; rw [zero_flat]
theorem mem_new (B : Nat) (w : World) (hB : B ≤ w.heap.size) (sm : Nat → List (List Value)) (hs : ∀ j, sm j = []) :
    Mem B w.heap.size (w.heap.size + 1) zeros20 sm (fun _ => .slice none 0 0) ((w.alloc (.cells zeros1280 48)).alloc (.cells nils20 49)) := by
  refine ⟨?_, ?_, fun j hj => ?_, zero_pages 20, by simp [zeros20], fun j hj => ?_, fun i j _ _ _ => .inl rfl, fun j hj => ?_, by omega, hB, by omega⟩
  · rw [zeros20_flat]; exact (Below.heap_alloc _ _ _ (by simp)).trans (heap_alloc_new w _)
  · have := heap_alloc_new (w.alloc (.cells zeros1280 48)) (.cells nils20 49)
    simpa [nils20, List.map_const'] using this
  · rw [hs j]; exact World.ownsRow_nil _ _ _ _
  · rw [hs j]; exact fun p hp => by simp at hp
  · simp [Value.ownBlock]

set_option maxRecDepth 100000 in
set_option maxHeartbeats 8000000 in
theorem diskKeeps_any (bp : Option Addr) (cs : List CallD) (cap : Nat) {w : World} (hC : CallsAt w.heap.size w bp cs) (hl : cs.length ≤ 9223372036854775807)
    (a1 : Option Addr) (z1 : List Int) (c1 : Nat) (hN1 : Nums w.heap.size w a1 z1) (hl1 : z1.length ≤ 9223372036854775807) :
    Calls Tryd.prog 4 #[.slice bp cs.length cap, .slice a1 z1.length c1] w fun e w' => e = .returned (.bool true) ∧ Below w.heap.size w w' := by
  obtain ⟨L, hL⟩ : ∃ L, Hid (cs.length = L) := ⟨_, rfl⟩
  have hLn : L ≤ 9223372036854775807 := by rw [← hL.out]; exact hl
  obtain ⟨L1, hL1⟩ : ∃ L, Hid (z1.length = L) := ⟨_, rfl⟩
  rw [hL.out, hL1.out]
  go_enter Tryd.func4, Tryd.ntmps4
  go_wp2_with (first
    | (go_at_call 9; refine (stands_any _).mono ?_; rintro e w1 ⟨rfl, hb1⟩)
    | (go_at_call 10; refine (pd_new 20 (by omega) (by omega) _).mono ?_))
  rintro e w2 ⟨v, rfl, hN⟩
  obtain ⟨g, F, rfl, hP2, hF2, hb2⟩ := hN.next hb1.size hb1
  have s1 := hb1.size
  have s2 := hb2.size
  have hFB : ∀ k, F k → w.heap.size ≤ k := fun k hk => by have := hF2 k hk; omega
  have hM := mem_new w.heap.size w2 s2 (fun j => pendOf (newS 20).ats (newS 20).what j) (fun j => rfl)
  have hbm : Below w2.heap.size w2 ((w2.alloc (.cells zeros1280 48)).alloc (.cells nils20 49)) := ((Below.refl _ w2).alloc (Nat.le_refl _) _).alloc (by simp) _
  have hP := hP2.below hbm
  have hb := hb2.trans (hbm.mono s2)
  have hFM : ∀ k, F k → ¬ MFoot w2.heap.size (w2.heap.size + 1) (fun _ => .slice none 0 0) k := fun k hk hm => by
    have := hP2.lt hk
    rcases hm with e | e | ⟨j, _, e⟩
    · omega
    · omega
    · simp [Value.ownBlock] at e
  have hI0 := on_new 20 (by omega) (by omega)
  obtain ⟨w3, hw3⟩ : ∃ w3, Hid ((w2.alloc (.cells zeros1280 48)).alloc (.cells nils20 49) = w3) := ⟨_, rfl⟩
  obtain ⟨b7, hb7⟩ : ∃ b, Hid (w2.heap.size = b) := ⟨_, rfl⟩
  obtain ⟨b8, hb8⟩ : ∃ b, Hid (w2.heap.size + 1 = b) := ⟨_, rfl⟩
  rw [hw3.out] at hM hP hb
  rw [hb8.out, hb7.out] at hM hFM
  clear hN hb1 hF2 s1 hP2 hb2 s2 hbm
  have tokX : True := trivial
  have tokY : True := trivial
  go_wp2_with (first
    | (have _t := tokX; refine wpList_alloc_arr rfl 48 rfl _ alloc48 ?_; clear tokX)
    | (have _t := tokY; refine wpList_alloc_arr rfl 49 rfl _ alloc49 ?_; clear tokY; rw [hw3.out]; try rw [World.size_alloc]; rw [hb8.out, hb7.out]))
  go_loopg [29] L (fun m v wr => ∃ (k : Nat) (S : St) (F : Nat → Prop) (sv : Nat → Value), m = L - k ∧ k ≤ L ∧ k ≤ 200 ∧ v = .int .i64 k ∧ On S 20 k ∧ PD S F g wr ∧ Mem w.heap.size b7 b8 S.firm (fun j => pendOf S.ats S.what j) sv wr ∧ (∀ k, F k → w.heap.size ≤ k) ∧ (∀ k, F k → ¬ MFoot b7 b8 sv k) ∧ Below w.heap.size w wr)
  case atStart => exact ⟨0, _, F, _, rfl, by omega, by omega, rfl, hI0, hP, hM, hFB, hFM, hb⟩
  case round =>
    clear hP hM hb hFB hFM hI0
    obtain ⟨k, S, F, sv, rfl, hk, hk2, rfl, hI, hP, hM, hF, hFM, hb⟩ := hrel
    by_cases hlt : k < L
    · have hlt' : (k : Int) < (L : Int) := by omega
      have hwk : IntKind.i64.wrap ((k : Int) + 1) = ((k + 1 : Nat) : Int) := by rw [IntWalk.i64_in _ (by omega)]; omega
      have hka : k < cs.length := by rw [hL.out]; exact hlt
      obtain ⟨bq, oq, hbe, hbq, hcs⟩ := (hC.below hb).resolve_left (by intro h0; rw [h0] at hka; simp at hka)
      first | subst hbe | (replace hbe := hbe.symm; simp only [Option.some.injEq, Addr.mk.injEq, and_true] at hbe; obtain ⟨rfl, rfl⟩ := hbe)
      obtain ⟨hrange, hok⟩ := hcs k cs[k] (List.getElem?_eq_getElem hka)
      obtain ⟨c, hc⟩ : ∃ c, cs[k] = c := ⟨_, rfl⟩
      have HCG : Hid (cs[k]? = some c) := (by rw [List.getElem?_eq_getElem hka, hc] : cs[k]? = some c)
      rw [hc] at hrange hok
      have HRg := Lib.hid hrange
      have hci : Hid ((Tryd.prog.info? 35).map (·.size) = some (callCells c).length) := (infoCall : (Tryd.prog.info? 35).map (·.size) = some 4)
      have hci2 : Hid ((Tryd.prog.info? 35).map (·.size) = some (callCells c).toArray.size) := (infoCall : (Tryd.prog.info? 35).map (·.size) = some 4)
      have hcone : Hid ((callCells c).toArray.all (·.oneCell') = true) := call_one c
      have hcold : Hid (zeroCall.size = (callCells c).toArray.size) := (rfl : zeroCall.size = 4)
      have hba : Below wr.heap.size wr (wr.alloc (.cells (callCells c).toArray 35)) := (Below.refl _ wr).alloc (Nat.le_refl _) _
      have hck : (wr.alloc (.cells (callCells c).toArray 35)).heap[wr.heap.size]? = some (.cells (callCells c).toArray 35 (0, 0)) := heap_alloc_new wr _
      have hFc0 : ¬ F wr.heap.size := fun h => by have := hP.lt h; omega
      have hMc0 : ¬ MFoot b7 b8 sv wr.heap.size := fun h => by have := hM.lt h; omega
      obtain ⟨wa, hwa⟩ : ∃ w', Hid (wr.alloc (.cells (callCells c).toArray 35) = w') := ⟨_, rfl⟩
      obtain ⟨bc, hbc⟩ : ∃ b', Hid (wr.heap.size = b') := ⟨_, rfl⟩
      rw [hwa.out] at hba hck
      rw [hbc.out] at hck
      replace hP := hP.below hba
      replace hM := hM.below hba
      replace hb := hb.trans (hba.mono hb.size)
      have ck0 : wa.cell? ⟨bc, 0, none⟩ = some (.int .i64 c.kind) := by rw [cell_of_row wa bc 0 _ _ _ hck]; rfl
      have ck1 : wa.cell? ⟨bc, 1, none⟩ = some (.int .i64 c.i) := by rw [cell_of_row wa bc 1 _ _ _ hck]; rfl
      have ck2 : wa.cell? ⟨bc, 2, none⟩ = some (cu8 c.what) := by rw [cell_of_row wa bc 2 _ _ _ hck]; rfl
      have ck3 : wa.cell? ⟨bc, 3, none⟩ = some (.slice c.ap c.pick.length c.cp) := by rw [cell_of_row wa bc 3 _ _ _ hck]; rfl
      have tokL : True := trivial
      have tokC : True := trivial
      have tokD : True := trivial
      have hFc : ¬ F bc := by rw [← hbc.out]; exact hFc0
      have hMc : ¬ MFoot b7 b8 sv bc := by rw [← hbc.out]; exact hMc0
      clear hFc0 hMc0
      clear hcs hrange hba hc
      by_cases h200 : k = 200
      · have h200b : ((k : Int) == 200) = true := by rw [h200]; rfl
        clear h200
        have hfew : S.ats.length ≤ 1048576 := by have := hI.few; omega
        have hcr := pd_crash hP hI.good hfew a1 c1 z1 ((hN1.below hb).mono hb.size) hl1
        rw [hL1.out] at hcr
        have hIx := hI.crash z1
        have HRC := Lib.hid (read_crash hI z1)
        have sb := hb.size
        have hyS := hI.byt
        have hln := hI.size
        have hfw := hI.few
        go_wp2_with (first
          | (have _t := tokL; refine wpList_load_mid rfl 35 _ rfl bq (oq + k * 4) rfl (callCells c) _ HRg.out Tryd.underlying35 rfl hci.out ?_; clear tokL)
          | (have _t := tokC; refine wpList_alloc_arr rfl 35 rfl _ allocCall ?_; clear tokC)
          | (have _t := tokD; refine wpList_store_new rfl 35 _ _ rfl wr.heap.size rfl (callCells c).toArray rfl rfl 35 _ hci2.out hcold.out hcone.out ?_; rw [hwa.out, hbc.out]; clear tokD)
          | (go_at_call 21; refine hcr.mono ?_))
        rintro e wx ⟨v, rfl, hNx⟩
        have hM2 : Mem w.heap.size b7 b8 S.firm (fun j => pendOf S.ats S.what j) sv wx := by obtain ⟨_, _, _, _, hbb, _⟩ := hNx; exact hM.below hbb
        obtain ⟨gx, Fx, rfl, hPx, hFx, hbx⟩ := hNx.next sb hb
        generalize crashOf S z1 = X at hIx HRC hPx
        clear hcr hNx hP hM hb sb hI hFx hF hFM hfew
        go_wp2
        go_loopg [90] 20 (fun m v wr => ∃ j : Nat, m = 20 - j ∧ j ≤ 20 ∧ v = .int .i64 j ∧ PD X Fx gx wr ∧ Mem w.heap.size b7 b8 S.firm (fun j => pendOf S.ats S.what j) sv wr ∧ Below w.heap.size w wr)
        case atStart => exact ⟨0, rfl, by omega, rfl, hPx, hM2, hbx⟩
        case round =>
          clear hPx hM2 hbx
          rename World => wr2
          obtain ⟨j, rfl, hj, rfl, hPx, hM, hb⟩ := hrel
          by_cases hj20 : j < 20
          · have hlt2 : (j : Int) < 20 := by omega
            have hwj : IntKind.i64.wrap ((j : Int) + 1) = ((j + 1 : Nat) : Int) := by rw [IntWalk.i64_in _ (by omega)]; omega
            have hnum := hIx.read j hj20
            have bpg := byt_read hIx.byt j
            have hr1 := pd_read hPx j
            have hrc := HRC.out j hj20
            obtain ⟨pg, hpg⟩ : ∃ pg, (readOf X j).1 = pg := ⟨_, rfl⟩
            rw [hpg, hnum] at hr1
            rw [hpg] at bpg hrc
            have hjf : j < S.firm.length := by omega
            obtain ⟨fp, hfp⟩ : ∃ fp, S.firm[j] = fp := ⟨_, rfl⟩
            have hfj : S.firm[j]? = some fp := by rw [List.getElem?_eq_getElem hjf, hfp]
            have bfp : BP fp := hyS.1 fp (List.mem_of_getElem? hfj)
            rw [hfj] at hrc
            have HRC2 : Hid (pg = fp ∨ pg ∈ pendOf S.ats S.what j) := hrc.imp (fun e => (Option.some.inj e).symm) id
            have HFJ := Lib.hid hfj
            clear hrc hpg hfp hfj hnum
            have hz1_pg := page_size bpg.page
            have hz2_pg := page_all bpg.page
            have hz3_pg := zeros_eq bpg.page
            go_wp2_with (go_at_call 17; refine hr1.mono ?_)
            rintro e w3a ⟨v3, rfl, hE3, hr3⟩
            obtain rfl := ErrV.zero hE3
            have hA3 := hr3.alloc hr3.size (.cells pg.toArray 42)
            have hk3 : (w3a.alloc (.cells pg.toArray 42)).heap[w3a.heap.size]? = some (.cells pg.toArray 42 (0, 0)) := heap_alloc_new w3a _
            replace hPx := hPx.below hA3
            replace hM := hM.below hA3
            replace hb := hb.trans (hA3.mono (by have := hb.size; omega))
            obtain ⟨w3, hw3⟩ : ∃ w', Hid (w3a.alloc (.cells pg.toArray 42) = w') := ⟨_, rfl⟩
            obtain ⟨b3, hb3⟩ : ∃ b', Hid (w3a.heap.size = b') := ⟨_, rfl⟩
            rw [hw3.out] at hk3 hPx hM hb
            rw [hb3.out] at hk3
            clear hE3 hr3 hA3
            have tokA3 : True := trivial
            have tokS3 : True := trivial
            obtain ⟨ob, hob, heq⟩ := bpg.eqIn bfp
            have HOB := Lib.hid hob
            clear hob hr1
            go_wp2_with (first
              | (have _t := tokA3; refine wpList_alloc_arr rfl 42 rfl _ alloc64 ?_; clear tokA3)
              | (have _t := tokS3; refine wpList_store_new rfl 42 _ _ rfl w3a.heap.size rfl pg.toArray rfl rfl 42 _ hz1_pg.out hz3_pg.out hz2_pg.out ?_; rw [hw3.out, hb3.out]; clear tokS3))
            refine wp_region_held (S := fun w' => w'.heap[b3]? = some (.cells pg.toArray 42 (0, 0)) ∧ w'.heap[b7]? = some (.cells S.firm.flatten.toArray 48 (0, 0))) (by kernel_rfl) ?_
            change wpAnyH _ _ _ _ _ _ _ _ (World.drew _)
            have hS : w3.drew.heap[b3]? = some (.cells pg.toArray 42 (0, 0)) ∧ w3.drew.heap[b7]? = some (.cells S.firm.flatten.toArray 48 (0, 0)) := ⟨hk3, hM.at7⟩
            have hbd : Below w3.heap.size w3 w3.drew := ⟨rfl, rfl, rfl, Nat.le_refl _, fun _ _ => rfl⟩
            replace hPx := hPx.below hbd
            replace hM := hM.below hbd
            replace hb := hb.trans (hbd.mono (by have := hb.size; omega))
            clear hk3 hbd hw3
            generalize w3.drew = w4 at hS hPx hM hb ⊢
            have HOK := Lib.hid hM.ok7
            refine wpAnyH_take (i := 0) (v := .agg pg.toArray) rfl (by kernel_rfl) (by kernel_rfl) (by kernel_rfl) (fun _ _ _ h => h) (Or.inl ⟨by rfl, ?_⟩) hS ?_
            · intro w' hS'
              exact exec_load _ _ 42 _ rfl b3 0 rfl _ (run_loadAt_mid w' b3 0 42 pg _ (fun i v hi => by rw [Nat.zero_add, cell_of_row w' b3 i _ _ _ hS'.1]; simpa using hi) Tryd.underlying42 rfl (by rw [bpg.page.1]; exact info64))
            try simp only [List.getElem_toArray, List.getElem_cons_zero, Act.put, List.setIfInBounds_toArray, List.set]
            refine wpAnyH_take (i := 1) (v := .int .i64 j) rfl (by kernel_rfl) (by kernel_rfl) (by kernel_rfl) (fun _ _ _ h => h) (Or.inl ⟨by rfl, ?_⟩) hS ?_
            · intro w' _; go_simp
            try simp only [List.getElem_toArray, List.getElem_cons_succ, List.getElem_cons_zero, Act.put, List.setIfInBounds_toArray, List.set]
            refine wpAnyH_take (i := 2) (v := .pointer (some ⟨b7, j * 64, none⟩)) rfl (by kernel_rfl) (by kernel_rfl) (by kernel_rfl) (fun _ _ _ h => h) (Or.inl ⟨by rfl, ?_⟩) hS ?_
            · intro w' _; go_simp
            try simp only [List.getElem_toArray, List.getElem_cons_succ, List.getElem_cons_zero, Act.put, List.setIfInBounds_toArray, List.set]
            refine wpAnyH_take (i := 3) (v := .agg fp.toArray) rfl (by kernel_rfl) (by kernel_rfl) (by kernel_rfl) (fun _ _ _ h => h) (Or.inl ⟨by rfl, ?_⟩) hS ?_
            · intro w' hS'
              exact exec_load _ _ 42 _ rfl b7 (j * 64) rfl _ (run_loadAt_mid w' b7 (j * 64) 42 fp _ (fun i v hi => by rw [cell_of_row w' b7 _ _ _ _ hS'.2, List.getElem?_toArray, flat_get HOK.out j fp HFJ.out i (by have := (List.getElem?_eq_some_iff.1 hi).1; rw [bfp.page.1] at this; exact this)]; exact hi) Tryd.underlying42 rfl (by rw [bfp.page.1]; exact info64))
            try simp only [List.getElem_toArray, List.getElem_cons_succ, List.getElem_cons_zero, Act.put, List.setIfInBounds_toArray, List.set]
            refine wpAnyH_take (i := 4) (v := .bool ob) rfl (by kernel_rfl) (by kernel_rfl) (by kernel_rfl) (fun _ _ _ h => h) (Or.inl ⟨by rfl, ?_⟩) hS ?_
            · intro w' _; go_simp
            try simp only [List.getElem_toArray, List.getElem_cons_succ, List.getElem_cons_zero, Act.put, List.setIfInBounds_toArray, List.set]
            refine wpAnyH_take (i := 5) (v := .bool ob) rfl (by kernel_rfl) (by kernel_rfl) (by kernel_rfl) (fun _ _ _ h => h) (Or.inl ⟨by rfl, ?_⟩) hS ?_
            · intro w' _; go_simp
            try simp only [List.getElem_toArray, List.getElem_cons_succ, List.getElem_cons_zero, Act.put, List.setIfInBounds_toArray, List.set]
            refine wpAnyH_done (by kernel_rfl) ?_ _
            have hk3 := hS.1
            clear hS heq HOK
            have c8 := hM.cell8 j hj20
            obtain ⟨ao, ca, hsv⟩ := own_form (hM.row j hj20)
            rw [hsv] at c8
            obtain ⟨NQ, hNQ⟩ : ∃ NQ, Hid ((pendOf S.ats S.what j).length = NQ) := ⟨_, rfl⟩
            have hNQn : NQ ≤ 140737488355328 := by rw [← hNQ.out]; have := pendOf_len S.ats S.what j; omega
            rw [hNQ.out] at c8
            have HSV := Lib.hid hsv
            clear hsv
            go_wp2
            go_loopg [18, 108] NQ (fun m okv v wr => ∃ (i : Nat) (o : Bool), m = NQ - i ∧ i ≤ NQ ∧ okv = .bool o ∧ v = .int .i64 i ∧ (o = true ↔ pg = fp ∨ pg ∈ (pendOf S.ats S.what j).take i) ∧ wr.heap[b3]? = some (.cells pg.toArray 42 (0, 0)) ∧ PD X Fx gx wr ∧ Mem w.heap.size b7 b8 S.firm (fun j => pendOf S.ats S.what j) sv wr ∧ Below w.heap.size w wr)
            case atStart => exact ⟨0, ob, rfl, by omega, rfl, rfl, by simpa using HOB.out, hk3, hPx, hM, hb⟩
            case round =>
              clear hk3 hPx hM hb c8 HOB
              rename World => wr2
              obtain ⟨i, o, rfl, hi, rfl, rfl, hoi, hk3, hPx, hM, hb⟩ := hrel
              by_cases hiN : i < NQ
              · have hlt3 : (i : Int) < (NQ : Int) := by omega
                have hwi : IntKind.i64.wrap ((i : Int) + 1) = ((i + 1 : Nat) : Int) := by rw [IntWalk.i64_in _ (by omega)]; omega
                have hil : i < (pendOf S.ats S.what j).length := by rw [hNQ.out]; exact hiN
                have hrow := hM.row j hj20
                try simp only at hrow
                rw [HSV.out] at hrow
                obtain ⟨gq, cq, hgq, _, _⟩ := hrow.form (by omega)
                simp only [Value.slice.injEq, true_and] at hgq
                obtain ⟨rfl, rfl⟩ := hgq
                obtain ⟨qp, hqp⟩ : ∃ qp, (pendOf S.ats S.what j)[i] = qp := ⟨_, rfl⟩
                have hqi : (pendOf S.ats S.what j)[i]? = some qp := by rw [List.getElem?_eq_getElem hil, hqp]
                have bqp : BP qp := hyS.2 qp (pendOf_mem _ _ _ _ (List.mem_of_getElem? hqi))
                have hrange := own_page hrow (hM.ok8 j hj20) i qp hqi rfl
                have htk : (pendOf S.ats S.what j).take (i + 1) = (pendOf S.ats S.what j).take i ++ [qp] := by rw [List.take_succ_eq_append_getElem hil, hqp]
                obtain ⟨o2, ho2, heq⟩ := bpg.eqIn bqp
                have HON : Hid ((o || o2) = true ↔ pg = fp ∨ pg ∈ (pendOf S.ats S.what j).take (i + 1)) := by rw [htk]; show _ ↔ _; rw [Bool.or_eq_true, hoi, ho2, List.mem_append, List.mem_singleton, or_assoc]
                have HRg := Lib.hid hrange
                have hi64 : Hid ((Tryd.prog.info? 42).map (·.size) = some qp.length) := by rw [bqp.page.1]; exact info64
                have hA5 : Below wr2.heap.size wr2 (wr2.alloc (.cells qp.toArray 42)) := (Below.refl _ wr2).alloc (Nat.le_refl _) _
                have hk5 : (wr2.alloc (.cells qp.toArray 42)).heap[wr2.heap.size]? = some (.cells qp.toArray 42 (0, 0)) := heap_alloc_new wr2 _
                replace hk3 := (hA5.block b3 (Array.getElem?_eq_some_iff.1 hk3).1).trans hk3
                replace hPx := hPx.below hA5
                replace hM := hM.below hA5
                replace hb := hb.trans (hA5.mono (by have := hb.size; omega))
                obtain ⟨w5, hw5⟩ : ∃ w', Hid (wr2.alloc (.cells qp.toArray 42) = w') := ⟨_, rfl⟩
                obtain ⟨b5, hb5⟩ : ∃ b', Hid (wr2.heap.size = b') := ⟨_, rfl⟩
                rw [hw5.out] at hk5 hk3 hPx hM hb
                rw [hb5.out] at hk5
                have hz1_qp := page_size bqp.page
                have hz2_qp := page_all bqp.page
                have hz3_qp := zeros_eq bqp.page
                have hld3 := Lib.hid (run_loadAt_mid (P := Tryd.prog) w5 b3 0 42 pg _ (fun j v hj => by rw [Nat.zero_add, cell_of_row w5 b3 j _ _ _ hk3]; simpa using hj) Tryd.underlying42 rfl (by rw [bpg.page.1]; exact info64))
                have hld5 := Lib.hid (run_loadAt_mid (P := Tryd.prog) w5 b5 0 42 qp _ (fun j v hj => by rw [Nat.zero_add, cell_of_row w5 b5 j _ _ _ hk5]; simpa using hj) Tryd.underlying42 rfl (by rw [bqp.page.1]; exact info64))
                clear hqi hqp htk hrange hrow hA5 hk5 hoi ho2
                have tokA5 : True := trivial
                have tokS5 : True := trivial
                have tokM : True := trivial
                cases o
                · go_wp2_with (first
                    | (have _t := tokM; refine wpList_load_mid rfl 42 _ rfl gq (i * 64) rfl qp _ HRg.out Tryd.underlying42 rfl hi64.out ?_; clear tokM)
                    | (have _t := tokA5; refine wpList_alloc_arr rfl 42 rfl _ alloc64 ?_; clear tokA5)
                    | (have _t := tokS5; refine wpList_store_new rfl 42 _ _ rfl wr2.heap.size rfl qp.toArray rfl rfl 42 _ hz1_qp.out hz3_qp.out hz2_qp.out ?_; rw [hw5.out, hb5.out]; clear tokS5)
                    | (have _t := hld3; refine wpList_load_page _ rfl b3 0 rfl _ hld3.out (by rfl) ?_; clear hld3)
                    | (have _t := hld5; refine wpList_load_page _ rfl b5 0 rfl _ hld5.out (by rfl) ?_; clear hld5))
                  go_roundg (NQ - (i + 1))
                  case measure => omega
                  case rel => exact ⟨i + 1, _, rfl, by omega, rfl, by first | rfl | simp, by simpa using HON.out, hk3, hPx, hM, hb⟩
                · go_wp2_with (first
                    | (have _t := tokM; refine wpList_load_mid rfl 42 _ rfl gq (i * 64) rfl qp _ HRg.out Tryd.underlying42 rfl hi64.out ?_; clear tokM)
                    | (have _t := tokA5; refine wpList_alloc_arr rfl 42 rfl _ alloc64 ?_; clear tokA5)
                    | (have _t := tokS5; refine wpList_store_new rfl 42 _ _ rfl wr2.heap.size rfl qp.toArray rfl rfl 42 _ hz1_qp.out hz3_qp.out hz2_qp.out ?_; rw [hw5.out, hb5.out]; clear tokS5)
                    | (have _t := hld3; refine wpList_load_page _ rfl b3 0 rfl _ hld3.out (by rfl) ?_; clear hld3)
                    | (have _t := hld5; refine wpList_load_page _ rfl b5 0 rfl _ hld5.out (by rfl) ?_; clear hld5))
                  go_roundg (NQ - (i + 1))
                  case measure => omega
                  case rel => exact ⟨i + 1, _, rfl, by omega, rfl, by first | rfl | simp, by simpa using HON.out, hk3, hPx, hM, hb⟩
              · have hge3 : ¬ ((i : Int) < (NQ : Int)) := by omega
                have hot : o = true := hoi.2 (HRC2.out.imp id (fun h => by rw [List.take_of_length_le (by rw [hNQ.out]; omega)]; exact h))
                subst hot
                clear hoi
                go_wp2
                go_roundg (20 - (j + 1))
                case measure => omega
                case rel => exact ⟨j + 1, rfl, by omega, by first | rfl | simp, hPx, hM, hb⟩
          · have hge2 : ¬ ((j : Int) < 20) := by omega
            have hpx := pd_pending hPx
            have hox := pd_off hPx
            have hz0 : X.ats.length = 0 := by have := hIx.few; omega
            rw [hz0] at hpx
            rw [hIx.on] at hox
            go_wp2_with (first
              | (go_at_call 15; refine hpx.mono ?_; rintro e w' ⟨rfl, rfl⟩)
              | (go_at_call 14; refine hox.mono ?_; rintro e w' ⟨rfl, rfl⟩))
            go_ret
            exact ⟨rfl, hb⟩
      · have h200' : ¬ ((k : Int) = 200) := by omega
        have h200b : ((k : Int) == 200) = false := by simpa using h200'
        have ti := tmod_in c.i 20 (by omega)
        obtain ⟨q, hq, hq1⟩ := posmod c.i 20 (by omega)
        have t2 : IntKind.i64.wrap (c.i.tmod 20) = c.i.tmod 20 := IntWalk.i64_in _ (by omega)
        have t3 : IntKind.i64.wrap (c.i.tmod 20 + 20) = c.i.tmod 20 + 20 := IntWalk.i64_in _ (by omega)
        have t4 : IntKind.i64.wrap (q : Int) = (q : Int) := IntWalk.i64_in _ (by omega)
        have hq20 : q < 20 := by omega
        have hfw := hI.few
        have hfew : S.ats.length ≤ 1048576 := by omega
        have sb := hb.size
        clear ti
        by_cases hk1 : c.kind = 1
        · obtain ⟨cv, hcv⟩ : ∃ cv, Hid (cu8 c.what = cv) := ⟨_, rfl⟩
          have HB : Hid (Tryd.prog.built 42 [(0, cu8 c.what), (1, .int .u8 2)] = some (page2 c.what 2).toArray) := built_two c.what 2
          rw [hcv.out] at HB ck2
          obtain ⟨p1, hp1⟩ : ∃ p, page2 c.what 2 = p := ⟨_, rfl⟩
          have bp1 : BP p1 := hp1 ▸ page2_bytes c.what 2
          rw [hp1] at HB
          clear hp1
          obtain ⟨e1, hI'⟩ := hI.write q hq20 bp1
          have hdo := pd_write hP hI.good hfew q p1 bp1.page
          rw [e1] at hdo hI'
          clear e1
          go_wp2_with (first
            | (have _t := tokL; refine wpList_load_mid rfl 35 _ rfl bq (oq + k * 4) rfl (callCells c) _ HRg.out Tryd.underlying35 rfl hci.out ?_; clear tokL)
            | (have _t := tokC; refine wpList_alloc_arr rfl 35 rfl _ allocCall ?_; clear tokC)
            | (have _t := tokD; refine wpList_store_new rfl 35 _ _ rfl wr.heap.size rfl (callCells c).toArray rfl rfl 35 _ hci2.out hcold.out hcone.out ?_; rw [hwa.out, hbc.out]; clear tokD)
            | (refine wpList_build2 _ _ rfl cv (.int .u8 2) rfl rfl _ HB.out (by rfl) ?_)
            | (go_at_call 19; refine hdo.mono ?_))
          rintro e w4 ⟨v2, rfl, F', hEr, hP4, ho4, hf4⟩
          obtain rfl := ErrV.zero hEr
          have hM4 := hM.keep ho4 (fun x h1 h2 => hFM x h2 h1)
          have hFM4 : ∀ x, F' x → ¬ MFoot b7 b8 sv x := fun x h1 h2 => (hf4 x h1).elim (fun e => hFM x e h2) (fun e => by have := hM.lt h2; omega)
          have hF4 : ∀ x, F' x → w.heap.size ≤ x := fun x hx => (hf4 x hx).elim (hF x) (fun e => by omega)
          have hb4 := hb.trans (ho4.base sb hF)
          have hcF : ¬ F bc := fun h => hFc h
          have hck4 := (ho4.block bc (Array.getElem?_eq_some_iff.1 hck).1 hcF).trans hck
          clear hdo hEr ho4 hf4 hP hM hFM hF hb sb hck hcF
          go_wp2
          refine wp_region_held (S := fun w' => w'.heap[bc]? = some (.cells (callCells c).toArray 35 (0, 0))) (by kernel_rfl) ?_
          change wpAnyH _ _ _ _ _ _ _ _ (World.drew _)
          have hbd : Below w4.heap.size w4 w4.drew := ⟨rfl, rfl, rfl, Nat.le_refl _, fun _ _ => rfl⟩
          have hck5 : w4.drew.heap[bc]? = some (.cells (callCells c).toArray 35 (0, 0)) := hck4
          have hM5 := hM4.below hbd
          have hP5 := hP4.below hbd
          have hb5 := hb4.trans (hbd.mono (by have := hb4.size; omega))
          clear hck4 hM4 hP4 hb4 hbd
          generalize w4.drew = w5 at hck5 hM5 hP5 hb5 ⊢
          have s5 := hb5.size
          have c8 := hM5.cell8 q hq20
          have hown5 := hM5.row q hq20
          have hok5 := hM5.ok8 q hq20
          try simp only at hown5 hok5
          obtain ⟨pq, hpq⟩ : ∃ pq, pendOf S.ats S.what (q : Int) = pq := ⟨_, rfl⟩
          have hpql : pq.length ≤ 1048576 := by rw [← hpq]; have := pendOf_len S.ats S.what (q : Int); omega
          rw [hpq] at hown5 hok5
          obtain ⟨vq, hvq⟩ : ∃ vq, sv q = vq := ⟨_, rfl⟩
          have hb8q := (hM5.off q hq20).2
          rw [hvq] at c8 hown5 hb8q
          have l8 := hM5.lt (.inr (.inl rfl) : MFoot b7 b8 sv b8)
          have hA6 : Below w5.heap.size w5 (w5.alloc (.cells p1.toArray 42)) := (Below.refl _ w5).alloc (Nat.le_refl _) _
          have ca : (w5.alloc (.cells p1.toArray 42)).cell? ⟨b8, q, none⟩ = some vq := (hA6.cell (p := ⟨b8, q, none⟩) l8).trans c8
          have hck6 := (hA6.block bc (Array.getElem?_eq_some_iff.1 hck5).1).trans hck5
          have Hst8 := Lib.hid (fun (w3 : World) (hgr3 : (w5.alloc (.cells p1.toArray 42)).grownBy w3 vq.ownBlock) => show w3.cell? ⟨b8, q, none⟩ = some vq ∧ w3.frozen? ⟨b8, q, none⟩ = false from
            ⟨(hgr3.cell_far ⟨b8, q, none⟩ (by have := hA6.size; simp only; omega) (fun e => hb8q e.symm)).trans ca,
              (hgr3.frozen_far ⟨b8, q, none⟩ (by have := hA6.size; simp only; omega) (fun e => hb8q e.symm)).trans ((hA6.frozen (p := ⟨b8, q, none⟩) l8).trans (hM5.thaw8 q))⟩)
          have hbcM : ¬ MFoot b7 b8 sv bc := fun h => hMc h
          obtain ⟨ip, hip, hzp⟩ := Option.map_eq_some_iff.1 infoPage
          simp only [Prod.mk.injEq] at hzp
          obtain ⟨hp0, hp1, hp2⟩ := hzp
          obtain ⟨hpl1, hpo1⟩ := bp1.page
          refine wpAnyH_take (i := 0) (v := .int .i64 q) rfl (by kernel_rfl) (by kernel_rfl) (by kernel_rfl) (fun _ _ _ h => h) (Or.inl ⟨by rfl, ?_⟩) hck5 ?_
          · intro w' _; go_simp
          try simp only [List.getElem_toArray, List.getElem_cons_zero, Act.put, List.setIfInBounds_toArray, List.set]
          refine wpAnyH_take (i := 1) (v := .int .i64 q) rfl (by kernel_rfl) (by kernel_rfl) (by kernel_rfl) (fun _ _ _ h => h) (Or.inl ⟨by rfl, ?_⟩) hck5 ?_
          · intro w' _; go_simp
          try simp only [List.getElem_toArray, List.getElem_cons_succ, List.getElem_cons_zero, Act.put, List.setIfInBounds_toArray, List.set]
          refine wpAnyH_take (i := 2) (v := .pointer (some ⟨b8, q, none⟩)) rfl (by kernel_rfl) (by kernel_rfl) (by kernel_rfl) (fun _ _ _ h => h) (Or.inl ⟨by rfl, ?_⟩) hck5 ?_
          · intro w' _; go_simp
          try simp only [List.getElem_toArray, List.getElem_cons_succ, List.getElem_cons_zero, Act.put, List.setIfInBounds_toArray, List.set]
          refine wpAnyH_take (i := 4) (v := .pointer (some ⟨bc, 2, none⟩)) rfl (by kernel_rfl) (by kernel_rfl) (by kernel_rfl) (fun _ _ _ h => h) (Or.inl ⟨by rfl, ?_⟩) hck5 ?_
          · intro w' _; go_simp
          try simp only [List.getElem_toArray, List.getElem_cons_succ, List.getElem_cons_zero, Act.put, List.setIfInBounds_toArray, List.set]
          refine wpAnyH_take (i := 5) (v := cv) rfl (by kernel_rfl) (by kernel_rfl) (by kernel_rfl) (fun _ _ _ h => h) (Or.inl ⟨by rfl, ?_⟩) hck5 ?_
          · intro w' hS
            have hc' : w'.cell? ⟨bc, 2, none⟩ = some cv := by rw [cell_of_row w' bc 2 _ _ _ hS]; exact congrArg some hcv.out
            clear hS
            go_simp
          try simp only [List.getElem_toArray, List.getElem_cons_succ, List.getElem_cons_zero, Act.put, List.setIfInBounds_toArray, List.set]
          refine wpAnyH_take (i := 6) (v := .agg p1.toArray) rfl (by kernel_rfl) (by kernel_rfl) (by kernel_rfl) (fun _ _ _ h => h) (Or.inl ⟨by rfl, ?_⟩) hck5 ?_
          · intro w' _; exact exec_build w' rfl (Eq.trans (congrArg (Program.built _ _) (by simp [Act.eval])) HB.out)
          try simp only [List.getElem_toArray, List.getElem_cons_succ, List.getElem_cons_zero, Act.put, List.setIfInBounds_toArray, List.set]
          refine wpAnyH_two 3 7 _ _ rfl rfl (by kernel_rfl) (by rfl) (by rfl) (fun K hK => ?_) (fun K hK => ?_)
          · refine wp_quiet (v := vq) (by have c := c8; go_simp) ?_
            refine hK _ _ hck5 ?_
            clear hK K
            try simp only [List.getElem_toArray, List.getElem_cons_succ, List.getElem_cons_zero, Act.put, List.setIfInBounds_toArray, List.set]
            refine wpAnyH_one 7 _ rfl (by kernel_rfl) (by rfl) (fun K hK => ?_)
            refine wp_build_page _ rfl p1 ⟨hpl1, hpo1⟩ rfl ?_
            refine hK _ _ hck6 ?_
            clear hK K
            try simp only [List.getElem_toArray, List.getElem_cons_succ, List.getElem_cons_zero, Act.put, List.setIfInBounds_toArray, List.set]
            refine wpAnyH_one 8 _ rfl (by kernel_rfl) (by rfl) (fun K hK => ?_)
            refine wp_append_lies _ _ _ _ rfl w.heap.size 42 ip _ 64 64 Tryd.underlying38 hip hp0 hp1 hp2 (by rw [zeros_size]) (by omega) vq pq.length _ rfl (hown5.alloc _) ⟨w5.heap.size, 0, none⟩ 1 1 p1 rfl (by rw [hpl1]) (World.news_of_block (cs := p1.toArray) (t := 42) (fr := (0, 0)) (heap_alloc_new w5 _)) hpo1 (by omega) (by unfold maxLen; omega) (by omega) (by simp; omega) (w5.heap.size + 1) (by simp) ?_
            intro gg cap2 w6 hown6 hgr6 hat6 hlt6
            obtain ⟨hc6, hf6⟩ := Hst8.out w6 hgr6
            have hbq : vq.ownBlock ≠ some bc := fun e => hbcM (.inr (.inr ⟨q, hq20, by rw [hvq]; exact e⟩))
            have hck7 := (hgr6.block bc (Array.getElem?_eq_some_iff.1 hck6).1 (fun e => hbq e.symm)).trans hck6
            have happ := hM5.append (q := q) (gg := gg) (cap := cap2) hq20 (p := p1) ⟨hpl1, hpo1⟩ (w3 := w5.alloc (.cells p1.toArray 42)) (w4 := w6) hA6 (by simp only [hpq]; exact hown6) (by rw [hvq]; exact hgr6) (by rw [hvq]; exact hat6.imp id (fun e => by omega))
            simp only [hpq] at happ
            obtain ⟨hM7, ho7, hfo7⟩ := happ
            refine hK _ _ hck7 ?_
            clear hK K
            try simp only [List.getElem_toArray, List.getElem_cons_succ, List.getElem_cons_zero, Act.put, List.setIfInBounds_toArray, List.set]
            refine wpAnyH_take (i := 9) (v := .pointer (some ⟨b8, q, none⟩)) rfl (by kernel_rfl) (by kernel_rfl) (by kernel_rfl) (fun _ _ _ h => h) (Or.inl ⟨by rfl, ?_⟩) hck7 ?_
            · intro w' _; go_simp
            try simp only [List.getElem_toArray, List.getElem_cons_succ, List.getElem_cons_zero, Act.put, List.setIfInBounds_toArray, List.set]
            refine wpAnyH_one 10 _ rfl (by kernel_rfl) (by rfl) (fun K hK => ?_)
            go_simp
            have hck8 := (ho7.block bc (Array.getElem?_eq_some_iff.1 hck5).1 hbcM).trans hck5
            refine hK _ _ hck8 ?_
            clear hK K
            try simp only [List.getElem_toArray, List.getElem_cons_succ, List.getElem_cons_zero, Act.put, List.setIfInBounds_toArray, List.set]
            refine wpAnyH_done (by kernel_rfl) ?_ _
            have hP7 := hP5.keep ho7 (fun x h1 h2 => hFM4 x h1 h2)
            have hb7' := hb5.trans (ho7.base (by omega) (fun x hx => hM5.base hx))
            have hM8 := hM7.congr (sm' := fun j => pendOf (S.ats ++ [(q : Int)]) (S.what ++ [p1]) j) (fun x hx => by
              rw [pendOf_snoc _ _ _ _ _ hI.good.same]
              by_cases e : x = q
              · subst e; simp [hpq]
              · rw [if_neg (by omega), if_neg e])
            have hFM8 : ∀ x, F' x → ¬ MFoot b7 b8 (fun j => if j = q then .slice (some ⟨gg, 0, none⟩) (pq.length + 1) cap2 else sv j) x := fun x h1 h2 => by
              rcases h2 with e | e | ⟨j, hj, e⟩
              · exact hFM4 x h1 (.inl e)
              · exact hFM4 x h1 (.inr (.inl e))
              · by_cases ej : j = q
                · simp only [if_pos ej, Value.ownBlock, Option.some.injEq] at e
                  subst e
                  exact hfo7.elim (hFM4 _ h1) (fun e => by have := hP5.lt h1; omega)
                · simp only [if_neg ej] at e
                  exact hFM4 x h1 (.inr (.inr ⟨j, hj, e⟩))
            clear hM7 ho7 hfo7 hM5 hP5 hb5 hown6 hgr6 hat6 Hst8 hc6 hf6 hck8 hck7 hck5 hck6 ca c8 hown5 hok5
            go_wp2
            go_roundg (L - (k + 1))
            case measure => omega
            case rel => exact ⟨k + 1, _, F', _, rfl, by omega, by omega, by first | rfl | simp, hI', hP7, hM8, hF4, hFM8, hb7'⟩
          · refine wp_build_page _ rfl p1 ⟨hpl1, hpo1⟩ rfl ?_
            refine hK _ _ hck6 ?_
            clear hK K
            try simp only [List.getElem_toArray, List.getElem_cons_succ, List.getElem_cons_zero, Act.put, List.setIfInBounds_toArray, List.set]
            refine wpAnyH_one 3 _ rfl (by kernel_rfl) (by rfl) (fun K hK => ?_)
            refine wp_quiet (v := vq) (by have c := ca; go_simp) ?_
            refine hK _ _ hck6 ?_
            clear hK K
            try simp only [List.getElem_toArray, List.getElem_cons_succ, List.getElem_cons_zero, Act.put, List.setIfInBounds_toArray, List.set]
            refine wpAnyH_one 8 _ rfl (by kernel_rfl) (by rfl) (fun K hK => ?_)
            refine wp_append_lies _ _ _ _ rfl w.heap.size 42 ip _ 64 64 Tryd.underlying38 hip hp0 hp1 hp2 (by rw [zeros_size]) (by omega) vq pq.length _ rfl (hown5.alloc _) ⟨w5.heap.size, 0, none⟩ 1 1 p1 rfl (by rw [hpl1]) (World.news_of_block (cs := p1.toArray) (t := 42) (fr := (0, 0)) (heap_alloc_new w5 _)) hpo1 (by omega) (by unfold maxLen; omega) (by omega) (by simp; omega) (w5.heap.size + 1) (by simp) ?_
            intro gg cap2 w6 hown6 hgr6 hat6 hlt6
            obtain ⟨hc6, hf6⟩ := Hst8.out w6 hgr6
            have hbq : vq.ownBlock ≠ some bc := fun e => hbcM (.inr (.inr ⟨q, hq20, by rw [hvq]; exact e⟩))
            have hck7 := (hgr6.block bc (Array.getElem?_eq_some_iff.1 hck6).1 (fun e => hbq e.symm)).trans hck6
            have happ := hM5.append (q := q) (gg := gg) (cap := cap2) hq20 (p := p1) ⟨hpl1, hpo1⟩ (w3 := w5.alloc (.cells p1.toArray 42)) (w4 := w6) hA6 (by simp only [hpq]; exact hown6) (by rw [hvq]; exact hgr6) (by rw [hvq]; exact hat6.imp id (fun e => by omega))
            simp only [hpq] at happ
            obtain ⟨hM7, ho7, hfo7⟩ := happ
            refine hK _ _ hck7 ?_
            clear hK K
            try simp only [List.getElem_toArray, List.getElem_cons_succ, List.getElem_cons_zero, Act.put, List.setIfInBounds_toArray, List.set]
            refine wpAnyH_take (i := 9) (v := .pointer (some ⟨b8, q, none⟩)) rfl (by kernel_rfl) (by kernel_rfl) (by kernel_rfl) (fun _ _ _ h => h) (Or.inl ⟨by rfl, ?_⟩) hck7 ?_
            · intro w' _; go_simp
            try simp only [List.getElem_toArray, List.getElem_cons_succ, List.getElem_cons_zero, Act.put, List.setIfInBounds_toArray, List.set]
            refine wpAnyH_one 10 _ rfl (by kernel_rfl) (by rfl) (fun K hK => ?_)
            go_simp
            have hck8 := (ho7.block bc (Array.getElem?_eq_some_iff.1 hck5).1 hbcM).trans hck5
            refine hK _ _ hck8 ?_
            clear hK K
            try simp only [List.getElem_toArray, List.getElem_cons_succ, List.getElem_cons_zero, Act.put, List.setIfInBounds_toArray, List.set]
            refine wpAnyH_done (by kernel_rfl) ?_ _
            have hP7 := hP5.keep ho7 (fun x h1 h2 => hFM4 x h1 h2)
            have hb7' := hb5.trans (ho7.base (by omega) (fun x hx => hM5.base hx))
            have hM8 := hM7.congr (sm' := fun j => pendOf (S.ats ++ [(q : Int)]) (S.what ++ [p1]) j) (fun x hx => by
              rw [pendOf_snoc _ _ _ _ _ hI.good.same]
              by_cases e : x = q
              · subst e; simp [hpq]
              · rw [if_neg (by omega), if_neg e])
            have hFM8 : ∀ x, F' x → ¬ MFoot b7 b8 (fun j => if j = q then .slice (some ⟨gg, 0, none⟩) (pq.length + 1) cap2 else sv j) x := fun x h1 h2 => by
              rcases h2 with e | e | ⟨j, hj, e⟩
              · exact hFM4 x h1 (.inl e)
              · exact hFM4 x h1 (.inr (.inl e))
              · by_cases ej : j = q
                · simp only [if_pos ej, Value.ownBlock, Option.some.injEq] at e
                  subst e
                  exact hfo7.elim (hFM4 _ h1) (fun e => by have := hP5.lt h1; omega)
                · simp only [if_neg ej] at e
                  exact hFM4 x h1 (.inr (.inr ⟨j, hj, e⟩))
            clear hM7 ho7 hfo7 hM5 hP5 hb5 hown6 hgr6 hat6 Hst8 hc6 hf6 hck8 hck7 hck5 hck6 ca c8 hown5 hok5
            go_wp2
            go_roundg (L - (k + 1))
            case measure => omega
            case rel => exact ⟨k + 1, _, F', _, rfl, by omega, by omega, by first | rfl | simp, hI', hP7, hM8, hF4, hFM8, hb7'⟩
        · by_cases hkk2 : c.kind = 2
          · have hk1' : (c.kind == 1) = false := by simpa using hk1
            obtain ⟨e1, hI'⟩ := hI.flush
            have hdo := pd_flush hP hI.good hfew
            rw [e1] at hdo hI'
            clear e1
            go_wp2_with (first
              | (have _t := tokL; refine wpList_load_mid rfl 35 _ rfl bq (oq + k * 4) rfl (callCells c) _ HRg.out Tryd.underlying35 rfl hci.out ?_; clear tokL)
              | (have _t := tokC; refine wpList_alloc_arr rfl 35 rfl _ allocCall ?_; clear tokC)
              | (have _t := tokD; refine wpList_store_new rfl 35 _ _ rfl wr.heap.size rfl (callCells c).toArray rfl rfl 35 _ hci2.out hcold.out hcone.out ?_; rw [hwa.out, hbc.out]; clear tokD)
              | (go_at_call 20; refine hdo.mono ?_))
            rintro e w4 ⟨v2, rfl, F', hEr, hP4, ho4, hf4⟩
            obtain rfl := ErrV.zero hEr
            have hM4 := hM.keep ho4 (fun x h1 h2 => hFM x h2 h1)
            have hFM4 : ∀ x, F' x → ¬ MFoot b7 b8 sv x := fun x h1 h2 => (hf4 x h1).elim (fun e => hFM x e h2) (fun e => by have := hM.lt h2; omega)
            have hF4 : ∀ x, F' x → w.heap.size ≤ x := fun x hx => (hf4 x hx).elim (hF x) (fun e => by omega)
            have hb4 := hb.trans (ho4.base sb hF)
            clear hdo hEr ho4 hf4 hP hM hFM hF hb sb hck ck0 ck1 ck2 ck3
            have hnl : (flushS S.firm S.ats S.what).length = S.firm.length := flushS_length _ _ _
            have hfl20 := hI.size
            obtain ⟨nf, hnf⟩ : ∃ nf, Hid (flushS S.firm S.ats S.what = nf) := ⟨_, rfl⟩
            have HNG := Lib.hid (fun i => flushS_get S.ats S.what S.firm i hI.good.same hI.good.inr)
            rw [hnf.out] at HNG hnl hP4 hI'
            have hyN : ∀ p ∈ nf, BP p := by rw [← hnf.out]; exact flushS_mem _ _ _ hI.byt.1 hI.byt.2
            have hM5 : Mem w.heap.size b7 b8 (mixF S.firm nf 0) (mixS (fun j => pendOf S.ats S.what j) 0) sv w4 := by rw [show mixF S.firm nf 0 = S.firm by simp [mixF]]; exact hM4.congr (fun j _ => by simp [mixS])
            clear hM4
            go_wp2
            go_loopg [65] 20 (fun m v wr => ∃ (i : Nat) (sv : Nat → Value), m = 20 - i ∧ i ≤ 20 ∧ v = .int .i64 i ∧ PD ⟨nf, [], [], -1, false⟩ F' g wr ∧ Mem w.heap.size b7 b8 (mixF S.firm nf i) (mixS (fun j => pendOf S.ats S.what j) i) sv wr ∧ (∀ k, F' k → ¬ MFoot b7 b8 sv k) ∧ Below w.heap.size w wr)
            case atStart => exact ⟨0, sv, rfl, by omega, rfl, hP4, hM5, hFM4, hb4⟩
            case round =>
              clear hP4 hM5 hFM4 hb4
              rename World => wr2
              obtain ⟨i, sv, rfl, hi, rfl, hP, hM, hFM, hb⟩ := hrel
              by_cases hi20 : i < 20
              · have hlt2 : (i : Int) < 20 := by omega
                have hwi : IntKind.i64.wrap ((i : Int) + 1) = ((i + 1 : Nat) : Int) := by rw [IntWalk.i64_in _ (by omega)]; omega
                have hnfi : i < nf.length := by omega
                have hofi : i < S.firm.length := by omega
                have hng := HNG.out i
                rw [seen_last] at hng
                have c8 := hM.cell8 i hi20
                have f8 := hM.thaw8 i
                have hrow := hM.row i hi20
                have hok := hM.ok8 i hi20
                have hmi : mixS (fun j => pendOf S.ats S.what j) i i = pendOf S.ats S.what i := by unfold mixS; rw [if_neg (by omega)]
                rw [hmi] at hrow hok
                obtain ⟨ao, ca, hsv⟩ := own_form hrow
                rw [hsv] at c8 hrow
                obtain ⟨NQ, hNQ⟩ : ∃ NQ, (pendOf S.ats S.what i).length = NQ := ⟨_, rfl⟩
                have hNQl : NQ ≤ 1048576 := by rw [← hNQ]; have := pendOf_len S.ats S.what i; omega
                rw [hNQ] at c8
                by_cases hN0 : NQ = 0
                · have hnil : pendOf S.ats S.what i = [] := List.length_eq_zero_iff.1 (by omega)
                  have hsame : nf[i] = S.firm[i] := by
                    rw [hnil, List.getElem?_eq_getElem hnfi, List.getElem?_eq_getElem hofi] at hng
                    simpa using hng
                  have hM' : Mem w.heap.size b7 b8 (mixF S.firm nf (i + 1)) (mixS (fun j => pendOf S.ats S.what j) (i + 1)) sv wr2 := by
                    rw [mixF_same hnl i hofi hsame]
                    exact hM.congr (fun x hx => by rw [mixS_next]; by_cases e : x = i; rw [if_pos e, e, hmi, hnil]; rw [if_neg e])
                  have hN0' : ¬ (0 : Int) < (NQ : Int) := by omega
                  clear hng hrow hok hmi hsv hnil hsame hN0 hNQ
                  go_wp2
                  go_roundg (20 - (i + 1))
                  case measure => omega
                  case rel => exact ⟨i + 1, sv, rfl, by omega, by first | rfl | simp, hP, hM', hFM, hb⟩
                · have hN1' : (0 : Int) < (NQ : Int) := by omega
                  have hwn : IntKind.i64.wrap ((NQ : Int) - 1) = ((NQ - 1 : Nat) : Int) := by rw [IntWalk.i64_in _ (by omega)]; omega
                  have hltn : ((NQ - 1 : Nat) : Int) < (NQ : Int) := by omega
                  have hlast : (pendOf S.ats S.what i)[NQ - 1]? = (pendOf S.ats S.what i).getLast? := by rw [List.getLast?_eq_getElem?, hNQ]
                  obtain ⟨lp, hlp⟩ : ∃ lp, (pendOf S.ats S.what i)[NQ - 1]? = some lp := ⟨_, List.getElem?_eq_getElem (by omega)⟩
                  have hnew : nf[i] = lp := by
                    rw [← hlast, hlp, List.getElem?_eq_getElem hnfi] at hng
                    simpa using hng
                  have blp : BP lp := hI.byt.2 lp (pendOf_mem _ _ _ _ (List.mem_of_getElem? hlp))
                  obtain ⟨gq, cq, hgq, _, _⟩ := hrow.form (by omega)
                  simp only [Value.slice.injEq, true_and] at hgq
                  obtain ⟨rfl, rfl⟩ := hgq
                  have hrange := own_page hrow hok (NQ - 1) lp hlp rfl
                  have HRg := Lib.hid hrange
                  have hi64 : Hid ((Tryd.prog.info? 42).map (·.size) = some lp.length) := by rw [blp.page.1]; exact info64
                  have hi65 : Hid ((Tryd.prog.info? 42).map (·.size) = some lp.toArray.size) := by rw [List.size_toArray, blp.page.1]; exact info64
                  have h7 := hM.at7
                  have hfl7 : (mixF S.firm nf i).flatten.length = 20 * 64 := by rw [flat_length hM.ok7, hM.len7]
                  have hfit : Hid (i * 64 + lp.toArray.size ≤ (mixF S.firm nf i).flatten.length) := by
                    show i * 64 + lp.toArray.size ≤ (mixF S.firm nf i).flatten.length
                    rw [List.size_toArray, blp.page.1, hfl7]; omega
                  have hall : Hid (∀ v ∈ lp.toArray.toList, v.oneCell' = true) := fun v hv => blp.page.2 v (by simpa using hv)
                  have H7 := Lib.hid h7
                  have HFM := Lib.hid (fun (w5 : World) (hs5 : w5.heap[b7]? = some (.cells (splice (mixF S.firm nf i).flatten (i * 64) lp).toArray 48 (0, 0))) (hg5 : wr2.grownBy w5 (some b7)) => hM.firmed hi20 blp.page hs5 hg5)
                  have l8 := hM.lt (.inr (.inl rfl) : MFoot b7 b8 sv b8)
                  have hne78 := hM.ne
                  have tokM : True := trivial
                  have tokW : True := trivial
                  clear hng hrow hok hsv hlast hrange h7 hfl7 hN0
                  go_wp2_with (first
                    | (have _t := tokM; refine wpList_load_mid rfl 42 _ rfl gq ((NQ - 1) * 64) rfl lp _ HRg.out Tryd.underlying42 rfl hi64.out ?_; clear tokM)
                    | (have _t := tokW; refine wpList_store_into rfl 42 _ _ rfl b7 (i * 64) lp.toArray rfl rfl _ 48 H7.out hi65.out hfit.out hall.out ?_; intro w5 Hs5 Hg5; clear tokW; have c8b : w5.cell? ⟨b8, i, none⟩ = some (.slice (some ⟨gq, 0, none⟩) NQ ca) := (Hg5.out.cell_far ⟨b8, i, none⟩ (by simp only; omega) (by simp; omega)).trans c8; have f8b : w5.frozen? ⟨b8, i, none⟩ = false := (Hg5.out.frozen_far ⟨b8, i, none⟩ (by simp only; omega) (by simp; omega)).trans f8))
                  obtain ⟨hM6, ho6⟩ := HFM.out w5 Hs5.out Hg5.out
                  have hM7 : Mem w.heap.size b7 b8 (mixF S.firm nf (i + 1)) (mixS (fun j => pendOf S.ats S.what j) (i + 1)) (fun x => if x = i then .slice none 0 0 else sv x) (w5.setCell ⟨b8, i, none⟩ (.slice none 0 0)) := by
                    rw [mixF_next hnl i hofi, hnew]
                    exact hM6.congr (fun x hx => mixS_next _ i x)
                  have hP7 := hP.keep ho6 (fun x h1 h2 => hFM x h1 h2)
                  have hb7' := hb.trans (ho6.base hb.size (fun x hx => hM.base hx))
                  have hFM7 : ∀ x, F' x → ¬ MFoot b7 b8 (fun x => if x = i then .slice none 0 0 else sv x) x := fun x h1 h2 => by
                    rcases h2 with e | e | ⟨j, hj, e⟩
                    · exact hFM x h1 (.inl e)
                    · exact hFM x h1 (.inr (.inl e))
                    · by_cases ej : j = i
                      · simp [if_pos ej, Value.ownBlock] at e
                      · simp only [if_neg ej] at e
                        exact hFM x h1 (.inr (.inr ⟨j, hj, e⟩))
                  clear hM6 ho6 hM hP hb hFM
                  go_roundg (20 - (i + 1))
                  case measure => omega
                  case rel => exact ⟨i + 1, _, rfl, by omega, by first | rfl | simp, hP7, hM7, hFM7, hb7'⟩
              · have hge2 : ¬ ((i : Int) < 20) := by omega
                have hM' : Mem w.heap.size b7 b8 nf (fun j => pendOf [] [] j) sv wr2 := by
                  have hmf : mixF S.firm nf i = nf := by unfold mixF; rw [List.take_of_length_le (by omega), List.drop_eq_nil_of_le (by omega), List.append_nil]
                  rw [← hmf]
                  exact hM.congr (fun x hx => by unfold mixS; rw [if_pos (by omega)]; rfl)
                go_wp2
                go_roundg (L - (k + 1))
                case measure => omega
                case rel => exact ⟨k + 1, _, F', sv, rfl, by omega, by omega, by first | rfl | simp, hI', hP, hM', hF4, hFM, hb⟩
          · have hk1' : (c.kind == 1) = false := by simpa using hk1
            have hk2' : (c.kind == 2) = false := by simpa using hkk2
            go_wp2_with (first
              | (have _t := tokL; refine wpList_load_mid rfl 35 _ rfl bq (oq + k * 4) rfl (callCells c) _ HRg.out Tryd.underlying35 rfl hci.out ?_; clear tokL)
              | (have _t := tokC; refine wpList_alloc_arr rfl 35 rfl _ allocCall ?_; clear tokC)
              | (have _t := tokD; refine wpList_store_new rfl 35 _ _ rfl wr.heap.size rfl (callCells c).toArray rfl rfl 35 _ hci2.out hcold.out hcone.out ?_; rw [hwa.out, hbc.out]; clear tokD))
            go_roundg (L - (k + 1))
            case measure => omega
            case rel => exact ⟨k + 1, S, F, sv, rfl, by omega, by omega, by first | rfl | simp, hI.more (by omega), hP, hM, hF, hFM, hb⟩
    · have hge : ¬ ((k : Int) < (L : Int)) := by omega
      clear hlt
      have hfew : S.ats.length ≤ 1048576 := by have := hI.few; omega
      have hcr := pd_crash hP hI.good hfew a1 c1 z1 ((hN1.below hb).mono hb.size) hl1
      rw [hL1.out] at hcr
      have hIx := hI.crash z1
      have HRC := Lib.hid (read_crash hI z1)
      have sb := hb.size
      have hyS := hI.byt
      have hln := hI.size
      have hfw := hI.few
      go_wp2_with (go_at_call 21; refine hcr.mono ?_)
      rintro e wx ⟨v, rfl, hNx⟩
      have hM2 : Mem w.heap.size b7 b8 S.firm (fun j => pendOf S.ats S.what j) sv wx := by obtain ⟨_, _, _, _, hbb, _⟩ := hNx; exact hM.below hbb
      obtain ⟨gx, Fx, rfl, hPx, hFx, hbx⟩ := hNx.next sb hb
      generalize crashOf S z1 = X at hIx HRC hPx
      clear hcr hNx hP hM hb sb hI hFx hF hFM hfew
      go_wp2
      go_loopg [90] 20 (fun m v wr => ∃ j : Nat, m = 20 - j ∧ j ≤ 20 ∧ v = .int .i64 j ∧ PD X Fx gx wr ∧ Mem w.heap.size b7 b8 S.firm (fun j => pendOf S.ats S.what j) sv wr ∧ Below w.heap.size w wr)
      case atStart => exact ⟨0, rfl, by omega, rfl, hPx, hM2, hbx⟩
      case round =>
        clear hPx hM2 hbx
        rename World => wr2
        obtain ⟨j, rfl, hj, rfl, hPx, hM, hb⟩ := hrel
        by_cases hj20 : j < 20
        · have hlt2 : (j : Int) < 20 := by omega
          have hwj : IntKind.i64.wrap ((j : Int) + 1) = ((j + 1 : Nat) : Int) := by rw [IntWalk.i64_in _ (by omega)]; omega
          have hnum := hIx.read j hj20
          have bpg := byt_read hIx.byt j
          have hr1 := pd_read hPx j
          have hrc := HRC.out j hj20
          obtain ⟨pg, hpg⟩ : ∃ pg, (readOf X j).1 = pg := ⟨_, rfl⟩
          rw [hpg, hnum] at hr1
          rw [hpg] at bpg hrc
          have hjf : j < S.firm.length := by omega
          obtain ⟨fp, hfp⟩ : ∃ fp, S.firm[j] = fp := ⟨_, rfl⟩
          have hfj : S.firm[j]? = some fp := by rw [List.getElem?_eq_getElem hjf, hfp]
          have bfp : BP fp := hyS.1 fp (List.mem_of_getElem? hfj)
          rw [hfj] at hrc
          have HRC2 : Hid (pg = fp ∨ pg ∈ pendOf S.ats S.what j) := hrc.imp (fun e => (Option.some.inj e).symm) id
          have HFJ := Lib.hid hfj
          clear hrc hpg hfp hfj hnum
          have hz1_pg := page_size bpg.page
          have hz2_pg := page_all bpg.page
          have hz3_pg := zeros_eq bpg.page
          go_wp2_with (go_at_call 17; refine hr1.mono ?_)
          rintro e w3a ⟨v3, rfl, hE3, hr3⟩
          obtain rfl := ErrV.zero hE3
          have hA3 := hr3.alloc hr3.size (.cells pg.toArray 42)
          have hk3 : (w3a.alloc (.cells pg.toArray 42)).heap[w3a.heap.size]? = some (.cells pg.toArray 42 (0, 0)) := heap_alloc_new w3a _
          replace hPx := hPx.below hA3
          replace hM := hM.below hA3
          replace hb := hb.trans (hA3.mono (by have := hb.size; omega))
          obtain ⟨w3, hw3⟩ : ∃ w', Hid (w3a.alloc (.cells pg.toArray 42) = w') := ⟨_, rfl⟩
          obtain ⟨b3, hb3⟩ : ∃ b', Hid (w3a.heap.size = b') := ⟨_, rfl⟩
          rw [hw3.out] at hk3 hPx hM hb
          rw [hb3.out] at hk3
          clear hE3 hr3 hA3
          have tokA3 : True := trivial
          have tokS3 : True := trivial
          obtain ⟨ob, hob, heq⟩ := bpg.eqIn bfp
          have HOB := Lib.hid hob
          clear hob hr1
          go_wp2_with (first
            | (have _t := tokA3; refine wpList_alloc_arr rfl 42 rfl _ alloc64 ?_; clear tokA3)
            | (have _t := tokS3; refine wpList_store_new rfl 42 _ _ rfl w3a.heap.size rfl pg.toArray rfl rfl 42 _ hz1_pg.out hz3_pg.out hz2_pg.out ?_; rw [hw3.out, hb3.out]; clear tokS3))
          refine wp_region_held (S := fun w' => w'.heap[b3]? = some (.cells pg.toArray 42 (0, 0)) ∧ w'.heap[b7]? = some (.cells S.firm.flatten.toArray 48 (0, 0))) (by kernel_rfl) ?_
          change wpAnyH _ _ _ _ _ _ _ _ (World.drew _)
          have hS : w3.drew.heap[b3]? = some (.cells pg.toArray 42 (0, 0)) ∧ w3.drew.heap[b7]? = some (.cells S.firm.flatten.toArray 48 (0, 0)) := ⟨hk3, hM.at7⟩
          have hbd : Below w3.heap.size w3 w3.drew := ⟨rfl, rfl, rfl, Nat.le_refl _, fun _ _ => rfl⟩
          replace hPx := hPx.below hbd
          replace hM := hM.below hbd
          replace hb := hb.trans (hbd.mono (by have := hb.size; omega))
          clear hk3 hbd hw3
          generalize w3.drew = w4 at hS hPx hM hb ⊢
          have HOK := Lib.hid hM.ok7
          refine wpAnyH_take (i := 0) (v := .agg pg.toArray) rfl (by kernel_rfl) (by kernel_rfl) (by kernel_rfl) (fun _ _ _ h => h) (Or.inl ⟨by rfl, ?_⟩) hS ?_
          · intro w' hS'
            exact exec_load _ _ 42 _ rfl b3 0 rfl _ (run_loadAt_mid w' b3 0 42 pg _ (fun i v hi => by rw [Nat.zero_add, cell_of_row w' b3 i _ _ _ hS'.1]; simpa using hi) Tryd.underlying42 rfl (by rw [bpg.page.1]; exact info64))
          try simp only [List.getElem_toArray, List.getElem_cons_zero, Act.put, List.setIfInBounds_toArray, List.set]
          refine wpAnyH_take (i := 1) (v := .int .i64 j) rfl (by kernel_rfl) (by kernel_rfl) (by kernel_rfl) (fun _ _ _ h => h) (Or.inl ⟨by rfl, ?_⟩) hS ?_
          · intro w' _; go_simp
          try simp only [List.getElem_toArray, List.getElem_cons_succ, List.getElem_cons_zero, Act.put, List.setIfInBounds_toArray, List.set]
          refine wpAnyH_take (i := 2) (v := .pointer (some ⟨b7, j * 64, none⟩)) rfl (by kernel_rfl) (by kernel_rfl) (by kernel_rfl) (fun _ _ _ h => h) (Or.inl ⟨by rfl, ?_⟩) hS ?_
          · intro w' _; go_simp
          try simp only [List.getElem_toArray, List.getElem_cons_succ, List.getElem_cons_zero, Act.put, List.setIfInBounds_toArray, List.set]
          refine wpAnyH_take (i := 3) (v := .agg fp.toArray) rfl (by kernel_rfl) (by kernel_rfl) (by kernel_rfl) (fun _ _ _ h => h) (Or.inl ⟨by rfl, ?_⟩) hS ?_
          · intro w' hS'
            exact exec_load _ _ 42 _ rfl b7 (j * 64) rfl _ (run_loadAt_mid w' b7 (j * 64) 42 fp _ (fun i v hi => by rw [cell_of_row w' b7 _ _ _ _ hS'.2, List.getElem?_toArray, flat_get HOK.out j fp HFJ.out i (by have := (List.getElem?_eq_some_iff.1 hi).1; rw [bfp.page.1] at this; exact this)]; exact hi) Tryd.underlying42 rfl (by rw [bfp.page.1]; exact info64))
          try simp only [List.getElem_toArray, List.getElem_cons_succ, List.getElem_cons_zero, Act.put, List.setIfInBounds_toArray, List.set]
          refine wpAnyH_take (i := 4) (v := .bool ob) rfl (by kernel_rfl) (by kernel_rfl) (by kernel_rfl) (fun _ _ _ h => h) (Or.inl ⟨by rfl, ?_⟩) hS ?_
          · intro w' _; go_simp
          try simp only [List.getElem_toArray, List.getElem_cons_succ, List.getElem_cons_zero, Act.put, List.setIfInBounds_toArray, List.set]
          refine wpAnyH_take (i := 5) (v := .bool ob) rfl (by kernel_rfl) (by kernel_rfl) (by kernel_rfl) (fun _ _ _ h => h) (Or.inl ⟨by rfl, ?_⟩) hS ?_
          · intro w' _; go_simp
          try simp only [List.getElem_toArray, List.getElem_cons_succ, List.getElem_cons_zero, Act.put, List.setIfInBounds_toArray, List.set]
          refine wpAnyH_done (by kernel_rfl) ?_ _
          have hk3 := hS.1
          clear hS heq HOK
          have c8 := hM.cell8 j hj20
          obtain ⟨ao, ca, hsv⟩ := own_form (hM.row j hj20)
          rw [hsv] at c8
          obtain ⟨NQ, hNQ⟩ : ∃ NQ, Hid ((pendOf S.ats S.what j).length = NQ) := ⟨_, rfl⟩
          have hNQn : NQ ≤ 140737488355328 := by rw [← hNQ.out]; have := pendOf_len S.ats S.what j; omega
          rw [hNQ.out] at c8
          have HSV := Lib.hid hsv
          clear hsv
          go_wp2
          go_loopg [18, 108] NQ (fun m okv v wr => ∃ (i : Nat) (o : Bool), m = NQ - i ∧ i ≤ NQ ∧ okv = .bool o ∧ v = .int .i64 i ∧ (o = true ↔ pg = fp ∨ pg ∈ (pendOf S.ats S.what j).take i) ∧ wr.heap[b3]? = some (.cells pg.toArray 42 (0, 0)) ∧ PD X Fx gx wr ∧ Mem w.heap.size b7 b8 S.firm (fun j => pendOf S.ats S.what j) sv wr ∧ Below w.heap.size w wr)
          case atStart => exact ⟨0, ob, rfl, by omega, rfl, rfl, by simpa using HOB.out, hk3, hPx, hM, hb⟩
          case round =>
            clear hk3 hPx hM hb c8 HOB
            rename World => wr2
            obtain ⟨i, o, rfl, hi, rfl, rfl, hoi, hk3, hPx, hM, hb⟩ := hrel
            by_cases hiN : i < NQ
            · have hlt3 : (i : Int) < (NQ : Int) := by omega
              have hwi : IntKind.i64.wrap ((i : Int) + 1) = ((i + 1 : Nat) : Int) := by rw [IntWalk.i64_in _ (by omega)]; omega
              have hil : i < (pendOf S.ats S.what j).length := by rw [hNQ.out]; exact hiN
              have hrow := hM.row j hj20
              try simp only at hrow
              rw [HSV.out] at hrow
              obtain ⟨gq, cq, hgq, _, _⟩ := hrow.form (by omega)
              simp only [Value.slice.injEq, true_and] at hgq
              obtain ⟨rfl, rfl⟩ := hgq
              obtain ⟨qp, hqp⟩ : ∃ qp, (pendOf S.ats S.what j)[i] = qp := ⟨_, rfl⟩
              have hqi : (pendOf S.ats S.what j)[i]? = some qp := by rw [List.getElem?_eq_getElem hil, hqp]
              have bqp : BP qp := hyS.2 qp (pendOf_mem _ _ _ _ (List.mem_of_getElem? hqi))
              have hrange := own_page hrow (hM.ok8 j hj20) i qp hqi rfl
              have htk : (pendOf S.ats S.what j).take (i + 1) = (pendOf S.ats S.what j).take i ++ [qp] := by rw [List.take_succ_eq_append_getElem hil, hqp]
              obtain ⟨o2, ho2, heq⟩ := bpg.eqIn bqp
              have HON : Hid ((o || o2) = true ↔ pg = fp ∨ pg ∈ (pendOf S.ats S.what j).take (i + 1)) := by rw [htk]; show _ ↔ _; rw [Bool.or_eq_true, hoi, ho2, List.mem_append, List.mem_singleton, or_assoc]
              have HRg := Lib.hid hrange
              have hi64 : Hid ((Tryd.prog.info? 42).map (·.size) = some qp.length) := by rw [bqp.page.1]; exact info64
              have hA5 : Below wr2.heap.size wr2 (wr2.alloc (.cells qp.toArray 42)) := (Below.refl _ wr2).alloc (Nat.le_refl _) _
              have hk5 : (wr2.alloc (.cells qp.toArray 42)).heap[wr2.heap.size]? = some (.cells qp.toArray 42 (0, 0)) := heap_alloc_new wr2 _
              replace hk3 := (hA5.block b3 (Array.getElem?_eq_some_iff.1 hk3).1).trans hk3
              replace hPx := hPx.below hA5
              replace hM := hM.below hA5
              replace hb := hb.trans (hA5.mono (by have := hb.size; omega))
              obtain ⟨w5, hw5⟩ : ∃ w', Hid (wr2.alloc (.cells qp.toArray 42) = w') := ⟨_, rfl⟩
              obtain ⟨b5, hb5⟩ : ∃ b', Hid (wr2.heap.size = b') := ⟨_, rfl⟩
              rw [hw5.out] at hk5 hk3 hPx hM hb
              rw [hb5.out] at hk5
              have hz1_qp := page_size bqp.page
              have hz2_qp := page_all bqp.page
              have hz3_qp := zeros_eq bqp.page
              have hld3 := Lib.hid (run_loadAt_mid (P := Tryd.prog) w5 b3 0 42 pg _ (fun j v hj => by rw [Nat.zero_add, cell_of_row w5 b3 j _ _ _ hk3]; simpa using hj) Tryd.underlying42 rfl (by rw [bpg.page.1]; exact info64))
              have hld5 := Lib.hid (run_loadAt_mid (P := Tryd.prog) w5 b5 0 42 qp _ (fun j v hj => by rw [Nat.zero_add, cell_of_row w5 b5 j _ _ _ hk5]; simpa using hj) Tryd.underlying42 rfl (by rw [bqp.page.1]; exact info64))
              clear hqi hqp htk hrange hrow hA5 hk5 hoi ho2
              have tokA5 : True := trivial
              have tokS5 : True := trivial
              have tokM : True := trivial
              cases o
              · go_wp2_with (first
                  | (have _t := tokM; refine wpList_load_mid rfl 42 _ rfl gq (i * 64) rfl qp _ HRg.out Tryd.underlying42 rfl hi64.out ?_; clear tokM)
                  | (have _t := tokA5; refine wpList_alloc_arr rfl 42 rfl _ alloc64 ?_; clear tokA5)
                  | (have _t := tokS5; refine wpList_store_new rfl 42 _ _ rfl wr2.heap.size rfl qp.toArray rfl rfl 42 _ hz1_qp.out hz3_qp.out hz2_qp.out ?_; rw [hw5.out, hb5.out]; clear tokS5)
                  | (have _t := hld3; refine wpList_load_page _ rfl b3 0 rfl _ hld3.out (by rfl) ?_; clear hld3)
                  | (have _t := hld5; refine wpList_load_page _ rfl b5 0 rfl _ hld5.out (by rfl) ?_; clear hld5))
                go_roundg (NQ - (i + 1))
                case measure => omega
                case rel => exact ⟨i + 1, _, rfl, by omega, rfl, by first | rfl | simp, by simpa using HON.out, hk3, hPx, hM, hb⟩
              · go_wp2_with (first
                  | (have _t := tokM; refine wpList_load_mid rfl 42 _ rfl gq (i * 64) rfl qp _ HRg.out Tryd.underlying42 rfl hi64.out ?_; clear tokM)
                  | (have _t := tokA5; refine wpList_alloc_arr rfl 42 rfl _ alloc64 ?_; clear tokA5)
                  | (have _t := tokS5; refine wpList_store_new rfl 42 _ _ rfl wr2.heap.size rfl qp.toArray rfl rfl 42 _ hz1_qp.out hz3_qp.out hz2_qp.out ?_; rw [hw5.out, hb5.out]; clear tokS5)
                  | (have _t := hld3; refine wpList_load_page _ rfl b3 0 rfl _ hld3.out (by rfl) ?_; clear hld3)
                  | (have _t := hld5; refine wpList_load_page _ rfl b5 0 rfl _ hld5.out (by rfl) ?_; clear hld5))
                go_roundg (NQ - (i + 1))
                case measure => omega
                case rel => exact ⟨i + 1, _, rfl, by omega, rfl, by first | rfl | simp, by simpa using HON.out, hk3, hPx, hM, hb⟩
            · have hge3 : ¬ ((i : Int) < (NQ : Int)) := by omega
              have hot : o = true := hoi.2 (HRC2.out.imp id (fun h => by rw [List.take_of_length_le (by rw [hNQ.out]; omega)]; exact h))
              subst hot
              clear hoi
              go_wp2
              go_roundg (20 - (j + 1))
              case measure => omega
              case rel => exact ⟨j + 1, rfl, by omega, by first | rfl | simp, hPx, hM, hb⟩
        · have hge2 : ¬ ((j : Int) < 20) := by omega
          have hpx := pd_pending hPx
          have hox := pd_off hPx
          have hz0 : X.ats.length = 0 := by have := hIx.few; omega
          rw [hz0] at hpx
          rw [hIx.on] at hox
          go_wp2_with (first
            | (go_at_call 15; refine hpx.mono ?_; rintro e w' ⟨rfl, rfl⟩)
            | (go_at_call 14; refine hox.mono ?_; rintro e w' ⟨rfl, rfl⟩))
          go_ret
          exact ⟨rfl, hb⟩
end Go.Proofs.YtbmpbcnoclhhgaaDoor
