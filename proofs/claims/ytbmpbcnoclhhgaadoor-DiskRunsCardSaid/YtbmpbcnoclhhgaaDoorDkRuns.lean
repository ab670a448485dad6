/-
  'DiskRuns': its walk.
-/
import Derived.Test.YtbmpbcnoclhhgaaDoorDkBoth
import Derived.Deep.QuietTactic
import Derived.BigQuiet
namespace Go.Proofs.YtbmpbcnoclhhgaaDoor
open Go.RowKit Sh Go.Extern.Stop Go.Stop Go.Extern

set_option maxRecDepth 100000 in
set_option maxHeartbeats 8000000 in
theorem diskRuns_any (n : Int) (bp : Option Addr) (cs : List CallD) (cap : Nat) {w : World} (hC : CallsAt w.heap.size w bp cs) (hl : cs.length ≤ 9223372036854775807) (hL0 : Laid w) :
    Calls Tryd.prog 3 #[.int .i64 n, .slice bp cs.length cap] w fun e w' => e = .returned (.bool true) ∧ Below w.heap.size w w' := by
  have hpos := hL0.pos
  obtain ⟨L, hL⟩ : ∃ L, Hid (cs.length = L) := ⟨_, rfl⟩
  have hLn : L ≤ 9223372036854775807 := by rw [← hL.out]; exact hl
  rw [hL.out]
  by_cases hbad : n < 1 ∨ 4096 < n
  · have hx := fun w => pnew_bad n hbad w
    have hy := fun w => rnew_bad n hbad w
    go_enter Tryd.func3, Tryd.ntmps3
    go_wp2_with (first
      | (go_at_call 9; refine (stands_any _).mono ?_; rintro e w1 ⟨rfl, hb1⟩)
      | (go_at_call 10; refine (hx _).mono ?_))
    rintro e w2 ⟨v, rfl, hE, hb2⟩
    have hb := hb1.trans (hb2.mono hb1.size)
    obtain ⟨t, x, rfl, q1, q2, q3⟩ : ∃ t x, v = .iface t x ∧ (∀ W : World, (binOp .eql 26 v .nilIface).run Tryd.prog W = .ok (.bool false) W) ∧ (∀ W : World, (binOp .neq 26 v .nilIface).run Tryd.prog W = .ok (.bool true) W) ∧ ∀ o1 o2 : Operand, eqGuard .eql 26 o1 o2 v .nilIface = pure () := by
      rcases hE with ⟨h0, _⟩ | ⟨_, ss, hCh⟩
      · cases h0
      · obtain ⟨t, x, rfl⟩ := hCh.iface
        exact ⟨t, x, rfl, hCh.notNil, fun W => run_neq_held_nil W 26 t x Tryd.methodsError, hCh.guard⟩
    have hnum := num_any 1 _ w2 (hL0.below hpos hb) hE
    clear hb1 hb2 hE
    go_wp2_with (first
      | (go_at_call 11; refine (hy _).mono ?_; rintro e w' ⟨rfl, rfl⟩)
      | (go_at_call 12; refine hnum.mono ?_; rintro e w4 ⟨rfl, hb4⟩))
    go_ret
    exact ⟨rfl, hb.trans (hb4.mono hb.size)⟩
  obtain ⟨N, rfl⟩ : ∃ N : Nat, n = (N : Int) := ⟨n.toNat, by omega⟩
  have hN1 : 1 ≤ N := by omega
  have hN2 : N ≤ 4096 := by omega
  clear hbad
  go_enter Tryd.func3, Tryd.ntmps3
  go_wp2_with (first
    | (go_at_call 9; refine (stands_any _).mono ?_; rintro e w1 ⟨rfl, hb1⟩)
    | (go_at_call 10; refine (pd_new N hN1 hN2 _).mono ?_))
  rintro e w2 ⟨v, rfl, hNw⟩
  obtain ⟨g, F, rfl, hP2, hF2, hb2⟩ := hNw.next hb1.size hb1
  have s1 := hb1.size
  have s2 := hb2.size
  clear hNw
  go_wp2_with (go_at_call 11; refine (rd_new N hN1 hN2 _).mono ?_)
  rintro e w3 ⟨v, rfl, gm, G, rfl, hR3, hb3, hG3⟩
  have hA : Pair w.heap.size (newS N) (newS N) F G g gm w3 :=
    ⟨hP2.below hb3, hR3, fun k h1 h2 => by have := hP2.lt h1; have := hG3 k h2; omega, same_new N, good_new N hN1 hN2, byt_new N, fun k hk => by have := hF2 k hk; omega, fun k hk => by have := hG3 k hk; omega⟩
  have hb03 := hb2.trans (hb3.mono s2)
  have hfl : (newS N).firm.length = N := by simp [newS]
  clear hb1 hP2 hF2 hb2 s1 s2 hR3 hb3 hG3
  go_wp2
  go_loopg [5, 7, 45] L (fun m d r v wr => ∃ (k : Nat) (S T : St) (F G : Nat → Prop) (g gm : Nat), m = L - k ∧ k ≤ L ∧ k ≤ 200 ∧ d = .pointer (some ⟨g, 0, none⟩) ∧ r = .pointer (some ⟨gm, 0, none⟩) ∧ v = .int .i64 k ∧ Pair w.heap.size S T F G g gm wr ∧ S.firm.length = N ∧ S.ats.length ≤ k ∧ Below w.heap.size w wr)
  case atStart => exact ⟨0, _, _, F, G, g, gm, rfl, by omega, by omega, rfl, rfl, rfl, hA, hfl, by simp [newS], hb03⟩
  case round =>
    clear hA hb03 hfl
    obtain ⟨k, S, T, F, G, g, gm, rfl, hk, hk2, rfl, rfl, rfl, hA, hfl, hfw, hb⟩ := hrel
    by_cases hlt : k < L
    · have hlt' : (k : Int) < (L : Int) := by omega
      have sb0 := hb.size
      have hwk : IntKind.i64.wrap ((k : Int) + 1) = ((k + 1 : Nat) : Int) := by rw [IntWalk.i64_in _ (by omega)]; omega
      have hka : k < cs.length := by rw [hL.out]; exact hlt
      obtain ⟨bq, oq, hbe, hbq, hcs⟩ := (hC.below hb).resolve_left (by intro h0; rw [h0] at hka; simp at hka)
      first | subst hbe | (replace hbe := hbe.symm; simp only [Option.some.injEq, Addr.mk.injEq, and_true] at hbe; obtain ⟨rfl, rfl⟩ := hbe)
      obtain ⟨hrange, hok⟩ := hcs k cs[k] (List.getElem?_eq_getElem hka)
      obtain ⟨c, hc⟩ : ∃ c, cs[k] = c := ⟨_, rfl⟩
      have HCG : Hid (cs[k]? = some c) := (by rw [List.getElem?_eq_getElem hka, hc] : cs[k]? = some c)
      rw [hc] at hrange hok
      have HRg := Lib.hid hrange
      have hci : Hid ((Tryd.prog.info? 35).map (·.size) = some (callCells c).length) := (infoCall : (Tryd.prog.info? 35).map (·.size) = some 4)
      have hci2 : Hid ((Tryd.prog.info? 35).map (·.size) = some (callCells c).toArray.size) := (infoCall : (Tryd.prog.info? 35).map (·.size) = some 4)
      have hcone : Hid ((callCells c).toArray.all (·.oneCell') = true) := call_one c
      have hcold : Hid (zeroCall.size = (callCells c).toArray.size) := (rfl : zeroCall.size = 4)
      have hba : Below wr.heap.size wr (wr.alloc (.cells (callCells c).toArray 35)) := (Below.refl _ wr).alloc (Nat.le_refl _) _
      have hck : (wr.alloc (.cells (callCells c).toArray 35)).heap[wr.heap.size]? = some (.cells (callCells c).toArray 35 (0, 0)) := heap_alloc_new wr _
      obtain ⟨wa, hwa⟩ : ∃ w', Hid (wr.alloc (.cells (callCells c).toArray 35) = w') := ⟨_, rfl⟩
      obtain ⟨bc, hbc⟩ : ∃ b', Hid (wr.heap.size = b') := ⟨_, rfl⟩
      rw [hwa.out] at hba hck
      rw [hbc.out] at hck
      replace hA := hA.below hba
      replace hb := hb.trans (hba.mono hb.size)
      have ck0 : wa.cell? ⟨bc, 0, none⟩ = some (.int .i64 c.kind) := by rw [cell_of_row wa bc 0 _ _ _ hck]; rfl
      have ck1 : wa.cell? ⟨bc, 1, none⟩ = some (.int .i64 c.i) := by rw [cell_of_row wa bc 1 _ _ _ hck]; rfl
      have ck2 : wa.cell? ⟨bc, 2, none⟩ = some (cu8 c.what) := by rw [cell_of_row wa bc 2 _ _ _ hck]; rfl
      have ck3 : wa.cell? ⟨bc, 3, none⟩ = some (.slice c.ap c.pick.length c.cp) := by rw [cell_of_row wa bc 3 _ _ _ hck]; rfl
      have tokL : True := trivial
      have tokC : True := trivial
      have tokD : True := trivial
      have hoka : CallOk w.heap.size wa c := hok.below (hba.mono (by omega))
      clear hcs hrange hba hc hok
      obtain ⟨NP, hNP⟩ : ∃ NP, Hid (c.pick.length = NP) := ⟨_, rfl⟩
      rw [hNP.out] at ck3
      have sb := hb.size
      skip
      by_cases h200 : k = 200
      · have h200b : ((k : Int) == 200) = true := by rw [h200]; rfl
        clear h200
        have hfew : S.ats.length ≤ 1048576 := by omega
        have hgT := hA.same.good hA.good
        have hfT : T.ats.length ≤ 1048576 := by rw [hA.same.ats]; exact hfew
        by_cases hM : N < 100
        · have hm1 : (N : Int) < 100 := by omega
          have hm2 : ¬ (100 : Int) < (N : Int) := by omega
          have hm3 : min (N : Int) 100 = (N : Int) := by omega
          go_wp2_with (first
            | (have _t := tokL; refine wpList_load_mid rfl 35 _ rfl bq (oq + k * 4) rfl (callCells c) _ HRg.out Tryd.underlying35 rfl hci.out ?_; clear tokL)
            | (have _t := tokC; refine wpList_alloc_arr rfl 35 rfl _ allocCall ?_; clear tokC)
            | (have _t := tokD; refine wpList_store_new rfl 35 _ _ rfl wr.heap.size rfl (callCells c).toArray rfl rfl 35 _ hci2.out hcold.out hcone.out ?_; rw [hwa.out, hbc.out]; clear tokD))
          go_loopg [94] N (fun m v wr => ∃ i : Nat, m = N - i ∧ i ≤ N ∧ v = .int .i64 i ∧ Pair w.heap.size S T F G g gm wr ∧ Below w.heap.size w wr)
          case atStart => exact ⟨0, rfl, by omega, rfl, hA, hb⟩
          case round =>
            clear hA hb
            rename World => wr2
            obtain ⟨i, rfl, hi, rfl, hA, hb⟩ := hrel
            by_cases hiM : i < N
            · have hlt2 : (i : Int) < (N : Int) := by omega
              have hwi : IntKind.i64.wrap ((i : Int) + 1) = ((i + 1 : Nat) : Int) := by rw [IntWalk.i64_in _ (by omega)]; omega
              have hr1 := pd_read hA.p i
              have bpg := byt_read hA.byt i
              obtain ⟨pg, hpg⟩ : ∃ pg, (readOf S i).1 = pg := ⟨_, rfl⟩
              obtain ⟨nn, hnn⟩ : ∃ nn, (readOf S i).2 = nn := ⟨_, rfl⟩
              rw [hpg, hnn] at hr1
              rw [hpg] at bpg
              have hz1_pg := page_size bpg.page
              have hz2_pg := page_all bpg.page
              have hz3_pg := zeros_eq bpg.page
              go_wp2_with (go_at_call 17; refine hr1.mono ?_)
              rintro e w3a ⟨v3, rfl, hE3, hr3⟩
              have hA3 := hr3.alloc hr3.size (.cells pg.toArray 42)
              have hk3 : (w3a.alloc (.cells pg.toArray 42)).heap[w3a.heap.size]? = some (.cells pg.toArray 42 (0, 0)) := heap_alloc_new w3a _
              replace hA := hA.below hA3
              replace hb := hb.trans (hA3.mono (by have := hb.size; omega))
              replace hE3 := hE3.below (w' := w3a.alloc (.cells pg.toArray 42)) ((Below.refl _ _).alloc (Nat.le_refl _) _)
              obtain ⟨w3, hw3⟩ : ∃ w', Hid (w3a.alloc (.cells pg.toArray 42) = w') := ⟨_, rfl⟩
              obtain ⟨b3, hb3⟩ : ∃ b', Hid (w3a.heap.size = b') := ⟨_, rfl⟩
              rw [hw3.out] at hk3 hA hb hE3
              rw [hb3.out] at hk3
              clear hr3 hA3
              have tokA3 : True := trivial
              have tokS3 : True := trivial
              have hr2 := rd_read hA.r hgT hfT i
              rw [hA.same.read, hpg, hnn] at hr2
              clear hr1
              go_wp2_with (first
                | (have _t := tokA3; refine wpList_alloc_arr rfl 42 rfl _ alloc64 ?_; clear tokA3)
                | (have _t := tokS3; refine wpList_store_new rfl 42 _ _ rfl w3a.heap.size rfl pg.toArray rfl rfl 42 _ hz1_pg.out hz3_pg.out hz2_pg.out ?_; rw [hw3.out, hb3.out]; clear tokS3)
                | (go_at_call 18; refine hr2.mono ?_))
              rintro e w4a ⟨rfl, hr4⟩
              have hA4 := hr4.alloc hr4.size (.cells pg.toArray 42)
              have hk4 : (w4a.alloc (.cells pg.toArray 42)).heap[w4a.heap.size]? = some (.cells pg.toArray 42 (0, 0)) := heap_alloc_new w4a _
              replace hA := hA.below hA4
              replace hk3 := (hA4.block b3 (Array.getElem?_eq_some_iff.1 hk3).1).trans hk3
              replace hE3 := hE3.below hA4
              replace hb := hb.trans (hA4.mono (by have := hb.size; omega))
              obtain ⟨w4, hw4⟩ : ∃ w', Hid (w4a.alloc (.cells pg.toArray 42) = w') := ⟨_, rfl⟩
              obtain ⟨b4, hb4⟩ : ∃ b', Hid (w4a.heap.size = b') := ⟨_, rfl⟩
              rw [hw4.out] at hk4 hA hk3 hE3 hb
              rw [hb4.out] at hk4
              clear hr4 hA4 hr2
              have tokA4 : True := trivial
              have tokS4 : True := trivial
              have hld3 := Lib.hid (run_loadAt_mid (P := Tryd.prog) w4 b3 0 42 pg _ (fun j v hj => by rw [Nat.zero_add, cell_of_row w4 b3 j _ _ _ hk3]; simpa using hj) Tryd.underlying42 rfl (by rw [bpg.page.1]; exact info64))
              have hld4 := Lib.hid (run_loadAt_mid (P := Tryd.prog) w4 b4 0 42 pg _ (fun j v hj => by rw [Nat.zero_add, cell_of_row w4 b4 j _ _ _ hk4]; simpa using hj) Tryd.underlying42 rfl (by rw [bpg.page.1]; exact info64))
              have heq := bpg.neq
              have hsm := bpg.same
              have hnum := num_any nn v3 w4 (hL0.below hpos hb) hE3
              clear hpg hnn
              go_wp2_with (first
                | (have _t := tokA4; refine wpList_alloc_arr rfl 42 rfl _ alloc64 ?_; clear tokA4)
                | (have _t := tokS4; refine wpList_store_new rfl 42 _ _ rfl w4a.heap.size rfl pg.toArray rfl rfl 42 _ hz1_pg.out hz3_pg.out hz2_pg.out ?_; rw [hw4.out, hb4.out]; clear tokS4)
                | (have _t := hld3; refine wpList_load_page _ rfl b3 0 rfl _ hld3.out (by rfl) ?_; clear hld3)
                | (have _t := hld4; refine wpList_load_page _ rfl b4 0 rfl _ hld4.out (by rfl) ?_; clear hld4)
                | (go_at_call 12; refine hnum.mono ?_; rintro e w5 ⟨rfl, hb5⟩))
              go_roundg (N - (i + 1))
              case measure => omega
              case rel => exact ⟨i + 1, rfl, by omega, by first | rfl | simp, hA.below hb5, hb.trans (hb5.mono (by have := hb.size; omega))⟩
            · have hge2 : ¬ ((i : Int) < (N : Int)) := by omega
              go_wp2
              go_ret
              exact ⟨rfl, hb⟩
        · by_cases hM2 : 100 < N
          · have hm1 : ¬ (N : Int) < 100 := by omega
            have hm2 : (100 : Int) < (N : Int) := by omega
            have hm3 : min (N : Int) 100 = 100 := by omega
            go_wp2_with (first
              | (have _t := tokL; refine wpList_load_mid rfl 35 _ rfl bq (oq + k * 4) rfl (callCells c) _ HRg.out Tryd.underlying35 rfl hci.out ?_; clear tokL)
              | (have _t := tokC; refine wpList_alloc_arr rfl 35 rfl _ allocCall ?_; clear tokC)
              | (have _t := tokD; refine wpList_store_new rfl 35 _ _ rfl wr.heap.size rfl (callCells c).toArray rfl rfl 35 _ hci2.out hcold.out hcone.out ?_; rw [hwa.out, hbc.out]; clear tokD))
            go_loopg [94] 100 (fun m v wr => ∃ i : Nat, m = 100 - i ∧ i ≤ 100 ∧ v = .int .i64 i ∧ Pair w.heap.size S T F G g gm wr ∧ Below w.heap.size w wr)
            case atStart => exact ⟨0, rfl, by omega, rfl, hA, hb⟩
            case round =>
              clear hA hb
              rename World => wr2
              obtain ⟨i, rfl, hi, rfl, hA, hb⟩ := hrel
              by_cases hiM : i < 100
              · have hlt2 : (i : Int) < (100 : Int) := by omega
                have hwi : IntKind.i64.wrap ((i : Int) + 1) = ((i + 1 : Nat) : Int) := by rw [IntWalk.i64_in _ (by omega)]; omega
                have hr1 := pd_read hA.p i
                have bpg := byt_read hA.byt i
                obtain ⟨pg, hpg⟩ : ∃ pg, (readOf S i).1 = pg := ⟨_, rfl⟩
                obtain ⟨nn, hnn⟩ : ∃ nn, (readOf S i).2 = nn := ⟨_, rfl⟩
                rw [hpg, hnn] at hr1
                rw [hpg] at bpg
                have hz1_pg := page_size bpg.page
                have hz2_pg := page_all bpg.page
                have hz3_pg := zeros_eq bpg.page
                go_wp2_with (go_at_call 17; refine hr1.mono ?_)
                rintro e w3a ⟨v3, rfl, hE3, hr3⟩
                have hA3 := hr3.alloc hr3.size (.cells pg.toArray 42)
                have hk3 : (w3a.alloc (.cells pg.toArray 42)).heap[w3a.heap.size]? = some (.cells pg.toArray 42 (0, 0)) := heap_alloc_new w3a _
                replace hA := hA.below hA3
                replace hb := hb.trans (hA3.mono (by have := hb.size; omega))
                replace hE3 := hE3.below (w' := w3a.alloc (.cells pg.toArray 42)) ((Below.refl _ _).alloc (Nat.le_refl _) _)
                obtain ⟨w3, hw3⟩ : ∃ w', Hid (w3a.alloc (.cells pg.toArray 42) = w') := ⟨_, rfl⟩
                obtain ⟨b3, hb3⟩ : ∃ b', Hid (w3a.heap.size = b') := ⟨_, rfl⟩
                rw [hw3.out] at hk3 hA hb hE3
                rw [hb3.out] at hk3
                clear hr3 hA3
                have tokA3 : True := trivial
                have tokS3 : True := trivial
                have hr2 := rd_read hA.r hgT hfT i
                rw [hA.same.read, hpg, hnn] at hr2
                clear hr1
                go_wp2_with (first
                  | (have _t := tokA3; refine wpList_alloc_arr rfl 42 rfl _ alloc64 ?_; clear tokA3)
                  | (have _t := tokS3; refine wpList_store_new rfl 42 _ _ rfl w3a.heap.size rfl pg.toArray rfl rfl 42 _ hz1_pg.out hz3_pg.out hz2_pg.out ?_; rw [hw3.out, hb3.out]; clear tokS3)
                  | (go_at_call 18; refine hr2.mono ?_))
                rintro e w4a ⟨rfl, hr4⟩
                have hA4 := hr4.alloc hr4.size (.cells pg.toArray 42)
                have hk4 : (w4a.alloc (.cells pg.toArray 42)).heap[w4a.heap.size]? = some (.cells pg.toArray 42 (0, 0)) := heap_alloc_new w4a _
                replace hA := hA.below hA4
                replace hk3 := (hA4.block b3 (Array.getElem?_eq_some_iff.1 hk3).1).trans hk3
                replace hE3 := hE3.below hA4
                replace hb := hb.trans (hA4.mono (by have := hb.size; omega))
                obtain ⟨w4, hw4⟩ : ∃ w', Hid (w4a.alloc (.cells pg.toArray 42) = w') := ⟨_, rfl⟩
                obtain ⟨b4, hb4⟩ : ∃ b', Hid (w4a.heap.size = b') := ⟨_, rfl⟩
                rw [hw4.out] at hk4 hA hk3 hE3 hb
                rw [hb4.out] at hk4
                clear hr4 hA4 hr2
                have tokA4 : True := trivial
                have tokS4 : True := trivial
                have hld3 := Lib.hid (run_loadAt_mid (P := Tryd.prog) w4 b3 0 42 pg _ (fun j v hj => by rw [Nat.zero_add, cell_of_row w4 b3 j _ _ _ hk3]; simpa using hj) Tryd.underlying42 rfl (by rw [bpg.page.1]; exact info64))
                have hld4 := Lib.hid (run_loadAt_mid (P := Tryd.prog) w4 b4 0 42 pg _ (fun j v hj => by rw [Nat.zero_add, cell_of_row w4 b4 j _ _ _ hk4]; simpa using hj) Tryd.underlying42 rfl (by rw [bpg.page.1]; exact info64))
                have heq := bpg.neq
                have hsm := bpg.same
                have hnum := num_any nn v3 w4 (hL0.below hpos hb) hE3
                clear hpg hnn
                go_wp2_with (first
                  | (have _t := tokA4; refine wpList_alloc_arr rfl 42 rfl _ alloc64 ?_; clear tokA4)
                  | (have _t := tokS4; refine wpList_store_new rfl 42 _ _ rfl w4a.heap.size rfl pg.toArray rfl rfl 42 _ hz1_pg.out hz3_pg.out hz2_pg.out ?_; rw [hw4.out, hb4.out]; clear tokS4)
                  | (have _t := hld3; refine wpList_load_page _ rfl b3 0 rfl _ hld3.out (by rfl) ?_; clear hld3)
                  | (have _t := hld4; refine wpList_load_page _ rfl b4 0 rfl _ hld4.out (by rfl) ?_; clear hld4)
                  | (go_at_call 12; refine hnum.mono ?_; rintro e w5 ⟨rfl, hb5⟩))
                go_roundg (100 - (i + 1))
                case measure => omega
                case rel => exact ⟨i + 1, rfl, by omega, by first | rfl | simp, hA.below hb5, hb.trans (hb5.mono (by have := hb.size; omega))⟩
              · have hge2 : ¬ ((i : Int) < (100 : Int)) := by omega
                go_wp2
                go_ret
                exact ⟨rfl, hb⟩
          · obtain rfl : N = 100 := by omega
            go_wp2_with (first
              | (have _t := tokL; refine wpList_load_mid rfl 35 _ rfl bq (oq + k * 4) rfl (callCells c) _ HRg.out Tryd.underlying35 rfl hci.out ?_; clear tokL)
              | (have _t := tokC; refine wpList_alloc_arr rfl 35 rfl _ allocCall ?_; clear tokC)
              | (have _t := tokD; refine wpList_store_new rfl 35 _ _ rfl wr.heap.size rfl (callCells c).toArray rfl rfl 35 _ hci2.out hcold.out hcone.out ?_; rw [hwa.out, hbc.out]; clear tokD))
            go_loopg [94] 100 (fun m v wr => ∃ i : Nat, m = 100 - i ∧ i ≤ 100 ∧ v = .int .i64 i ∧ Pair w.heap.size S T F G g gm wr ∧ Below w.heap.size w wr)
            case atStart => exact ⟨0, rfl, by omega, rfl, hA, hb⟩
            case round =>
              clear hA hb
              rename World => wr2
              obtain ⟨i, rfl, hi, rfl, hA, hb⟩ := hrel
              by_cases hiM : i < 100
              · have hlt2 : (i : Int) < (100 : Int) := by omega
                have hwi : IntKind.i64.wrap ((i : Int) + 1) = ((i + 1 : Nat) : Int) := by rw [IntWalk.i64_in _ (by omega)]; omega
                have hr1 := pd_read hA.p i
                have bpg := byt_read hA.byt i
                obtain ⟨pg, hpg⟩ : ∃ pg, (readOf S i).1 = pg := ⟨_, rfl⟩
                obtain ⟨nn, hnn⟩ : ∃ nn, (readOf S i).2 = nn := ⟨_, rfl⟩
                rw [hpg, hnn] at hr1
                rw [hpg] at bpg
                have hz1_pg := page_size bpg.page
                have hz2_pg := page_all bpg.page
                have hz3_pg := zeros_eq bpg.page
                go_wp2_with (go_at_call 17; refine hr1.mono ?_)
                rintro e w3a ⟨v3, rfl, hE3, hr3⟩
                have hA3 := hr3.alloc hr3.size (.cells pg.toArray 42)
                have hk3 : (w3a.alloc (.cells pg.toArray 42)).heap[w3a.heap.size]? = some (.cells pg.toArray 42 (0, 0)) := heap_alloc_new w3a _
                replace hA := hA.below hA3
                replace hb := hb.trans (hA3.mono (by have := hb.size; omega))
                replace hE3 := hE3.below (w' := w3a.alloc (.cells pg.toArray 42)) ((Below.refl _ _).alloc (Nat.le_refl _) _)
                obtain ⟨w3, hw3⟩ : ∃ w', Hid (w3a.alloc (.cells pg.toArray 42) = w') := ⟨_, rfl⟩
                obtain ⟨b3, hb3⟩ : ∃ b', Hid (w3a.heap.size = b') := ⟨_, rfl⟩
                rw [hw3.out] at hk3 hA hb hE3
                rw [hb3.out] at hk3
                clear hr3 hA3
                have tokA3 : True := trivial
                have tokS3 : True := trivial
                have hr2 := rd_read hA.r hgT hfT i
                rw [hA.same.read, hpg, hnn] at hr2
                clear hr1
                go_wp2_with (first
                  | (have _t := tokA3; refine wpList_alloc_arr rfl 42 rfl _ alloc64 ?_; clear tokA3)
                  | (have _t := tokS3; refine wpList_store_new rfl 42 _ _ rfl w3a.heap.size rfl pg.toArray rfl rfl 42 _ hz1_pg.out hz3_pg.out hz2_pg.out ?_; rw [hw3.out, hb3.out]; clear tokS3)
                  | (go_at_call 18; refine hr2.mono ?_))
                rintro e w4a ⟨rfl, hr4⟩
                have hA4 := hr4.alloc hr4.size (.cells pg.toArray 42)
                have hk4 : (w4a.alloc (.cells pg.toArray 42)).heap[w4a.heap.size]? = some (.cells pg.toArray 42 (0, 0)) := heap_alloc_new w4a _
                replace hA := hA.below hA4
                replace hk3 := (hA4.block b3 (Array.getElem?_eq_some_iff.1 hk3).1).trans hk3
                replace hE3 := hE3.below hA4
                replace hb := hb.trans (hA4.mono (by have := hb.size; omega))
                obtain ⟨w4, hw4⟩ : ∃ w', Hid (w4a.alloc (.cells pg.toArray 42) = w') := ⟨_, rfl⟩
                obtain ⟨b4, hb4⟩ : ∃ b', Hid (w4a.heap.size = b') := ⟨_, rfl⟩
                rw [hw4.out] at hk4 hA hk3 hE3 hb
                rw [hb4.out] at hk4
                clear hr4 hA4 hr2
                have tokA4 : True := trivial
                have tokS4 : True := trivial
                have hld3 := Lib.hid (run_loadAt_mid (P := Tryd.prog) w4 b3 0 42 pg _ (fun j v hj => by rw [Nat.zero_add, cell_of_row w4 b3 j _ _ _ hk3]; simpa using hj) Tryd.underlying42 rfl (by rw [bpg.page.1]; exact info64))
                have hld4 := Lib.hid (run_loadAt_mid (P := Tryd.prog) w4 b4 0 42 pg _ (fun j v hj => by rw [Nat.zero_add, cell_of_row w4 b4 j _ _ _ hk4]; simpa using hj) Tryd.underlying42 rfl (by rw [bpg.page.1]; exact info64))
                have heq := bpg.neq
                have hsm := bpg.same
                have hnum := num_any nn v3 w4 (hL0.below hpos hb) hE3
                clear hpg hnn
                go_wp2_with (first
                  | (have _t := tokA4; refine wpList_alloc_arr rfl 42 rfl _ alloc64 ?_; clear tokA4)
                  | (have _t := tokS4; refine wpList_store_new rfl 42 _ _ rfl w4a.heap.size rfl pg.toArray rfl rfl 42 _ hz1_pg.out hz3_pg.out hz2_pg.out ?_; rw [hw4.out, hb4.out]; clear tokS4)
                  | (have _t := hld3; refine wpList_load_page _ rfl b3 0 rfl _ hld3.out (by rfl) ?_; clear hld3)
                  | (have _t := hld4; refine wpList_load_page _ rfl b4 0 rfl _ hld4.out (by rfl) ?_; clear hld4)
                  | (go_at_call 12; refine hnum.mono ?_; rintro e w5 ⟨rfl, hb5⟩))
                go_roundg (100 - (i + 1))
                case measure => omega
                case rel => exact ⟨i + 1, rfl, by omega, by first | rfl | simp, hA.below hb5, hb.trans (hb5.mono (by have := hb.size; omega))⟩
              · have hge2 : ¬ ((i : Int) < (100 : Int)) := by omega
                go_wp2
                go_ret
                exact ⟨rfl, hb⟩
      · have h200' : ¬ ((k : Int) = 200) := by omega
        have h200b : ((k : Int) == 200) = false := by simpa using h200'
        by_cases hNPc : 200 < NP
        · have hNP2 : (200 : Int) < (NP : Int) := by omega
          have hfew : S.ats.length ≤ 1048576 := by omega
          have hgT := hA.same.good hA.good
          have hfT : T.ats.length ≤ 1048576 := by rw [hA.same.ats]; exact hfew
          by_cases hM : N < 100
          · have hm1 : (N : Int) < 100 := by omega
            have hm2 : ¬ (100 : Int) < (N : Int) := by omega
            have hm3 : min (N : Int) 100 = (N : Int) := by omega
            go_wp2_with (first
              | (have _t := tokL; refine wpList_load_mid rfl 35 _ rfl bq (oq + k * 4) rfl (callCells c) _ HRg.out Tryd.underlying35 rfl hci.out ?_; clear tokL)
              | (have _t := tokC; refine wpList_alloc_arr rfl 35 rfl _ allocCall ?_; clear tokC)
              | (have _t := tokD; refine wpList_store_new rfl 35 _ _ rfl wr.heap.size rfl (callCells c).toArray rfl rfl 35 _ hci2.out hcold.out hcone.out ?_; rw [hwa.out, hbc.out]; clear tokD))
            go_loopg [94] N (fun m v wr => ∃ i : Nat, m = N - i ∧ i ≤ N ∧ v = .int .i64 i ∧ Pair w.heap.size S T F G g gm wr ∧ Below w.heap.size w wr)
            case atStart => exact ⟨0, rfl, by omega, rfl, hA, hb⟩
            case round =>
              clear hA hb
              rename World => wr2
              obtain ⟨i, rfl, hi, rfl, hA, hb⟩ := hrel
              by_cases hiM : i < N
              · have hlt2 : (i : Int) < (N : Int) := by omega
                have hwi : IntKind.i64.wrap ((i : Int) + 1) = ((i + 1 : Nat) : Int) := by rw [IntWalk.i64_in _ (by omega)]; omega
                have hr1 := pd_read hA.p i
                have bpg := byt_read hA.byt i
                obtain ⟨pg, hpg⟩ : ∃ pg, (readOf S i).1 = pg := ⟨_, rfl⟩
                obtain ⟨nn, hnn⟩ : ∃ nn, (readOf S i).2 = nn := ⟨_, rfl⟩
                rw [hpg, hnn] at hr1
                rw [hpg] at bpg
                have hz1_pg := page_size bpg.page
                have hz2_pg := page_all bpg.page
                have hz3_pg := zeros_eq bpg.page
                go_wp2_with (go_at_call 17; refine hr1.mono ?_)
                rintro e w3a ⟨v3, rfl, hE3, hr3⟩
                have hA3 := hr3.alloc hr3.size (.cells pg.toArray 42)
                have hk3 : (w3a.alloc (.cells pg.toArray 42)).heap[w3a.heap.size]? = some (.cells pg.toArray 42 (0, 0)) := heap_alloc_new w3a _
                replace hA := hA.below hA3
                replace hb := hb.trans (hA3.mono (by have := hb.size; omega))
                replace hE3 := hE3.below (w' := w3a.alloc (.cells pg.toArray 42)) ((Below.refl _ _).alloc (Nat.le_refl _) _)
                obtain ⟨w3, hw3⟩ : ∃ w', Hid (w3a.alloc (.cells pg.toArray 42) = w') := ⟨_, rfl⟩
                obtain ⟨b3, hb3⟩ : ∃ b', Hid (w3a.heap.size = b') := ⟨_, rfl⟩
                rw [hw3.out] at hk3 hA hb hE3
                rw [hb3.out] at hk3
                clear hr3 hA3
                have tokA3 : True := trivial
                have tokS3 : True := trivial
                have hr2 := rd_read hA.r hgT hfT i
                rw [hA.same.read, hpg, hnn] at hr2
                clear hr1
                go_wp2_with (first
                  | (have _t := tokA3; refine wpList_alloc_arr rfl 42 rfl _ alloc64 ?_; clear tokA3)
                  | (have _t := tokS3; refine wpList_store_new rfl 42 _ _ rfl w3a.heap.size rfl pg.toArray rfl rfl 42 _ hz1_pg.out hz3_pg.out hz2_pg.out ?_; rw [hw3.out, hb3.out]; clear tokS3)
                  | (go_at_call 18; refine hr2.mono ?_))
                rintro e w4a ⟨rfl, hr4⟩
                have hA4 := hr4.alloc hr4.size (.cells pg.toArray 42)
                have hk4 : (w4a.alloc (.cells pg.toArray 42)).heap[w4a.heap.size]? = some (.cells pg.toArray 42 (0, 0)) := heap_alloc_new w4a _
                replace hA := hA.below hA4
                replace hk3 := (hA4.block b3 (Array.getElem?_eq_some_iff.1 hk3).1).trans hk3
                replace hE3 := hE3.below hA4
                replace hb := hb.trans (hA4.mono (by have := hb.size; omega))
                obtain ⟨w4, hw4⟩ : ∃ w', Hid (w4a.alloc (.cells pg.toArray 42) = w') := ⟨_, rfl⟩
                obtain ⟨b4, hb4⟩ : ∃ b', Hid (w4a.heap.size = b') := ⟨_, rfl⟩
                rw [hw4.out] at hk4 hA hk3 hE3 hb
                rw [hb4.out] at hk4
                clear hr4 hA4 hr2
                have tokA4 : True := trivial
                have tokS4 : True := trivial
                have hld3 := Lib.hid (run_loadAt_mid (P := Tryd.prog) w4 b3 0 42 pg _ (fun j v hj => by rw [Nat.zero_add, cell_of_row w4 b3 j _ _ _ hk3]; simpa using hj) Tryd.underlying42 rfl (by rw [bpg.page.1]; exact info64))
                have hld4 := Lib.hid (run_loadAt_mid (P := Tryd.prog) w4 b4 0 42 pg _ (fun j v hj => by rw [Nat.zero_add, cell_of_row w4 b4 j _ _ _ hk4]; simpa using hj) Tryd.underlying42 rfl (by rw [bpg.page.1]; exact info64))
                have heq := bpg.neq
                have hsm := bpg.same
                have hnum := num_any nn v3 w4 (hL0.below hpos hb) hE3
                clear hpg hnn
                go_wp2_with (first
                  | (have _t := tokA4; refine wpList_alloc_arr rfl 42 rfl _ alloc64 ?_; clear tokA4)
                  | (have _t := tokS4; refine wpList_store_new rfl 42 _ _ rfl w4a.heap.size rfl pg.toArray rfl rfl 42 _ hz1_pg.out hz3_pg.out hz2_pg.out ?_; rw [hw4.out, hb4.out]; clear tokS4)
                  | (have _t := hld3; refine wpList_load_page _ rfl b3 0 rfl _ hld3.out (by rfl) ?_; clear hld3)
                  | (have _t := hld4; refine wpList_load_page _ rfl b4 0 rfl _ hld4.out (by rfl) ?_; clear hld4)
                  | (go_at_call 12; refine hnum.mono ?_; rintro e w5 ⟨rfl, hb5⟩))
                go_roundg (N - (i + 1))
                case measure => omega
                case rel => exact ⟨i + 1, rfl, by omega, by first | rfl | simp, hA.below hb5, hb.trans (hb5.mono (by have := hb.size; omega))⟩
              · have hge2 : ¬ ((i : Int) < (N : Int)) := by omega
                go_wp2
                go_ret
                exact ⟨rfl, hb⟩
          · by_cases hM2 : 100 < N
            · have hm1 : ¬ (N : Int) < 100 := by omega
              have hm2 : (100 : Int) < (N : Int) := by omega
              have hm3 : min (N : Int) 100 = 100 := by omega
              go_wp2_with (first
                | (have _t := tokL; refine wpList_load_mid rfl 35 _ rfl bq (oq + k * 4) rfl (callCells c) _ HRg.out Tryd.underlying35 rfl hci.out ?_; clear tokL)
                | (have _t := tokC; refine wpList_alloc_arr rfl 35 rfl _ allocCall ?_; clear tokC)
                | (have _t := tokD; refine wpList_store_new rfl 35 _ _ rfl wr.heap.size rfl (callCells c).toArray rfl rfl 35 _ hci2.out hcold.out hcone.out ?_; rw [hwa.out, hbc.out]; clear tokD))
              go_loopg [94] 100 (fun m v wr => ∃ i : Nat, m = 100 - i ∧ i ≤ 100 ∧ v = .int .i64 i ∧ Pair w.heap.size S T F G g gm wr ∧ Below w.heap.size w wr)
              case atStart => exact ⟨0, rfl, by omega, rfl, hA, hb⟩
              case round =>
                clear hA hb
                rename World => wr2
                obtain ⟨i, rfl, hi, rfl, hA, hb⟩ := hrel
                by_cases hiM : i < 100
                · have hlt2 : (i : Int) < (100 : Int) := by omega
                  have hwi : IntKind.i64.wrap ((i : Int) + 1) = ((i + 1 : Nat) : Int) := by rw [IntWalk.i64_in _ (by omega)]; omega
                  have hr1 := pd_read hA.p i
                  have bpg := byt_read hA.byt i
                  obtain ⟨pg, hpg⟩ : ∃ pg, (readOf S i).1 = pg := ⟨_, rfl⟩
                  obtain ⟨nn, hnn⟩ : ∃ nn, (readOf S i).2 = nn := ⟨_, rfl⟩
                  rw [hpg, hnn] at hr1
                  rw [hpg] at bpg
                  have hz1_pg := page_size bpg.page
                  have hz2_pg := page_all bpg.page
                  have hz3_pg := zeros_eq bpg.page
                  go_wp2_with (go_at_call 17; refine hr1.mono ?_)
                  rintro e w3a ⟨v3, rfl, hE3, hr3⟩
                  have hA3 := hr3.alloc hr3.size (.cells pg.toArray 42)
                  have hk3 : (w3a.alloc (.cells pg.toArray 42)).heap[w3a.heap.size]? = some (.cells pg.toArray 42 (0, 0)) := heap_alloc_new w3a _
                  replace hA := hA.below hA3
                  replace hb := hb.trans (hA3.mono (by have := hb.size; omega))
                  replace hE3 := hE3.below (w' := w3a.alloc (.cells pg.toArray 42)) ((Below.refl _ _).alloc (Nat.le_refl _) _)
                  obtain ⟨w3, hw3⟩ : ∃ w', Hid (w3a.alloc (.cells pg.toArray 42) = w') := ⟨_, rfl⟩
                  obtain ⟨b3, hb3⟩ : ∃ b', Hid (w3a.heap.size = b') := ⟨_, rfl⟩
                  rw [hw3.out] at hk3 hA hb hE3
                  rw [hb3.out] at hk3
                  clear hr3 hA3
                  have tokA3 : True := trivial
                  have tokS3 : True := trivial
                  have hr2 := rd_read hA.r hgT hfT i
                  rw [hA.same.read, hpg, hnn] at hr2
                  clear hr1
                  go_wp2_with (first
                    | (have _t := tokA3; refine wpList_alloc_arr rfl 42 rfl _ alloc64 ?_; clear tokA3)
                    | (have _t := tokS3; refine wpList_store_new rfl 42 _ _ rfl w3a.heap.size rfl pg.toArray rfl rfl 42 _ hz1_pg.out hz3_pg.out hz2_pg.out ?_; rw [hw3.out, hb3.out]; clear tokS3)
                    | (go_at_call 18; refine hr2.mono ?_))
                  rintro e w4a ⟨rfl, hr4⟩
                  have hA4 := hr4.alloc hr4.size (.cells pg.toArray 42)
                  have hk4 : (w4a.alloc (.cells pg.toArray 42)).heap[w4a.heap.size]? = some (.cells pg.toArray 42 (0, 0)) := heap_alloc_new w4a _
                  replace hA := hA.below hA4
                  replace hk3 := (hA4.block b3 (Array.getElem?_eq_some_iff.1 hk3).1).trans hk3
                  replace hE3 := hE3.below hA4
                  replace hb := hb.trans (hA4.mono (by have := hb.size; omega))
                  obtain ⟨w4, hw4⟩ : ∃ w', Hid (w4a.alloc (.cells pg.toArray 42) = w') := ⟨_, rfl⟩
                  obtain ⟨b4, hb4⟩ : ∃ b', Hid (w4a.heap.size = b') := ⟨_, rfl⟩
                  rw [hw4.out] at hk4 hA hk3 hE3 hb
                  rw [hb4.out] at hk4
                  clear hr4 hA4 hr2
                  have tokA4 : True := trivial
                  have tokS4 : True := trivial
                  have hld3 := Lib.hid (run_loadAt_mid (P := Tryd.prog) w4 b3 0 42 pg _ (fun j v hj => by rw [Nat.zero_add, cell_of_row w4 b3 j _ _ _ hk3]; simpa using hj) Tryd.underlying42 rfl (by rw [bpg.page.1]; exact info64))
                  have hld4 := Lib.hid (run_loadAt_mid (P := Tryd.prog) w4 b4 0 42 pg _ (fun j v hj => by rw [Nat.zero_add, cell_of_row w4 b4 j _ _ _ hk4]; simpa using hj) Tryd.underlying42 rfl (by rw [bpg.page.1]; exact info64))
                  have heq := bpg.neq
                  have hsm := bpg.same
                  have hnum := num_any nn v3 w4 (hL0.below hpos hb) hE3
                  clear hpg hnn
                  go_wp2_with (first
                    | (have _t := tokA4; refine wpList_alloc_arr rfl 42 rfl _ alloc64 ?_; clear tokA4)
                    | (have _t := tokS4; refine wpList_store_new rfl 42 _ _ rfl w4a.heap.size rfl pg.toArray rfl rfl 42 _ hz1_pg.out hz3_pg.out hz2_pg.out ?_; rw [hw4.out, hb4.out]; clear tokS4)
                    | (have _t := hld3; refine wpList_load_page _ rfl b3 0 rfl _ hld3.out (by rfl) ?_; clear hld3)
                    | (have _t := hld4; refine wpList_load_page _ rfl b4 0 rfl _ hld4.out (by rfl) ?_; clear hld4)
                    | (go_at_call 12; refine hnum.mono ?_; rintro e w5 ⟨rfl, hb5⟩))
                  go_roundg (100 - (i + 1))
                  case measure => omega
                  case rel => exact ⟨i + 1, rfl, by omega, by first | rfl | simp, hA.below hb5, hb.trans (hb5.mono (by have := hb.size; omega))⟩
                · have hge2 : ¬ ((i : Int) < (100 : Int)) := by omega
                  go_wp2
                  go_ret
                  exact ⟨rfl, hb⟩
            · obtain rfl : N = 100 := by omega
              go_wp2_with (first
                | (have _t := tokL; refine wpList_load_mid rfl 35 _ rfl bq (oq + k * 4) rfl (callCells c) _ HRg.out Tryd.underlying35 rfl hci.out ?_; clear tokL)
                | (have _t := tokC; refine wpList_alloc_arr rfl 35 rfl _ allocCall ?_; clear tokC)
                | (have _t := tokD; refine wpList_store_new rfl 35 _ _ rfl wr.heap.size rfl (callCells c).toArray rfl rfl 35 _ hci2.out hcold.out hcone.out ?_; rw [hwa.out, hbc.out]; clear tokD))
              go_loopg [94] 100 (fun m v wr => ∃ i : Nat, m = 100 - i ∧ i ≤ 100 ∧ v = .int .i64 i ∧ Pair w.heap.size S T F G g gm wr ∧ Below w.heap.size w wr)
              case atStart => exact ⟨0, rfl, by omega, rfl, hA, hb⟩
              case round =>
                clear hA hb
                rename World => wr2
                obtain ⟨i, rfl, hi, rfl, hA, hb⟩ := hrel
                by_cases hiM : i < 100
                · have hlt2 : (i : Int) < (100 : Int) := by omega
                  have hwi : IntKind.i64.wrap ((i : Int) + 1) = ((i + 1 : Nat) : Int) := by rw [IntWalk.i64_in _ (by omega)]; omega
                  have hr1 := pd_read hA.p i
                  have bpg := byt_read hA.byt i
                  obtain ⟨pg, hpg⟩ : ∃ pg, (readOf S i).1 = pg := ⟨_, rfl⟩
                  obtain ⟨nn, hnn⟩ : ∃ nn, (readOf S i).2 = nn := ⟨_, rfl⟩
                  rw [hpg, hnn] at hr1
                  rw [hpg] at bpg
                  have hz1_pg := page_size bpg.page
                  have hz2_pg := page_all bpg.page
                  have hz3_pg := zeros_eq bpg.page
                  go_wp2_with (go_at_call 17; refine hr1.mono ?_)
                  rintro e w3a ⟨v3, rfl, hE3, hr3⟩
                  have hA3 := hr3.alloc hr3.size (.cells pg.toArray 42)
                  have hk3 : (w3a.alloc (.cells pg.toArray 42)).heap[w3a.heap.size]? = some (.cells pg.toArray 42 (0, 0)) := heap_alloc_new w3a _
                  replace hA := hA.below hA3
                  replace hb := hb.trans (hA3.mono (by have := hb.size; omega))
                  replace hE3 := hE3.below (w' := w3a.alloc (.cells pg.toArray 42)) ((Below.refl _ _).alloc (Nat.le_refl _) _)
                  obtain ⟨w3, hw3⟩ : ∃ w', Hid (w3a.alloc (.cells pg.toArray 42) = w') := ⟨_, rfl⟩
                  obtain ⟨b3, hb3⟩ : ∃ b', Hid (w3a.heap.size = b') := ⟨_, rfl⟩
                  rw [hw3.out] at hk3 hA hb hE3
                  rw [hb3.out] at hk3
                  clear hr3 hA3
                  have tokA3 : True := trivial
                  have tokS3 : True := trivial
                  have hr2 := rd_read hA.r hgT hfT i
                  rw [hA.same.read, hpg, hnn] at hr2
                  clear hr1
                  go_wp2_with (first
                    | (have _t := tokA3; refine wpList_alloc_arr rfl 42 rfl _ alloc64 ?_; clear tokA3)
                    | (have _t := tokS3; refine wpList_store_new rfl 42 _ _ rfl w3a.heap.size rfl pg.toArray rfl rfl 42 _ hz1_pg.out hz3_pg.out hz2_pg.out ?_; rw [hw3.out, hb3.out]; clear tokS3)
                    | (go_at_call 18; refine hr2.mono ?_))
                  rintro e w4a ⟨rfl, hr4⟩
                  have hA4 := hr4.alloc hr4.size (.cells pg.toArray 42)
                  have hk4 : (w4a.alloc (.cells pg.toArray 42)).heap[w4a.heap.size]? = some (.cells pg.toArray 42 (0, 0)) := heap_alloc_new w4a _
                  replace hA := hA.below hA4
                  replace hk3 := (hA4.block b3 (Array.getElem?_eq_some_iff.1 hk3).1).trans hk3
                  replace hE3 := hE3.below hA4
                  replace hb := hb.trans (hA4.mono (by have := hb.size; omega))
                  obtain ⟨w4, hw4⟩ : ∃ w', Hid (w4a.alloc (.cells pg.toArray 42) = w') := ⟨_, rfl⟩
                  obtain ⟨b4, hb4⟩ : ∃ b', Hid (w4a.heap.size = b') := ⟨_, rfl⟩
                  rw [hw4.out] at hk4 hA hk3 hE3 hb
                  rw [hb4.out] at hk4
                  clear hr4 hA4 hr2
                  have tokA4 : True := trivial
                  have tokS4 : True := trivial
                  have hld3 := Lib.hid (run_loadAt_mid (P := Tryd.prog) w4 b3 0 42 pg _ (fun j v hj => by rw [Nat.zero_add, cell_of_row w4 b3 j _ _ _ hk3]; simpa using hj) Tryd.underlying42 rfl (by rw [bpg.page.1]; exact info64))
                  have hld4 := Lib.hid (run_loadAt_mid (P := Tryd.prog) w4 b4 0 42 pg _ (fun j v hj => by rw [Nat.zero_add, cell_of_row w4 b4 j _ _ _ hk4]; simpa using hj) Tryd.underlying42 rfl (by rw [bpg.page.1]; exact info64))
                  have heq := bpg.neq
                  have hsm := bpg.same
                  have hnum := num_any nn v3 w4 (hL0.below hpos hb) hE3
                  clear hpg hnn
                  go_wp2_with (first
                    | (have _t := tokA4; refine wpList_alloc_arr rfl 42 rfl _ alloc64 ?_; clear tokA4)
                    | (have _t := tokS4; refine wpList_store_new rfl 42 _ _ rfl w4a.heap.size rfl pg.toArray rfl rfl 42 _ hz1_pg.out hz3_pg.out hz2_pg.out ?_; rw [hw4.out, hb4.out]; clear tokS4)
                    | (have _t := hld3; refine wpList_load_page _ rfl b3 0 rfl _ hld3.out (by rfl) ?_; clear hld3)
                    | (have _t := hld4; refine wpList_load_page _ rfl b4 0 rfl _ hld4.out (by rfl) ?_; clear hld4)
                    | (go_at_call 12; refine hnum.mono ?_; rintro e w5 ⟨rfl, hb5⟩))
                  go_roundg (100 - (i + 1))
                  case measure => omega
                  case rel => exact ⟨i + 1, rfl, by omega, by first | rfl | simp, hA.below hb5, hb.trans (hb5.mono (by have := hb.size; omega))⟩
                · have hge2 : ¬ ((i : Int) < (100 : Int)) := by omega
                  go_wp2
                  go_ret
                  exact ⟨rfl, hb⟩
        · have hNP2 : ¬ (200 : Int) < (NP : Int) := by omega
          have hbt := both_any (c := c) hA (by omega) sb hpos (hL0.below hpos hb) hoka
          have hr0 : wa.rangeAt bc 0 (callCells c) := fun j v hj => by rw [Nat.zero_add, cell_of_row wa bc j _ _ _ hck]; simpa using hj
          have HR0 := Lib.hid hr0
          clear hr0
          have tokE : True := trivial
          go_wp2_with (first
            | (have _t := tokL; refine wpList_load_mid rfl 35 _ rfl bq (oq + k * 4) rfl (callCells c) _ HRg.out Tryd.underlying35 rfl hci.out ?_; clear tokL)
            | (have _t := tokC; refine wpList_alloc_arr rfl 35 rfl _ allocCall ?_; clear tokC)
            | (have _t := tokD; refine wpList_store_new rfl 35 _ _ rfl wr.heap.size rfl (callCells c).toArray rfl rfl 35 _ hci2.out hcold.out hcone.out ?_; rw [hwa.out, hbc.out]; clear tokD)
            | (have _t := tokE; refine wpList_load_mid rfl 35 _ rfl bc 0 rfl (callCells c) _ HR0.out Tryd.underlying35 rfl hci.out ?_; clear tokE)
            | (go_at_call 13; refine hbt.mono ?_))
          rintro e w4 ⟨g', gm', S', T', F', G', rfl, hA', hfm, hct, hb4⟩
          have hb' := hb.trans hb4
          rw [hfl] at hfm
          clear hbt hA hb hb4 hck ck0 ck1 ck2 ck3 hoka
          obtain ⟨vf, va, vw, hD, _⟩ := hA'.r
          have c4 : w4.cell? ⟨gm', 4, none⟩ = some (.bool T'.off) := hD.cell 4
          have c1 : w4.cell? ⟨gm', 1, none⟩ = some va := hD.cell 1
          obtain ⟨ao, ca, rfl⟩ := slice_form hD.rowA
          rw [hA'.same.off] at c4
          rw [hA'.same.ats] at c1
          have HOq := Lib.hid (fun n => pd_off (hA'.p.below (w' := w4.drewN n) ⟨rfl, rfl, rfl, Nat.le_refl _, fun _ _ => rfl⟩))
          have HPq := Lib.hid (fun n => pd_pending (hA'.p.below (w' := w4.drewN n) ⟨rfl, rfl, rfl, Nat.le_refl _, fun _ _ => rfl⟩))
          have HSq := Lib.hid (fun n => pd_size (hA'.p.below (w' := w4.drewN n) ⟨rfl, rfl, rfl, Nat.le_refl _, fun _ _ => rfl⟩))
          rw [hfm] at HSq
          obtain ⟨AL, hAL⟩ : ∃ AL, S'.ats.length = AL := ⟨_, rfl⟩
          rw [hAL] at c1 HPq
          obtain ⟨ob, hob⟩ : ∃ ob, S'.off = ob := ⟨_, rfl⟩
          rw [hob] at c4 HOq
          clear hob hD
          have HA := Lib.hid hA'
          clear hA'
          cases ob
          · go_wp2_with fail
            go_quiet (first
              | (go_at_call 14; exact Calls.quiet_of_same (HOq.out _))
              | (go_at_call 15; exact Calls.quiet_of_same (HPq.out _))
              | (go_at_call 16; exact Calls.quiet_of_same (HSq.out _)))
            have hbq : Below w4.heap.size w4 (w4.drewN nq) := ⟨rfl, rfl, rfl, Nat.le_refl _, fun _ _ => rfl⟩
            have hAq := HA.out.below hbq
            have hbb := hb'.trans (hbq.mono (by have := hb'.size; omega))
            go_wp2
            go_roundg (L - (k + 1))
            case measure => omega
            case rel => exact ⟨k + 1, S', T', F', G', g', gm', rfl, by omega, by omega, rfl, rfl, by first | rfl | simp, hAq, hfm, by omega, hbb⟩
          · go_wp2_with fail
            go_quiet (first
              | (go_at_call 14; exact Calls.quiet_of_same (HOq.out _))
              | (go_at_call 15; exact Calls.quiet_of_same (HPq.out _))
              | (go_at_call 16; exact Calls.quiet_of_same (HSq.out _)))
            have hbq : Below w4.heap.size w4 (w4.drewN nq) := ⟨rfl, rfl, rfl, Nat.le_refl _, fun _ _ => rfl⟩
            have hAq := HA.out.below hbq
            have hbb := hb'.trans (hbq.mono (by have := hb'.size; omega))
            go_wp2
            go_roundg (L - (k + 1))
            case measure => omega
            case rel => exact ⟨k + 1, S', T', F', G', g', gm', rfl, by omega, by omega, rfl, rfl, by first | rfl | simp, hAq, hfm, by omega, hbb⟩
    · have hge : ¬ ((k : Int) < (L : Int)) := by omega
      clear hlt
      have hfew : S.ats.length ≤ 1048576 := by omega
      have hgT := hA.same.good hA.good
      have hfT : T.ats.length ≤ 1048576 := by rw [hA.same.ats]; exact hfew
      by_cases hM : N < 100
      · have hm1 : (N : Int) < 100 := by omega
        have hm2 : ¬ (100 : Int) < (N : Int) := by omega
        have hm3 : min (N : Int) 100 = (N : Int) := by omega
        go_wp2
        go_loopg [94] N (fun m v wr => ∃ i : Nat, m = N - i ∧ i ≤ N ∧ v = .int .i64 i ∧ Pair w.heap.size S T F G g gm wr ∧ Below w.heap.size w wr)
        case atStart => exact ⟨0, rfl, by omega, rfl, hA, hb⟩
        case round =>
          clear hA hb
          rename World => wr2
          obtain ⟨i, rfl, hi, rfl, hA, hb⟩ := hrel
          by_cases hiM : i < N
          · have hlt2 : (i : Int) < (N : Int) := by omega
            have hwi : IntKind.i64.wrap ((i : Int) + 1) = ((i + 1 : Nat) : Int) := by rw [IntWalk.i64_in _ (by omega)]; omega
            have hr1 := pd_read hA.p i
            have bpg := byt_read hA.byt i
            obtain ⟨pg, hpg⟩ : ∃ pg, (readOf S i).1 = pg := ⟨_, rfl⟩
            obtain ⟨nn, hnn⟩ : ∃ nn, (readOf S i).2 = nn := ⟨_, rfl⟩
            rw [hpg, hnn] at hr1
            rw [hpg] at bpg
            have hz1_pg := page_size bpg.page
            have hz2_pg := page_all bpg.page
            have hz3_pg := zeros_eq bpg.page
            go_wp2_with (go_at_call 17; refine hr1.mono ?_)
            rintro e w3a ⟨v3, rfl, hE3, hr3⟩
            have hA3 := hr3.alloc hr3.size (.cells pg.toArray 42)
            have hk3 : (w3a.alloc (.cells pg.toArray 42)).heap[w3a.heap.size]? = some (.cells pg.toArray 42 (0, 0)) := heap_alloc_new w3a _
            replace hA := hA.below hA3
            replace hb := hb.trans (hA3.mono (by have := hb.size; omega))
            replace hE3 := hE3.below (w' := w3a.alloc (.cells pg.toArray 42)) ((Below.refl _ _).alloc (Nat.le_refl _) _)
            obtain ⟨w3, hw3⟩ : ∃ w', Hid (w3a.alloc (.cells pg.toArray 42) = w') := ⟨_, rfl⟩
            obtain ⟨b3, hb3⟩ : ∃ b', Hid (w3a.heap.size = b') := ⟨_, rfl⟩
            rw [hw3.out] at hk3 hA hb hE3
            rw [hb3.out] at hk3
            clear hr3 hA3
            have tokA3 : True := trivial
            have tokS3 : True := trivial
            have hr2 := rd_read hA.r hgT hfT i
            rw [hA.same.read, hpg, hnn] at hr2
            clear hr1
            go_wp2_with (first
              | (have _t := tokA3; refine wpList_alloc_arr rfl 42 rfl _ alloc64 ?_; clear tokA3)
              | (have _t := tokS3; refine wpList_store_new rfl 42 _ _ rfl w3a.heap.size rfl pg.toArray rfl rfl 42 _ hz1_pg.out hz3_pg.out hz2_pg.out ?_; rw [hw3.out, hb3.out]; clear tokS3)
              | (go_at_call 18; refine hr2.mono ?_))
            rintro e w4a ⟨rfl, hr4⟩
            have hA4 := hr4.alloc hr4.size (.cells pg.toArray 42)
            have hk4 : (w4a.alloc (.cells pg.toArray 42)).heap[w4a.heap.size]? = some (.cells pg.toArray 42 (0, 0)) := heap_alloc_new w4a _
            replace hA := hA.below hA4
            replace hk3 := (hA4.block b3 (Array.getElem?_eq_some_iff.1 hk3).1).trans hk3
            replace hE3 := hE3.below hA4
            replace hb := hb.trans (hA4.mono (by have := hb.size; omega))
            obtain ⟨w4, hw4⟩ : ∃ w', Hid (w4a.alloc (.cells pg.toArray 42) = w') := ⟨_, rfl⟩
            obtain ⟨b4, hb4⟩ : ∃ b', Hid (w4a.heap.size = b') := ⟨_, rfl⟩
            rw [hw4.out] at hk4 hA hk3 hE3 hb
            rw [hb4.out] at hk4
            clear hr4 hA4 hr2
            have tokA4 : True := trivial
            have tokS4 : True := trivial
            have hld3 := Lib.hid (run_loadAt_mid (P := Tryd.prog) w4 b3 0 42 pg _ (fun j v hj => by rw [Nat.zero_add, cell_of_row w4 b3 j _ _ _ hk3]; simpa using hj) Tryd.underlying42 rfl (by rw [bpg.page.1]; exact info64))
            have hld4 := Lib.hid (run_loadAt_mid (P := Tryd.prog) w4 b4 0 42 pg _ (fun j v hj => by rw [Nat.zero_add, cell_of_row w4 b4 j _ _ _ hk4]; simpa using hj) Tryd.underlying42 rfl (by rw [bpg.page.1]; exact info64))
            have heq := bpg.neq
            have hsm := bpg.same
            have hnum := num_any nn v3 w4 (hL0.below hpos hb) hE3
            clear hpg hnn
            go_wp2_with (first
              | (have _t := tokA4; refine wpList_alloc_arr rfl 42 rfl _ alloc64 ?_; clear tokA4)
              | (have _t := tokS4; refine wpList_store_new rfl 42 _ _ rfl w4a.heap.size rfl pg.toArray rfl rfl 42 _ hz1_pg.out hz3_pg.out hz2_pg.out ?_; rw [hw4.out, hb4.out]; clear tokS4)
              | (have _t := hld3; refine wpList_load_page _ rfl b3 0 rfl _ hld3.out (by rfl) ?_; clear hld3)
              | (have _t := hld4; refine wpList_load_page _ rfl b4 0 rfl _ hld4.out (by rfl) ?_; clear hld4)
              | (go_at_call 12; refine hnum.mono ?_; rintro e w5 ⟨rfl, hb5⟩))
            go_roundg (N - (i + 1))
            case measure => omega
            case rel => exact ⟨i + 1, rfl, by omega, by first | rfl | simp, hA.below hb5, hb.trans (hb5.mono (by have := hb.size; omega))⟩
          · have hge2 : ¬ ((i : Int) < (N : Int)) := by omega
            go_wp2
            go_ret
            exact ⟨rfl, hb⟩
      · by_cases hM2 : 100 < N
        · have hm1 : ¬ (N : Int) < 100 := by omega
          have hm2 : (100 : Int) < (N : Int) := by omega
          have hm3 : min (N : Int) 100 = 100 := by omega
          go_wp2
          go_loopg [94] 100 (fun m v wr => ∃ i : Nat, m = 100 - i ∧ i ≤ 100 ∧ v = .int .i64 i ∧ Pair w.heap.size S T F G g gm wr ∧ Below w.heap.size w wr)
          case atStart => exact ⟨0, rfl, by omega, rfl, hA, hb⟩
          case round =>
            clear hA hb
            rename World => wr2
            obtain ⟨i, rfl, hi, rfl, hA, hb⟩ := hrel
            by_cases hiM : i < 100
            · have hlt2 : (i : Int) < (100 : Int) := by omega
              have hwi : IntKind.i64.wrap ((i : Int) + 1) = ((i + 1 : Nat) : Int) := by rw [IntWalk.i64_in _ (by omega)]; omega
              have hr1 := pd_read hA.p i
              have bpg := byt_read hA.byt i
              obtain ⟨pg, hpg⟩ : ∃ pg, (readOf S i).1 = pg := ⟨_, rfl⟩
              obtain ⟨nn, hnn⟩ : ∃ nn, (readOf S i).2 = nn := ⟨_, rfl⟩
              rw [hpg, hnn] at hr1
              rw [hpg] at bpg
              have hz1_pg := page_size bpg.page
              have hz2_pg := page_all bpg.page
              have hz3_pg := zeros_eq bpg.page
              go_wp2_with (go_at_call 17; refine hr1.mono ?_)
              rintro e w3a ⟨v3, rfl, hE3, hr3⟩
              have hA3 := hr3.alloc hr3.size (.cells pg.toArray 42)
              have hk3 : (w3a.alloc (.cells pg.toArray 42)).heap[w3a.heap.size]? = some (.cells pg.toArray 42 (0, 0)) := heap_alloc_new w3a _
              replace hA := hA.below hA3
              replace hb := hb.trans (hA3.mono (by have := hb.size; omega))
              replace hE3 := hE3.below (w' := w3a.alloc (.cells pg.toArray 42)) ((Below.refl _ _).alloc (Nat.le_refl _) _)
              obtain ⟨w3, hw3⟩ : ∃ w', Hid (w3a.alloc (.cells pg.toArray 42) = w') := ⟨_, rfl⟩
              obtain ⟨b3, hb3⟩ : ∃ b', Hid (w3a.heap.size = b') := ⟨_, rfl⟩
              rw [hw3.out] at hk3 hA hb hE3
              rw [hb3.out] at hk3
              clear hr3 hA3
              have tokA3 : True := trivial
              have tokS3 : True := trivial
              have hr2 := rd_read hA.r hgT hfT i
              rw [hA.same.read, hpg, hnn] at hr2
              clear hr1
              go_wp2_with (first
                | (have _t := tokA3; refine wpList_alloc_arr rfl 42 rfl _ alloc64 ?_; clear tokA3)
                | (have _t := tokS3; refine wpList_store_new rfl 42 _ _ rfl w3a.heap.size rfl pg.toArray rfl rfl 42 _ hz1_pg.out hz3_pg.out hz2_pg.out ?_; rw [hw3.out, hb3.out]; clear tokS3)
                | (go_at_call 18; refine hr2.mono ?_))
              rintro e w4a ⟨rfl, hr4⟩
              have hA4 := hr4.alloc hr4.size (.cells pg.toArray 42)
              have hk4 : (w4a.alloc (.cells pg.toArray 42)).heap[w4a.heap.size]? = some (.cells pg.toArray 42 (0, 0)) := heap_alloc_new w4a _
              replace hA := hA.below hA4
              replace hk3 := (hA4.block b3 (Array.getElem?_eq_some_iff.1 hk3).1).trans hk3
              replace hE3 := hE3.below hA4
              replace hb := hb.trans (hA4.mono (by have := hb.size; omega))
              obtain ⟨w4, hw4⟩ : ∃ w', Hid (w4a.alloc (.cells pg.toArray 42) = w') := ⟨_, rfl⟩
              obtain ⟨b4, hb4⟩ : ∃ b', Hid (w4a.heap.size = b') := ⟨_, rfl⟩
              rw [hw4.out] at hk4 hA hk3 hE3 hb
              rw [hb4.out] at hk4
              clear hr4 hA4 hr2
              have tokA4 : True := trivial
              have tokS4 : True := trivial
              have hld3 := Lib.hid (run_loadAt_mid (P := Tryd.prog) w4 b3 0 42 pg _ (fun j v hj => by rw [Nat.zero_add, cell_of_row w4 b3 j _ _ _ hk3]; simpa using hj) Tryd.underlying42 rfl (by rw [bpg.page.1]; exact info64))
              have hld4 := Lib.hid (run_loadAt_mid (P := Tryd.prog) w4 b4 0 42 pg _ (fun j v hj => by rw [Nat.zero_add, cell_of_row w4 b4 j _ _ _ hk4]; simpa using hj) Tryd.underlying42 rfl (by rw [bpg.page.1]; exact info64))
              have heq := bpg.neq
              have hsm := bpg.same
              have hnum := num_any nn v3 w4 (hL0.below hpos hb) hE3
              clear hpg hnn
              go_wp2_with (first
                | (have _t := tokA4; refine wpList_alloc_arr rfl 42 rfl _ alloc64 ?_; clear tokA4)
                | (have _t := tokS4; refine wpList_store_new rfl 42 _ _ rfl w4a.heap.size rfl pg.toArray rfl rfl 42 _ hz1_pg.out hz3_pg.out hz2_pg.out ?_; rw [hw4.out, hb4.out]; clear tokS4)
                | (have _t := hld3; refine wpList_load_page _ rfl b3 0 rfl _ hld3.out (by rfl) ?_; clear hld3)
                | (have _t := hld4; refine wpList_load_page _ rfl b4 0 rfl _ hld4.out (by rfl) ?_; clear hld4)
                | (go_at_call 12; refine hnum.mono ?_; rintro e w5 ⟨rfl, hb5⟩))
              go_roundg (100 - (i + 1))
              case measure => omega
              case rel => exact ⟨i + 1, rfl, by omega, by first | rfl | simp, hA.below hb5, hb.trans (hb5.mono (by have := hb.size; omega))⟩
            · have hge2 : ¬ ((i : Int) < (100 : Int)) := by omega
              go_wp2
              go_ret
              exact ⟨rfl, hb⟩
        · obtain rfl : N = 100 := by omega
          go_wp2
          go_loopg [94] 100 (fun m v wr => ∃ i : Nat, m = 100 - i ∧ i ≤ 100 ∧ v = .int .i64 i ∧ Pair w.heap.size S T F G g gm wr ∧ Below w.heap.size w wr)
          case atStart => exact ⟨0, rfl, by omega, rfl, hA, hb⟩
          case round =>
            clear hA hb
            rename World => wr2
            obtain ⟨i, rfl, hi, rfl, hA, hb⟩ := hrel
            by_cases hiM : i < 100
            · have hlt2 : (i : Int) < (100 : Int) := by omega
              have hwi : IntKind.i64.wrap ((i : Int) + 1) = ((i + 1 : Nat) : Int) := by rw [IntWalk.i64_in _ (by omega)]; omega
              have hr1 := pd_read hA.p i
              have bpg := byt_read hA.byt i
              obtain ⟨pg, hpg⟩ : ∃ pg, (readOf S i).1 = pg := ⟨_, rfl⟩
              obtain ⟨nn, hnn⟩ : ∃ nn, (readOf S i).2 = nn := ⟨_, rfl⟩
              rw [hpg, hnn] at hr1
              rw [hpg] at bpg
              have hz1_pg := page_size bpg.page
              have hz2_pg := page_all bpg.page
              have hz3_pg := zeros_eq bpg.page
              go_wp2_with (go_at_call 17; refine hr1.mono ?_)
              rintro e w3a ⟨v3, rfl, hE3, hr3⟩
              have hA3 := hr3.alloc hr3.size (.cells pg.toArray 42)
              have hk3 : (w3a.alloc (.cells pg.toArray 42)).heap[w3a.heap.size]? = some (.cells pg.toArray 42 (0, 0)) := heap_alloc_new w3a _
              replace hA := hA.below hA3
              replace hb := hb.trans (hA3.mono (by have := hb.size; omega))
              replace hE3 := hE3.below (w' := w3a.alloc (.cells pg.toArray 42)) ((Below.refl _ _).alloc (Nat.le_refl _) _)
              obtain ⟨w3, hw3⟩ : ∃ w', Hid (w3a.alloc (.cells pg.toArray 42) = w') := ⟨_, rfl⟩
              obtain ⟨b3, hb3⟩ : ∃ b', Hid (w3a.heap.size = b') := ⟨_, rfl⟩
              rw [hw3.out] at hk3 hA hb hE3
              rw [hb3.out] at hk3
              clear hr3 hA3
              have tokA3 : True := trivial
              have tokS3 : True := trivial
              have hr2 := rd_read hA.r hgT hfT i
              rw [hA.same.read, hpg, hnn] at hr2
              clear hr1
              go_wp2_with (first
                | (have _t := tokA3; refine wpList_alloc_arr rfl 42 rfl _ alloc64 ?_; clear tokA3)
                | (have _t := tokS3; refine wpList_store_new rfl 42 _ _ rfl w3a.heap.size rfl pg.toArray rfl rfl 42 _ hz1_pg.out hz3_pg.out hz2_pg.out ?_; rw [hw3.out, hb3.out]; clear tokS3)
                | (go_at_call 18; refine hr2.mono ?_))
              rintro e w4a ⟨rfl, hr4⟩
              have hA4 := hr4.alloc hr4.size (.cells pg.toArray 42)
              have hk4 : (w4a.alloc (.cells pg.toArray 42)).heap[w4a.heap.size]? = some (.cells pg.toArray 42 (0, 0)) := heap_alloc_new w4a _
              replace hA := hA.below hA4
              replace hk3 := (hA4.block b3 (Array.getElem?_eq_some_iff.1 hk3).1).trans hk3
              replace hE3 := hE3.below hA4
              replace hb := hb.trans (hA4.mono (by have := hb.size; omega))
              obtain ⟨w4, hw4⟩ : ∃ w', Hid (w4a.alloc (.cells pg.toArray 42) = w') := ⟨_, rfl⟩
              obtain ⟨b4, hb4⟩ : ∃ b', Hid (w4a.heap.size = b') := ⟨_, rfl⟩
              rw [hw4.out] at hk4 hA hk3 hE3 hb
              rw [hb4.out] at hk4
              clear hr4 hA4 hr2
              have tokA4 : True := trivial
              have tokS4 : True := trivial
              have hld3 := Lib.hid (run_loadAt_mid (P := Tryd.prog) w4 b3 0 42 pg _ (fun j v hj => by rw [Nat.zero_add, cell_of_row w4 b3 j _ _ _ hk3]; simpa using hj) Tryd.underlying42 rfl (by rw [bpg.page.1]; exact info64))
              have hld4 := Lib.hid (run_loadAt_mid (P := Tryd.prog) w4 b4 0 42 pg _ (fun j v hj => by rw [Nat.zero_add, cell_of_row w4 b4 j _ _ _ hk4]; simpa using hj) Tryd.underlying42 rfl (by rw [bpg.page.1]; exact info64))
              have heq := bpg.neq
              have hsm := bpg.same
              have hnum := num_any nn v3 w4 (hL0.below hpos hb) hE3
              clear hpg hnn
              go_wp2_with (first
                | (have _t := tokA4; refine wpList_alloc_arr rfl 42 rfl _ alloc64 ?_; clear tokA4)
                | (have _t := tokS4; refine wpList_store_new rfl 42 _ _ rfl w4a.heap.size rfl pg.toArray rfl rfl 42 _ hz1_pg.out hz3_pg.out hz2_pg.out ?_; rw [hw4.out, hb4.out]; clear tokS4)
                | (have _t := hld3; refine wpList_load_page _ rfl b3 0 rfl _ hld3.out (by rfl) ?_; clear hld3)
                | (have _t := hld4; refine wpList_load_page _ rfl b4 0 rfl _ hld4.out (by rfl) ?_; clear hld4)
                | (go_at_call 12; refine hnum.mono ?_; rintro e w5 ⟨rfl, hb5⟩))
              go_roundg (100 - (i + 1))
              case measure => omega
              case rel => exact ⟨i + 1, rfl, by omega, by first | rfl | simp, hA.below hb5, hb.trans (hb5.mono (by have := hb.size; omega))⟩
            · have hge2 : ¬ ((i : Int) < (100 : Int)) := by omega
              go_wp2
              go_ret
              exact ⟨rfl, hb⟩
end Go.Proofs.YtbmpbcnoclhhgaaDoor
