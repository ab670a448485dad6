/-
  'DiskPicks': its walk.
-/
import Derived.Test.YtbmpbcnoclhhgaaDoorDkPicksMath
namespace Go.Proofs.YtbmpbcnoclhhgaaDoor
open Go.RowKit Sh Go.Extern.Stop Go.Stop Go.Extern

theorem nums_of_own {w : World} {B n cp : Nat} {ap : Option Addr} {e : TypeId} {xs : List Int} (h : w.ownsRow B e 1 (.slice ap n cp) n (xs.map (Value.int .i64))) (hx : xs.length = n) : Nums w.heap.size w ap xs := by
  rcases Nat.eq_zero_or_pos n with h0 | hpos
  · exact .inl (List.length_eq_zero_iff.1 (by omega))
  · obtain ⟨g, cap, hv, _, hlt⟩ := h.form hpos
    simp only [Value.slice.injEq, true_and] at hv
    obtain ⟨rfl, rfl⟩ := hv
    refine .inr ⟨g, 0, rfl, hlt, fun j v hj => ?_⟩
    have hjl := (List.getElem?_eq_some_iff.1 hj).1
    rw [Nat.zero_add, h.cellAt j (by omega), List.getElem?_map, hj]; rfl
theorem apart_next {F F' G : Nat → Prop} {N : Nat} (hf : ∀ k, F' k → F k ∨ N ≤ k) (hd : ∀ k, F k → ¬ G k) (hG : ∀ k, G k → k < N) : ∀ k, F' k → ¬ G k :=
  fun k hk hg => (hf k hk).elim (fun e => hd k e hg) (fun e => by have := hG k hg; omega)

set_option maxRecDepth 100000 in
set_option maxHeartbeats 8000000 in
theorem diskPicks_any (bp : Option Addr) (cs : List CallD) (cap : Nat) {w : World} (hC : CallsAt w.heap.size w bp cs) (hl : cs.length ≤ 9223372036854775807) :
    Calls Tryd.prog 5 #[.slice bp cs.length cap] w fun e w' => e = .returned (.bool true) ∧ Below w.heap.size w w' := by
  obtain ⟨L, hL⟩ : ∃ L, Hid (cs.length = L) := ⟨_, rfl⟩
  have hLn : L ≤ 9223372036854775807 := by rw [← hL.out]; exact hl
  rw [hL.out]
  go_enter Tryd.func5, Tryd.ntmps5
  go_wp2_with (first
    | (go_at_call 9; refine (stands_any _).mono ?_; rintro e w1 ⟨rfl, hb1⟩)
    | (go_at_call 10; refine (pd_new 10 (by omega) (by omega) _).mono ?_))
  rintro e w2 ⟨v, rfl, hN⟩
  obtain ⟨g, F, rfl, hP2, hF2, hb2⟩ := hN.next hb1.size hb1
  have s1 := hb1.size
  have s2 := hb2.size
  have hFB : ∀ k, F k → w.heap.size ≤ k := fun k hk => by have := hF2 k hk; omega
  clear hN
  go_wp2_with (go_at_call 10; refine (pd_new 10 (by omega) (by omega) _).mono ?_)
  rintro e w3 ⟨v, rfl, hN⟩
  have hP3 : PD (newS 10) F g w3 := by obtain ⟨_, _, _, _, hbb, _⟩ := hN; exact hP2.below hbb
  obtain ⟨ge, G, rfl, hE3, hG3, hb3⟩ := hN.next s2 hb2
  have hGB : ∀ k, G k → w.heap.size ≤ k := fun k hk => by have := hG3 k hk; omega
  have hFG : ∀ k, F k → ¬ G k := fun k hk hg => by have := hP2.lt hk; have := hG3 k hg; omega
  have hI0 := kept_new cs
  clear hN hb1 hF2 s1 hP2 hb2 s2 hG3
  go_wp2
  go_loopg [7, 41] L (fun m n v wr => ∃ (k : Nat) (S : St) (F : Nat → Prop), m = L - k ∧ k ≤ L ∧ k ≤ 200 ∧ n = .int .i64 S.ats.length ∧ v = .int .i64 k ∧ Kept cs S k ∧ PD S F g wr ∧ PD (newS 10) G ge wr ∧ (∀ k, F k → w.heap.size ≤ k) ∧ (∀ k, F k → ¬ G k) ∧ Below w.heap.size w wr)
  case atStart => exact ⟨0, _, F, rfl, by omega, by omega, rfl, rfl, hI0, hP3, hE3, hFB, hFG, hb3⟩
  case round =>
    clear hP3 hE3 hb3 hFB hFG hI0
    obtain ⟨k, S, F, rfl, hk, hk2, rfl, rfl, hI, hP, hE, hF, hFG, hb⟩ := hrel
    by_cases hlt : k < L
    · have hlt' : (k : Int) < (L : Int) := by omega
      have hwk : IntKind.i64.wrap ((k : Int) + 1) = ((k + 1 : Nat) : Int) := by rw [IntWalk.i64_in _ (by omega)]; omega
      have hka : k < cs.length := by rw [hL.out]; exact hlt
      obtain ⟨bq, oq, hbe, hbq, hcs⟩ := (hC.below hb).resolve_left (by intro h0; rw [h0] at hka; simp at hka)
      first | subst hbe | (replace hbe := hbe.symm; simp only [Option.some.injEq, Addr.mk.injEq, and_true] at hbe; obtain ⟨rfl, rfl⟩ := hbe)
      obtain ⟨hrange, hok⟩ := hcs k cs[k] (List.getElem?_eq_getElem hka)
      obtain ⟨c, hc⟩ : ∃ c, cs[k] = c := ⟨_, rfl⟩
      have HCG : Hid (cs[k]? = some c) := (by rw [List.getElem?_eq_getElem hka, hc] : cs[k]? = some c)
      rw [hc] at hrange hok
      have HRg := Lib.hid hrange
      have hci : Hid ((Tryd.prog.info? 35).map (·.size) = some (callCells c).length) := (infoCall : (Tryd.prog.info? 35).map (·.size) = some 4)
      have hci2 : Hid ((Tryd.prog.info? 35).map (·.size) = some (callCells c).toArray.size) := (infoCall : (Tryd.prog.info? 35).map (·.size) = some 4)
      have hcone : Hid ((callCells c).toArray.all (·.oneCell') = true) := call_one c
      have hcold : Hid (zeroCall.size = (callCells c).toArray.size) := (rfl : zeroCall.size = 4)
      have hba : Below wr.heap.size wr (wr.alloc (.cells (callCells c).toArray 35)) := (Below.refl _ wr).alloc (Nat.le_refl _) _
      have hck : (wr.alloc (.cells (callCells c).toArray 35)).heap[wr.heap.size]? = some (.cells (callCells c).toArray 35 (0, 0)) := heap_alloc_new wr _
      obtain ⟨wa, hwa⟩ : ∃ w', Hid (wr.alloc (.cells (callCells c).toArray 35) = w') := ⟨_, rfl⟩
      obtain ⟨bc, hbc⟩ : ∃ b', Hid (wr.heap.size = b') := ⟨_, rfl⟩
      rw [hwa.out] at hba hck
      rw [hbc.out] at hck
      replace hP := hP.below hba
      replace hE := hE.below hba
      replace hb := hb.trans (hba.mono hb.size)
      have ck0 : wa.cell? ⟨bc, 0, none⟩ = some (.int .i64 c.kind) := by rw [cell_of_row wa bc 0 _ _ _ hck]; rfl
      have ck1 : wa.cell? ⟨bc, 1, none⟩ = some (.int .i64 c.i) := by rw [cell_of_row wa bc 1 _ _ _ hck]; rfl
      have ck2 : wa.cell? ⟨bc, 2, none⟩ = some (cu8 c.what) := by rw [cell_of_row wa bc 2 _ _ _ hck]; rfl
      have ck3 : wa.cell? ⟨bc, 3, none⟩ = some (.slice c.ap c.pick.length c.cp) := by rw [cell_of_row wa bc 3 _ _ _ hck]; rfl
      have tokL : True := trivial
      have tokC : True := trivial
      have tokD : True := trivial
      clear hcs hrange hba hc
      have sb := hb.size
      by_cases h200 : k = 200
      · have h200b : ((k : Int) == 200) = true := by rw [h200]; rfl
        have HMk : Hid (k = min L 200) := (by omega : k = min L 200)
        clear h200
        have sb := hb.size
        have hfw := hI.on.few
        obtain ⟨N, hNn⟩ : ∃ N, Hid (S.ats.length = N) := ⟨_, rfl⟩
        have hN200 : N ≤ 200 := by rw [← hNn.out]; omega
        rw [hNn.out]
        go_wp2_with (first
          | (have _t := tokL; refine wpList_load_mid rfl 35 _ rfl bq (oq + k * 4) rfl (callCells c) _ HRg.out Tryd.underlying35 rfl hci.out ?_; clear tokL)
          | (have _t := tokC; refine wpList_alloc_arr rfl 35 rfl _ allocCall ?_; clear tokC)
          | (have _t := tokD; refine wpList_store_new rfl 35 _ _ rfl wr.heap.size rfl (callCells c).toArray rfl rfl 35 _ hci2.out hcold.out hcone.out ?_; rw [hwa.out, hbc.out]; clear tokD))
        obtain ⟨i0, hi0, hzz⟩ := Option.map_eq_some_iff.1 infoInt
        simp only [Prod.mk.injEq] at hzz
        have HI := Lib.hid hzz
        clear hzz
        obtain ⟨hq0, hq1, hq2⟩ := HI.out
        obtain ⟨ws, hws⟩ : ∃ ws : World, wa = ws := ⟨_, rfl⟩
        rw [hws] at hP hE hb sb ⊢
        clear hws
        obtain ⟨B, hB⟩ : ∃ B, Hid (ws.heap.size = B) := ⟨_, rfl⟩
        go_loopg [11, 71] N (fun m va v wr => ∃ j : Nat, m = N - j ∧ j ≤ N ∧ v = .int .i64 j ∧ wr.ownsRow B 3 1 va j ((upTo j).map (Value.int .i64)) ∧ Below B ws wr)
        case atStart => exact ⟨0, rfl, by omega, rfl, World.ownsRow_nil _ _ _ _, Below.refl _ _⟩
        case round =>
          rename World => wr2
          obtain ⟨j, rfl, hj, rfl, hown, hbs⟩ := hrel
          by_cases hjN : j < N
          · have hlt2 : (j : Int) < (N : Int) := by omega
            have hwj : IntKind.i64.wrap ((j : Int) + 1) = ((j + 1 : Nat) : Int) := by rw [IntWalk.i64_in _ (by omega)]; omega
            have hBs : B ≤ wr2.heap.size := by have := hbs.size; rw [← hB.out]; exact this
            skip
            go_wp2_with (at_builtin; refine wpList_append_lies _ rfl _ _ _ rfl B 3 i0 _ 1 8 Tryd.underlying33 hi0 hq0 hq1 hq2 rfl (by omega) _ j _ rfl (hown.alloc _) ⟨wr2.heap.size, 0, none⟩ 1 1 [.int .i64 j] rfl rfl (World.news_of_block (cs := #[.int .i64 j]) (t := 3) (fr := (0, 0)) (heap_alloc_new wr2 _)) (by simp [Value.oneCell']) (by omega) (by unfold maxLen; omega) (by omega) (by simp; omega) (wr2.heap.size + 1) (by simp) ?_)
            intro gg cap2 w4 hown4 hgr4 hat4 hlt4
            have hown5 : w4.ownsRow B 3 1 (.slice (some ⟨gg, 0, none⟩) (j + 1) cap2) (j + 1) ((upTo (j + 1)).map (Value.int .i64)) := by rw [upTo_next, List.map_append]; exact hown4
            have hbs5 : Below B ws w4 := by
              refine ⟨hgr4.os.trans hbs.os, hgr4.tape.trans hbs.tape, hgr4.output.trans hbs.output, Nat.le_trans hbs.size (Nat.le_trans (by simp) hgr4.size), fun q hq => ?_⟩
              exact (hgr4.block q (by simp; omega) (fun e => by have := (hown.lt q e.symm).1; omega)).trans ((Below.heap_alloc _ _ _ (by omega)).trans (hbs.block q hq))
            clear hown hown4 hgr4 hat4 hbs
            go_wp2
            go_roundg (N - (j + 1))
            case measure => omega
            case rel => exact ⟨j + 1, rfl, by omega, by first | rfl | simp, hown5, hbs5⟩
          · obtain rfl : j = N := by omega
            have hge2 : ¬ ((j : Int) < (j : Int)) := by omega
            clear HI hi0 hq0 hq1 hq2
            replace hP := hP.below (hB.out ▸ hbs)
            replace hE := hE.below (hB.out ▸ hbs)
            replace hb := hb.trans (hbs.mono (by rw [← hB.out]; exact sb))
            obtain ⟨ap, cp, rfl⟩ := own_form hown
            have hnums := nums_of_own hown (upTo_len j)
            have hcr := pd_crash hP hI.on.good (by rw [hNn.out]; omega) ap cp (upTo j) hnums (by rw [upTo_len]; omega)
            rw [upTo_len] at hcr
            replace sb := hb.size
            clear hown hnums hbs
            go_wp2_with (go_at_call 21; refine hcr.mono ?_)
            rintro e w5 ⟨v, rfl, hNk⟩
            obtain ⟨gk, Fk, rfl, hK, hbk, hFk⟩ := hNk
            have hFKd : ∀ q, F q → ¬ Fk q := fun q h1 h2 => by have := hP.lt h1; have := hFk q h2; omega
            have hGKd : ∀ q, G q → ¬ Fk q := fun q h1 h2 => by have := hE.lt h1; have := hFk q h2; omega
            replace hP := hP.below hbk
            replace hE := hE.below hbk
            replace hb := hb.trans (hbk.mono sb)
            replace sb := hb.size
            have hcr2 := pd_crash hP hI.on.good (by rw [hNn.out]; omega) none 0 [] (.inl rfl) (by simp)
            clear hcr hFk hbk
            go_wp2_with (go_at_call 21; refine hcr2.mono ?_)
            rintro e w6 ⟨v, rfl, hNl⟩
            obtain ⟨gl, Fl, rfl, hO, hbl, hFl⟩ := hNl
            have hFLd : ∀ q, F q → ¬ Fl q := fun q h1 h2 => by have := hP.lt h1; have := hFl q h2; omega
            have hGLd : ∀ q, G q → ¬ Fl q := fun q h1 h2 => by have := hE.lt h1; have := hFl q h2; omega
            replace hP := hP.below hbl
            replace hE := hE.below hbl
            replace hK := hK.below hbl
            replace hb := hb.trans (hbl.mono sb)
            replace sb := hb.size
            clear hcr2 hFl hbl
            go_wp2
            go_loopg [15, 86] L (fun m la v wr => ∃ i : Nat, m = L - i ∧ i ≤ L ∧ la = .int .i64 (lastF cs (min i 200)) ∧ v = .int .i64 i ∧ PD S F g wr ∧ PD (newS 10) G ge wr ∧ PD (crashOf S (upTo j)) Fk gk wr ∧ PD (crashOf S []) Fl gl wr ∧ Below w.heap.size w wr)
            case atStart => exact ⟨0, rfl, by omega, by simp [lastF], rfl, hP, hE, hK, hO, hb⟩
            case round =>
              clear hP hE hK hO hb sb
              rename World => wr
              obtain ⟨k3, rfl, hk3, rfl, rfl, hP, hE, hK, hO, hb⟩ := hrel
              have sb := hb.size
              by_cases hlt3 : k3 < L
              · have hlt4 : (k3 : Int) < (L : Int) := by omega
                have hwk3 : IntKind.i64.wrap ((k3 : Int) + 1) = ((k3 + 1 : Nat) : Int) := by rw [IntWalk.i64_in _ (by omega)]; omega
                have hka : k3 < cs.length := by rw [hL.out]; exact hlt3
                obtain ⟨bq, oq, hbe, hbq, hcs⟩ := (hC.below hb).resolve_left (by intro h0; rw [h0] at hka; simp at hka)
                first | subst hbe | (replace hbe := hbe.symm; simp only [Option.some.injEq, Addr.mk.injEq, and_true] at hbe; obtain ⟨rfl, rfl⟩ := hbe)
                obtain ⟨hrange, hok⟩ := hcs k3 cs[k3] (List.getElem?_eq_getElem hka)
                obtain ⟨c, hc⟩ : ∃ c, cs[k3] = c := ⟨_, rfl⟩
                have HCG : Hid (cs[k3]? = some c) := (by rw [List.getElem?_eq_getElem hka, hc] : cs[k3]? = some c)
                rw [hc] at hrange hok
                have HRg := Lib.hid hrange
                have hci : Hid ((Tryd.prog.info? 35).map (·.size) = some (callCells c).length) := (infoCall : (Tryd.prog.info? 35).map (·.size) = some 4)
                have hci2 : Hid ((Tryd.prog.info? 35).map (·.size) = some (callCells c).toArray.size) := (infoCall : (Tryd.prog.info? 35).map (·.size) = some 4)
                have hcone : Hid ((callCells c).toArray.all (·.oneCell') = true) := call_one c
                have hcold : Hid (zeroCall.size = (callCells c).toArray.size) := (rfl : zeroCall.size = 4)
                have hba : Below wr.heap.size wr (wr.alloc (.cells (callCells c).toArray 35)) := (Below.refl _ wr).alloc (Nat.le_refl _) _
                have hck : (wr.alloc (.cells (callCells c).toArray 35)).heap[wr.heap.size]? = some (.cells (callCells c).toArray 35 (0, 0)) := heap_alloc_new wr _
                obtain ⟨wa, hwa⟩ : ∃ w', Hid (wr.alloc (.cells (callCells c).toArray 35) = w') := ⟨_, rfl⟩
                obtain ⟨bc, hbc⟩ : ∃ b', Hid (wr.heap.size = b') := ⟨_, rfl⟩
                rw [hwa.out] at hba hck
                rw [hbc.out] at hck
                replace hP := hP.below hba
                replace hE := hE.below hba
                replace hK := hK.below hba
                replace hO := hO.below hba
                replace hb := hb.trans (hba.mono hb.size)
                have ck0 : wa.cell? ⟨bc, 0, none⟩ = some (.int .i64 c.kind) := by rw [cell_of_row wa bc 0 _ _ _ hck]; rfl
                have ck1 : wa.cell? ⟨bc, 1, none⟩ = some (.int .i64 c.i) := by rw [cell_of_row wa bc 1 _ _ _ hck]; rfl
                have ck2 : wa.cell? ⟨bc, 2, none⟩ = some (cu8 c.what) := by rw [cell_of_row wa bc 2 _ _ _ hck]; rfl
                have ck3 : wa.cell? ⟨bc, 3, none⟩ = some (.slice c.ap c.pick.length c.cp) := by rw [cell_of_row wa bc 3 _ _ _ hck]; rfl
                have tokL : True := trivial
                have tokC : True := trivial
                have tokD : True := trivial
                clear hcs hrange hba hc
                by_cases h200 : k3 < 200
                · have h2003 : (k3 : Int) < 200 := by omega
                  have hm1 : min (k3 + 1) 200 = k3 + 1 := by omega
                  have hm2 : min k3 200 = k3 := by omega
                  rw [hm2]
                  by_cases hkk2 : c.kind = 2
                  · have HLN : Hid (lastF cs (min (k3 + 1) 200) = k3) := by rw [hm1, lastF_next HCG.out, if_pos hkk2]; exact (rfl : k3 = k3)
                    clear hm1 hm2
                    go_wp2_with (first
                      | (have _t := tokL; refine wpList_load_mid rfl 35 _ rfl bq (oq + k3 * 4) rfl (callCells c) _ HRg.out Tryd.underlying35 rfl hci.out ?_; clear tokL)
                      | (have _t := tokC; refine wpList_alloc_arr rfl 35 rfl _ allocCall ?_; clear tokC)
                      | (have _t := tokD; refine wpList_store_new rfl 35 _ _ rfl wr.heap.size rfl (callCells c).toArray rfl rfl 35 _ hci2.out hcold.out hcone.out ?_; rw [hwa.out, hbc.out]; clear tokD))
                    go_roundg (L - (k3 + 1))
                    case measure => omega
                    case rel => exact ⟨k3 + 1, rfl, by omega, by rw [HLN.out], by first | rfl | simp, hP, hE, hK, hO, hb⟩
                  · have HLN : Hid (lastF cs (min (k3 + 1) 200) = lastF cs k3) := by rw [hm1, lastF_next HCG.out, if_neg hkk2]; exact (rfl : lastF cs k3 = lastF cs k3)
                    have hk2' : (c.kind == 2) = false := by simpa using hkk2
                    clear hm1 hm2
                    go_wp2_with (first
                      | (have _t := tokL; refine wpList_load_mid rfl 35 _ rfl bq (oq + k3 * 4) rfl (callCells c) _ HRg.out Tryd.underlying35 rfl hci.out ?_; clear tokL)
                      | (have _t := tokC; refine wpList_alloc_arr rfl 35 rfl _ allocCall ?_; clear tokC)
                      | (have _t := tokD; refine wpList_store_new rfl 35 _ _ rfl wr.heap.size rfl (callCells c).toArray rfl rfl 35 _ hci2.out hcold.out hcone.out ?_; rw [hwa.out, hbc.out]; clear tokD))
                    go_roundg (L - (k3 + 1))
                    case measure => omega
                    case rel => exact ⟨k3 + 1, rfl, by omega, by rw [HLN.out], by first | rfl | simp, hP, hE, hK, hO, hb⟩
                · have h2003 : ¬ (k3 : Int) < 200 := by omega
                  have HLN : Hid (min (k3 + 1) 200 = min k3 200) := (by omega : min (k3 + 1) 200 = min k3 200)
                  go_wp2_with (first
                    | (have _t := tokL; refine wpList_load_mid rfl 35 _ rfl bq (oq + k3 * 4) rfl (callCells c) _ HRg.out Tryd.underlying35 rfl hci.out ?_; clear tokL)
                    | (have _t := tokC; refine wpList_alloc_arr rfl 35 rfl _ allocCall ?_; clear tokC)
                    | (have _t := tokD; refine wpList_store_new rfl 35 _ _ rfl wr.heap.size rfl (callCells c).toArray rfl rfl 35 _ hci2.out hcold.out hcone.out ?_; rw [hwa.out, hbc.out]; clear tokD))
                  go_roundg (L - (k3 + 1))
                  case measure => omega
                  case rel => exact ⟨k3 + 1, rfl, by omega, by rw [HLN.out], by first | rfl | simp, hP, hE, hK, hO, hb⟩
              · obtain rfl : k3 = L := by omega
                have hge3 : ¬ ((k3 : Int) < (k3 : Int)) := by omega
                rw [← HMk.out]
                obtain ⟨la, hla⟩ : ∃ la, Hid (lastF cs k = la) := ⟨_, rfl⟩
                have hlak : la ≤ k := by rw [← hla.out]; exact lastF_le cs k
                rw [hla.out]
                have hW0 := wrote_new cs
                go_wp2
                go_loopg [102] k3 (fun m v wr => ∃ (i : Nat) (E : St) (G : Nat → Prop), m = k3 - i ∧ i ≤ k3 ∧ v = .int .i64 i ∧ Wrote cs E (min i la) ∧ PD S F g wr ∧ PD E G ge wr ∧ PD (crashOf S (upTo j)) Fk gk wr ∧ PD (crashOf S []) Fl gl wr ∧ (∀ k, G k → w.heap.size ≤ k) ∧ (∀ k, G k → ¬ F k) ∧ (∀ k, G k → ¬ Fk k) ∧ (∀ k, G k → ¬ Fl k) ∧ Below w.heap.size w wr)
                case atStart => exact ⟨0, _, G, rfl, by omega, rfl, by simpa using hW0, hP, hE, hK, hO, hGB, fun q h1 h2 => hFG q h2 h1, hGKd, hGLd, hb⟩
                case round =>
                  clear hP hE hK hO hb sb hW0 hFG hGB hGKd hGLd
                  rename World => wr
                  obtain ⟨k4, E, G, rfl, hk4, rfl, hW, hP, hE, hK, hO, hGB, hGF, hGK, hGL, hb⟩ := hrel
                  have sb := hb.size
                  by_cases hlt4 : k4 < k3
                  · have hlt5 : (k4 : Int) < (k3 : Int) := by omega
                    have hwk4 : IntKind.i64.wrap ((k4 : Int) + 1) = ((k4 + 1 : Nat) : Int) := by rw [IntWalk.i64_in _ (by omega)]; omega
                    have hka : k4 < cs.length := by rw [hL.out]; exact hlt4
                    obtain ⟨bq, oq, hbe, hbq, hcs⟩ := (hC.below hb).resolve_left (by intro h0; rw [h0] at hka; simp at hka)
                    first | subst hbe | (replace hbe := hbe.symm; simp only [Option.some.injEq, Addr.mk.injEq, and_true] at hbe; obtain ⟨rfl, rfl⟩ := hbe)
                    obtain ⟨hrange, hok⟩ := hcs k4 cs[k4] (List.getElem?_eq_getElem hka)
                    obtain ⟨c, hc⟩ : ∃ c, cs[k4] = c := ⟨_, rfl⟩
                    have HCG : Hid (cs[k4]? = some c) := (by rw [List.getElem?_eq_getElem hka, hc] : cs[k4]? = some c)
                    rw [hc] at hrange hok
                    have HRg := Lib.hid hrange
                    have hci : Hid ((Tryd.prog.info? 35).map (·.size) = some (callCells c).length) := (infoCall : (Tryd.prog.info? 35).map (·.size) = some 4)
                    have hci2 : Hid ((Tryd.prog.info? 35).map (·.size) = some (callCells c).toArray.size) := (infoCall : (Tryd.prog.info? 35).map (·.size) = some 4)
                    have hcone : Hid ((callCells c).toArray.all (·.oneCell') = true) := call_one c
                    have hcold : Hid (zeroCall.size = (callCells c).toArray.size) := (rfl : zeroCall.size = 4)
                    have hba : Below wr.heap.size wr (wr.alloc (.cells (callCells c).toArray 35)) := (Below.refl _ wr).alloc (Nat.le_refl _) _
                    have hck : (wr.alloc (.cells (callCells c).toArray 35)).heap[wr.heap.size]? = some (.cells (callCells c).toArray 35 (0, 0)) := heap_alloc_new wr _
                    obtain ⟨wa, hwa⟩ : ∃ w', Hid (wr.alloc (.cells (callCells c).toArray 35) = w') := ⟨_, rfl⟩
                    obtain ⟨bc, hbc⟩ : ∃ b', Hid (wr.heap.size = b') := ⟨_, rfl⟩
                    rw [hwa.out] at hba hck
                    rw [hbc.out] at hck
                    replace hP := hP.below hba
                    replace hE := hE.below hba
                    replace hK := hK.below hba
                    replace hO := hO.below hba
                    replace hb := hb.trans (hba.mono hb.size)
                    have ck0 : wa.cell? ⟨bc, 0, none⟩ = some (.int .i64 c.kind) := by rw [cell_of_row wa bc 0 _ _ _ hck]; rfl
                    have ck1 : wa.cell? ⟨bc, 1, none⟩ = some (.int .i64 c.i) := by rw [cell_of_row wa bc 1 _ _ _ hck]; rfl
                    have ck2 : wa.cell? ⟨bc, 2, none⟩ = some (cu8 c.what) := by rw [cell_of_row wa bc 2 _ _ _ hck]; rfl
                    have ck3 : wa.cell? ⟨bc, 3, none⟩ = some (.slice c.ap c.pick.length c.cp) := by rw [cell_of_row wa bc 3 _ _ _ hck]; rfl
                    have tokL : True := trivial
                    have tokC : True := trivial
                    have tokD : True := trivial
                    clear hcs hrange hba hc
                    replace sb := hb.size
                    by_cases hla4 : k4 < la
                    · have hla5 : (k4 : Int) < (la : Int) := by omega
                      have hm1 : min (k4 + 1) la = k4 + 1 := by omega
                      have hm2 : min k4 la = k4 := by omega
                      rw [hm2] at hW
                      by_cases hk1 : c.kind = 1
                      · have ti := tmod_in c.i 10 (by omega)
                        obtain ⟨q, hq, hq1⟩ := posmod c.i 10 (by omega)
                        have t2 : IntKind.i64.wrap (c.i.tmod 10) = c.i.tmod 10 := IntWalk.i64_in _ (by omega)
                        have t3 : IntKind.i64.wrap (c.i.tmod 10 + 10) = c.i.tmod 10 + 10 := IntWalk.i64_in _ (by omega)
                        have t4 : IntKind.i64.wrap (q : Int) = (q : Int) := IntWalk.i64_in _ (by omega)
                        have HQ : Hid (at10 c.i = (q : Int)) := hq
                        obtain ⟨cv, hcv⟩ : ∃ cv, cu8 c.what = cv := ⟨_, rfl⟩
                        have HB := Lib.hid (built_one c.what)
                        rw [hcv] at ck2 HB
                        obtain ⟨p1, hp1⟩ : ∃ p, Hid (page1 c.what = p) := ⟨_, rfl⟩
                        have bp1 : BP p1 := hp1.out ▸ page1_bytes c.what
                        rw [hp1.out] at HB
                        clear hcv ti
                        obtain ⟨e1, hW'⟩ := hW.write HCG.out hk1 HQ.out (by omega)
                        rw [hp1.out] at e1 hW'
                        have hfe : E.ats.length ≤ 1048576 := by have := hW.on.few; omega
                        have hdo := pd_write hE hW.on.good hfe q p1 bp1.page
                        rw [e1] at hdo
                        have HM : Hid (min (k4 + 1) la = k4 + 1) := hm1
                        clear e1 hm1 hm2
                        go_wp2_with (first
                          | (have _t := tokL; refine wpList_load_mid rfl 35 _ rfl bq (oq + k4 * 4) rfl (callCells c) _ HRg.out Tryd.underlying35 rfl hci.out ?_; clear tokL)
                          | (have _t := tokC; refine wpList_alloc_arr rfl 35 rfl _ allocCall ?_; clear tokC)
                          | (have _t := tokD; refine wpList_store_new rfl 35 _ _ rfl wr.heap.size rfl (callCells c).toArray rfl rfl 35 _ hci2.out hcold.out hcone.out ?_; rw [hwa.out, hbc.out]; clear tokD)
                          | (refine wpList_build1 _ rfl cv rfl _ HB.out (by rfl) ?_)
                          | (go_at_call 19; refine hdo.mono ?_))
                        rintro e w7 ⟨v2, rfl, hT⟩
                        obtain ⟨G', hEr, hE', ho, hf⟩ := hT
                        obtain rfl := ErrV.zero hEr
                        have hP' := hP.keep ho (fun q h1 h2 => hGF q h2 h1)
                        have hK' := hK.keep ho (fun q h1 h2 => hGK q h2 h1)
                        have hO' := hO.keep ho (fun q h1 h2 => hGL q h2 h1)
                        have hGF' := apart_next hf hGF (fun q hq => hP.lt hq)
                        have hGK' := apart_next hf hGK (fun q hq => hK.lt hq)
                        have hGL' := apart_next hf hGL (fun q hq => hO.lt hq)
                        have hGB' : ∀ q, G' q → w.heap.size ≤ q := fun q hq => (hf q hq).elim (hGB q) (fun e => by omega)
                        have hb' := hb.trans (ho.base sb hGB)
                        clear hEr hdo ho hf hP hE hK hO hGF hGK hGL hGB hb
                        go_wp2
                        go_roundg (k3 - (k4 + 1))
                        case measure => omega
                        case rel => exact ⟨k4 + 1, _, G', rfl, by omega, by first | rfl | simp, by rw [HM.out]; exact hW', hP', hE', hK', hO', hGB', hGF', hGK', hGL', hb'⟩
                      · have hk1' : (c.kind == 1) = false := by simpa using hk1
                        have hW' := hW.skip HCG.out hk1
                        rw [← hm1] at hW'
                        have HW := Lib.hid hW'
                        clear hm1 hm2 hW'
                        go_wp2_with (first
                          | (have _t := tokL; refine wpList_load_mid rfl 35 _ rfl bq (oq + k4 * 4) rfl (callCells c) _ HRg.out Tryd.underlying35 rfl hci.out ?_; clear tokL)
                          | (have _t := tokC; refine wpList_alloc_arr rfl 35 rfl _ allocCall ?_; clear tokC)
                          | (have _t := tokD; refine wpList_store_new rfl 35 _ _ rfl wr.heap.size rfl (callCells c).toArray rfl rfl 35 _ hci2.out hcold.out hcone.out ?_; rw [hwa.out, hbc.out]; clear tokD))
                        go_roundg (k3 - (k4 + 1))
                        case measure => omega
                        case rel => exact ⟨k4 + 1, E, G, rfl, by omega, by first | rfl | simp, HW.out, hP, hE, hK, hO, hGB, hGF, hGK, hGL, hb⟩
                    · have hla5 : ¬ (k4 : Int) < (la : Int) := by omega
                      have hW' : Wrote cs E (min (k4 + 1) la) := by rw [show min (k4 + 1) la = min k4 la by omega]; exact hW
                      have HW := Lib.hid hW'
                      clear hW'
                      go_wp2_with (first
                        | (have _t := tokL; refine wpList_load_mid rfl 35 _ rfl bq (oq + k4 * 4) rfl (callCells c) _ HRg.out Tryd.underlying35 rfl hci.out ?_; clear tokL)
                        | (have _t := tokC; refine wpList_alloc_arr rfl 35 rfl _ allocCall ?_; clear tokC)
                        | (have _t := tokD; refine wpList_store_new rfl 35 _ _ rfl wr.heap.size rfl (callCells c).toArray rfl rfl 35 _ hci2.out hcold.out hcone.out ?_; rw [hwa.out, hbc.out]; clear tokD))
                      go_roundg (k3 - (k4 + 1))
                      case measure => omega
                      case rel => exact ⟨k4 + 1, E, G, rfl, by omega, by first | rfl | simp, HW.out, hP, hE, hK, hO, hGB, hGF, hGK, hGL, hb⟩
                  · obtain rfl : k4 = k3 := by omega
                    have hge4 : ¬ ((k4 : Int) < (k4 : Int)) := by omega
                    have hW' : Wrote cs E (lastF cs k) := by rw [hla.out]; rwa [show min k4 la = la by omega] at hW
                    obtain ⟨e1, hI'⟩ : flushOf S = (⟨flushS S.firm S.ats S.what, [], [], -1, false⟩, 0) ∧ On (flushOf S).1 10 (k + 1) := hI.on.flush
                    have hdo := pd_flush hP hI.on.good (by rw [hNn.out]; omega)
                    have e2 : (flushOf S).2 = 0 := by rw [e1]
                    rw [e2] at hdo
                    clear e1 e2 hW
                    go_wp2_with (go_at_call 20; refine hdo.mono ?_)
                    rintro e w8 ⟨v2, rfl, hT⟩
                    obtain ⟨F', hEr, hP', ho, hf⟩ := hT
                    obtain rfl := ErrV.zero hEr
                    have hE' := hE.keep ho (fun q h1 h2 => hGF q h1 h2)
                    have hK' := hK.keep ho (fun q h1 h2 => hFKd q h2 h1)
                    have hO' := hO.keep ho (fun q h1 h2 => hFLd q h2 h1)
                    have hb' := hb.trans (ho.base sb hF)
                    have HRF := Lib.hid (read_flush hI.on)
                    have HRL := Lib.hid (read_lost hI hW')
                    have hbyK : Byt (crashOf S (upTo S.ats.length)) := byt_crash hI.on.byt _
                    have hbyO : Byt (crashOf S []) := byt_crash hI.on.byt _
                    have hnK := hI.on.crash (upTo S.ats.length)
                    have hnO := hI.on.crash []
                    rw [← hNn.out] at hK'
                    generalize flushOf S = FS at HRF hP'
                    generalize crashOf S (upTo S.ats.length) = SK at HRF hK' hbyK hnK
                    generalize crashOf S [] = SL at HRL hO' hbyO hnO
                    clear hEr hdo ho hf hP hE hK hO hb hI hI' hW' hGF hGK hGL hGB hFKd hFLd hC
                    go_wp2_with (go_at_call 12; refine (num_nil _).mono ?_; rintro e w' ⟨rfl, rfl⟩)
                    go_loopg [130] 10 (fun m v wr => ∃ i : Nat, m = 10 - i ∧ i ≤ 10 ∧ v = .int .i64 i ∧ PD FS.1 F' g wr ∧ PD E G ge wr ∧ PD SK Fk gk wr ∧ PD SL Fl gl wr ∧ Below w.heap.size w wr)
                    case atStart => exact ⟨0, rfl, by omega, rfl, hP', hE', hK', hO', hb'⟩
                    case round =>
                      clear hP' hE' hK' hO' hb' sb
                      rename World => wr
                      obtain ⟨i, rfl, hi, rfl, hP, hE, hK, hO, hb⟩ := hrel
                      by_cases hi10 : i < 10
                      · have hlt6 : (i : Int) < 10 := by omega
                        have hwi : IntKind.i64.wrap ((i : Int) + 1) = ((i + 1 : Nat) : Int) := by rw [IntWalk.i64_in _ (by omega)]; omega
                        have hn1 := hnK.read i hi10
                        have hn2 := hnO.read i hi10
                        have bpa := byt_read hbyK i
                        have bpb := byt_read hbyO i
                        have r1 := pd_read hK i
                        have r2 := HRF.out i
                        have r3 := HRL.out i
                        obtain ⟨pa, hpa⟩ : ∃ pg, (readOf SK i).1 = pg := ⟨_, rfl⟩
                        obtain ⟨pb, hpb⟩ : ∃ pg, (readOf SL i).1 = pg := ⟨_, rfl⟩
                        have q2 : (readOf FS.1 i).1 = pa ∧ (readOf FS.1 i).2 = 0 := by rw [← r2]; exact ⟨hpa, hn1⟩
                        have q4 : (readOf E i).1 = pb ∧ (readOf E i).2 = 0 := by rw [← r3]; exact ⟨hpb, hn2⟩
                        rw [hpa] at bpa
                        rw [hpb] at bpb
                        rw [hpa, hn1] at r1
                        clear r2 r3
                        have hz1_pa := page_size bpa.page
                        have hz2_pa := page_all bpa.page
                        have hz3_pa := zeros_eq bpa.page
                        have hz1_pb := page_size bpb.page
                        have hz2_pb := page_all bpb.page
                        have hz3_pb := zeros_eq bpb.page
                        go_wp2_with (go_at_call 17; refine r1.mono ?_)
                        rintro e w11a ⟨v11, rfl, hE11, hr11⟩
                        obtain rfl := ErrV.zero hE11
                        have hA11 := hr11.alloc hr11.size (.cells pa.toArray 42)
                        have hk11 : (w11a.alloc (.cells pa.toArray 42)).heap[w11a.heap.size]? = some (.cells pa.toArray 42 (0, 0)) := heap_alloc_new w11a _
                        replace hP := hP.below hA11
                        replace hE := hE.below hA11
                        replace hK := hK.below hA11
                        replace hO := hO.below hA11
                        replace hb := hb.trans (hA11.mono hb.size)
                        obtain ⟨w11, hw11⟩ : ∃ w', Hid (w11a.alloc (.cells pa.toArray 42) = w') := ⟨_, rfl⟩
                        obtain ⟨b11, hb11⟩ : ∃ b', Hid (w11a.heap.size = b') := ⟨_, rfl⟩
                        rw [hw11.out] at hk11 hP hE hK hO hb
                        rw [hb11.out] at hk11
                        clear hE11 hr11 hA11
                        have tokA11 : True := trivial
                        have tokS11 : True := trivial
                        have r2 := pd_read hP i
                        rw [q2.1, q2.2] at r2
                        clear r1
                        go_wp2_with (first
                          | (have _t := tokA11; refine wpList_alloc_arr rfl 42 rfl _ alloc64 ?_; clear tokA11)
                          | (have _t := tokS11; refine wpList_store_new rfl 42 _ _ rfl w11a.heap.size rfl pa.toArray rfl rfl 42 _ hz1_pa.out hz3_pa.out hz2_pa.out ?_; rw [hw11.out, hb11.out]; clear tokS11)
                          | (go_at_call 17; refine r2.mono ?_))
                        rintro e w12a ⟨v12, rfl, hE12, hr12⟩
                        obtain rfl := ErrV.zero hE12
                        have hA12 := hr12.alloc hr12.size (.cells pa.toArray 42)
                        have hk12 : (w12a.alloc (.cells pa.toArray 42)).heap[w12a.heap.size]? = some (.cells pa.toArray 42 (0, 0)) := heap_alloc_new w12a _
                        replace hP := hP.below hA12
                        replace hE := hE.below hA12
                        replace hK := hK.below hA12
                        replace hO := hO.below hA12
                        replace hk11 := (hA12.block b11 (Array.getElem?_eq_some_iff.1 hk11).1).trans hk11
                        replace hb := hb.trans (hA12.mono hb.size)
                        obtain ⟨w12, hw12⟩ : ∃ w', Hid (w12a.alloc (.cells pa.toArray 42) = w') := ⟨_, rfl⟩
                        obtain ⟨b12, hb12⟩ : ∃ b', Hid (w12a.heap.size = b') := ⟨_, rfl⟩
                        rw [hw12.out] at hk12 hP hE hK hO hk11 hb
                        rw [hb12.out] at hk12
                        clear hE12 hr12 hA12
                        have tokA12 : True := trivial
                        have tokS12 : True := trivial
                        have r3 := pd_read hO i
                        rw [hpb, hn2] at r3
                        clear r2
                        go_wp2_with (first
                          | (have _t := tokA12; refine wpList_alloc_arr rfl 42 rfl _ alloc64 ?_; clear tokA12)
                          | (have _t := tokS12; refine wpList_store_new rfl 42 _ _ rfl w12a.heap.size rfl pa.toArray rfl rfl 42 _ hz1_pa.out hz3_pa.out hz2_pa.out ?_; rw [hw12.out, hb12.out]; clear tokS12)
                          | (go_at_call 17; refine r3.mono ?_))
                        rintro e w13a ⟨v13, rfl, hE13, hr13⟩
                        obtain rfl := ErrV.zero hE13
                        have hA13 := hr13.alloc hr13.size (.cells pb.toArray 42)
                        have hk13 : (w13a.alloc (.cells pb.toArray 42)).heap[w13a.heap.size]? = some (.cells pb.toArray 42 (0, 0)) := heap_alloc_new w13a _
                        replace hP := hP.below hA13
                        replace hE := hE.below hA13
                        replace hK := hK.below hA13
                        replace hO := hO.below hA13
                        replace hk11 := (hA13.block b11 (Array.getElem?_eq_some_iff.1 hk11).1).trans hk11
                        replace hk12 := (hA13.block b12 (Array.getElem?_eq_some_iff.1 hk12).1).trans hk12
                        replace hb := hb.trans (hA13.mono hb.size)
                        obtain ⟨w13, hw13⟩ : ∃ w', Hid (w13a.alloc (.cells pb.toArray 42) = w') := ⟨_, rfl⟩
                        obtain ⟨b13, hb13⟩ : ∃ b', Hid (w13a.heap.size = b') := ⟨_, rfl⟩
                        rw [hw13.out] at hk13 hP hE hK hO hk11 hk12 hb
                        rw [hb13.out] at hk13
                        clear hE13 hr13 hA13
                        have tokA13 : True := trivial
                        have tokS13 : True := trivial
                        have r4 := pd_read hE i
                        rw [q4.1, q4.2] at r4
                        clear r3
                        go_wp2_with (first
                          | (have _t := tokA13; refine wpList_alloc_arr rfl 42 rfl _ alloc64 ?_; clear tokA13)
                          | (have _t := tokS13; refine wpList_store_new rfl 42 _ _ rfl w13a.heap.size rfl pb.toArray rfl rfl 42 _ hz1_pb.out hz3_pb.out hz2_pb.out ?_; rw [hw13.out, hb13.out]; clear tokS13)
                          | (go_at_call 17; refine r4.mono ?_))
                        rintro e w14a ⟨v14, rfl, hE14, hr14⟩
                        obtain rfl := ErrV.zero hE14
                        have hA14 := hr14.alloc hr14.size (.cells pb.toArray 42)
                        have hk14 : (w14a.alloc (.cells pb.toArray 42)).heap[w14a.heap.size]? = some (.cells pb.toArray 42 (0, 0)) := heap_alloc_new w14a _
                        replace hP := hP.below hA14
                        replace hE := hE.below hA14
                        replace hK := hK.below hA14
                        replace hO := hO.below hA14
                        replace hk11 := (hA14.block b11 (Array.getElem?_eq_some_iff.1 hk11).1).trans hk11
                        replace hk12 := (hA14.block b12 (Array.getElem?_eq_some_iff.1 hk12).1).trans hk12
                        replace hk13 := (hA14.block b13 (Array.getElem?_eq_some_iff.1 hk13).1).trans hk13
                        replace hb := hb.trans (hA14.mono hb.size)
                        obtain ⟨w14, hw14⟩ : ∃ w', Hid (w14a.alloc (.cells pb.toArray 42) = w') := ⟨_, rfl⟩
                        obtain ⟨b14, hb14⟩ : ∃ b', Hid (w14a.heap.size = b') := ⟨_, rfl⟩
                        rw [hw14.out] at hk14 hP hE hK hO hk11 hk12 hk13 hb
                        rw [hb14.out] at hk14
                        clear hE14 hr14 hA14
                        have tokA14 : True := trivial
                        have tokS14 : True := trivial
                        have hld11 := Lib.hid (run_loadAt_mid (P := Tryd.prog) w14 b11 0 42 pa _ (fun j v hj => by rw [Nat.zero_add, cell_of_row w14 b11 j _ _ _ hk11]; simpa using hj) Tryd.underlying42 rfl (by rw [bpa.page.1]; exact info64))
                        have hld12 := Lib.hid (run_loadAt_mid (P := Tryd.prog) w14 b12 0 42 pa _ (fun j v hj => by rw [Nat.zero_add, cell_of_row w14 b12 j _ _ _ hk12]; simpa using hj) Tryd.underlying42 rfl (by rw [bpa.page.1]; exact info64))
                        have hld13 := Lib.hid (run_loadAt_mid (P := Tryd.prog) w14 b13 0 42 pb _ (fun j v hj => by rw [Nat.zero_add, cell_of_row w14 b13 j _ _ _ hk13]; simpa using hj) Tryd.underlying42 rfl (by rw [bpb.page.1]; exact info64))
                        have hld14 := Lib.hid (run_loadAt_mid (P := Tryd.prog) w14 b14 0 42 pb _ (fun j v hj => by rw [Nat.zero_add, cell_of_row w14 b14 j _ _ _ hk14]; simpa using hj) Tryd.underlying42 rfl (by rw [bpb.page.1]; exact info64))
                        have hne1 := bpa.neq
                        have hsm1 := bpa.same
                        have hne2 := bpb.neq
                        have hsm2 := bpb.same
                        clear r4 hk11 hk12 hk13 hk14 hpa hpb hn1 hn2 q2 q4
                        go_wp2_with (first
                          | (have _t := tokA14; refine wpList_alloc_arr rfl 42 rfl _ alloc64 ?_; clear tokA14)
                          | (have _t := tokS14; refine wpList_store_new rfl 42 _ _ rfl w14a.heap.size rfl pb.toArray rfl rfl 42 _ hz1_pb.out hz3_pb.out hz2_pb.out ?_; rw [hw14.out, hb14.out]; clear tokS14)
                          | (have _t := hld11; refine wpList_load_page _ rfl b11 0 rfl _ hld11.out (by rfl) ?_; clear hld11)
                          | (have _t := hld12; refine wpList_load_page _ rfl b12 0 rfl _ hld12.out (by rfl) ?_; clear hld12)
                          | (have _t := hld13; refine wpList_load_page _ rfl b13 0 rfl _ hld13.out (by rfl) ?_; clear hld13)
                          | (have _t := hld14; refine wpList_load_page _ rfl b14 0 rfl _ hld14.out (by rfl) ?_; clear hld14))
                        go_roundg (10 - (i + 1))
                        case measure => omega
                        case rel => exact ⟨i + 1, rfl, by omega, by first | rfl | simp, hP, hE, hK, hO, hb⟩
                      · have hge6 : ¬ ((i : Int) < 10) := by omega
                        go_wp2
                        go_ret
                        exact ⟨rfl, hb⟩
      · have h200' : ¬ ((k : Int) = 200) := by omega
        have h200b : ((k : Int) == 200) = false := by simpa using h200'
        have ti := tmod_in c.i 10 (by omega)
        obtain ⟨q, hq, hq1⟩ := posmod c.i 10 (by omega)
        have t2 : IntKind.i64.wrap (c.i.tmod 10) = c.i.tmod 10 := IntWalk.i64_in _ (by omega)
        have t3 : IntKind.i64.wrap (c.i.tmod 10 + 10) = c.i.tmod 10 + 10 := IntWalk.i64_in _ (by omega)
        have t4 : IntKind.i64.wrap (q : Int) = (q : Int) := IntWalk.i64_in _ (by omega)
        have HQ : Hid (at10 c.i = (q : Int)) := hq
        obtain ⟨cv, hcv⟩ : ∃ cv, cu8 c.what = cv := ⟨_, rfl⟩
        have HB := Lib.hid (built_one c.what)
        rw [hcv] at ck2 HB
        obtain ⟨p1, hp1⟩ : ∃ p, Hid (page1 c.what = p) := ⟨_, rfl⟩
        have bp1 : BP p1 := hp1.out ▸ page1_bytes c.what
        rw [hp1.out] at HB
        clear hcv ti
        have hfw := hI.on.few
        have hfew : S.ats.length ≤ 1048576 := by omega
        by_cases hk1 : c.kind = 1
        · obtain ⟨e1, hI'⟩ := hI.write HCG.out hk1 HQ.out (by omega)
          rw [hp1.out] at e1 hI'
          have hdo := pd_write hP hI.on.good hfew q p1 bp1.page
          rw [e1] at hdo
          clear e1
          have hwn : IntKind.i64.wrap ((S.ats.length : Int) + 1) = ((S.ats.length + 1 : Nat) : Int) := by rw [IntWalk.i64_in _ (by omega)]; omega
          go_wp2_with (first
            | (have _t := tokL; refine wpList_load_mid rfl 35 _ rfl bq (oq + k * 4) rfl (callCells c) _ HRg.out Tryd.underlying35 rfl hci.out ?_; clear tokL)
            | (have _t := tokC; refine wpList_alloc_arr rfl 35 rfl _ allocCall ?_; clear tokC)
            | (have _t := tokD; refine wpList_store_new rfl 35 _ _ rfl wr.heap.size rfl (callCells c).toArray rfl rfl 35 _ hci2.out hcold.out hcone.out ?_; rw [hwa.out, hbc.out]; clear tokD)
            | (refine wpList_build1 _ rfl cv rfl _ HB.out (by rfl) ?_)
            | (go_at_call 19; refine hdo.mono ?_))
          rintro e w4 ⟨v2, rfl, hT⟩
          obtain ⟨F', hEr, hP', ho, hf⟩ := hT
          obtain rfl := ErrV.zero hEr
          have hE' := hE.keep ho (fun q h1 h2 => hFG q h2 h1)
          have hFG' := apart_next hf hFG (fun q hq => hE.lt hq)
          have hF' : ∀ q, F' q → w.heap.size ≤ q := fun q hq => (hf q hq).elim (hF q) (fun e => by omega)
          have hb' := hb.trans (ho.base sb hF)
          clear hEr hdo ho hf hP hE hb hF hFG
          go_wp2
          go_roundg (L - (k + 1))
          case measure => omega
          case rel => exact ⟨k + 1, _, F', rfl, by omega, by omega, by first | rfl | simp, by first | rfl | simp, hI', hP', hE', hF', hFG', hb'⟩
        · by_cases hkk2 : c.kind = 2
          · have hk1' : (c.kind == 1) = false := by simpa using hk1
            obtain ⟨e1, hI'⟩ := hI.flush HCG.out hkk2
            have hdo := pd_flush hP hI.on.good hfew
            rw [e1] at hdo
            clear e1
            go_wp2_with (first
              | (have _t := tokL; refine wpList_load_mid rfl 35 _ rfl bq (oq + k * 4) rfl (callCells c) _ HRg.out Tryd.underlying35 rfl hci.out ?_; clear tokL)
              | (have _t := tokC; refine wpList_alloc_arr rfl 35 rfl _ allocCall ?_; clear tokC)
              | (have _t := tokD; refine wpList_store_new rfl 35 _ _ rfl wr.heap.size rfl (callCells c).toArray rfl rfl 35 _ hci2.out hcold.out hcone.out ?_; rw [hwa.out, hbc.out]; clear tokD)
              | (go_at_call 20; refine hdo.mono ?_))
            rintro e w4 ⟨v2, rfl, hT⟩
            obtain ⟨F', hEr, hP', ho, hf⟩ := hT
            obtain rfl := ErrV.zero hEr
            have hE' := hE.keep ho (fun q h1 h2 => hFG q h2 h1)
            have hFG' := apart_next hf hFG (fun q hq => hE.lt hq)
            have hF' : ∀ q, F' q → w.heap.size ≤ q := fun q hq => (hf q hq).elim (hF q) (fun e => by omega)
            have hb' := hb.trans (ho.base sb hF)
            clear hEr hdo ho hf hP hE hb hF hFG
            go_wp2
            go_roundg (L - (k + 1))
            case measure => omega
            case rel => exact ⟨k + 1, _, F', rfl, by omega, by omega, by first | rfl | simp, by first | rfl | simp, hI', hP', hE', hF', hFG', hb'⟩
          · have hk1' : (c.kind == 1) = false := by simpa using hk1
            have hk2' : (c.kind == 2) = false := by simpa using hkk2
            have hI' := hI.skip HCG.out hk1 hkk2
            go_wp2_with (first
              | (have _t := tokL; refine wpList_load_mid rfl 35 _ rfl bq (oq + k * 4) rfl (callCells c) _ HRg.out Tryd.underlying35 rfl hci.out ?_; clear tokL)
              | (have _t := tokC; refine wpList_alloc_arr rfl 35 rfl _ allocCall ?_; clear tokC)
              | (have _t := tokD; refine wpList_store_new rfl 35 _ _ rfl wr.heap.size rfl (callCells c).toArray rfl rfl 35 _ hci2.out hcold.out hcone.out ?_; rw [hwa.out, hbc.out]; clear tokD))
            go_roundg (L - (k + 1))
            case measure => omega
            case rel => exact ⟨k + 1, S, F, rfl, by omega, by omega, by first | rfl | simp, by first | rfl | simp, hI', hP, hE, hF, hFG, hb⟩
    · have hge : ¬ ((k : Int) < (L : Int)) := by omega
      have HMk : Hid (k = min L 200) := (by omega : k = min L 200)
      clear hlt
      have sb := hb.size
      have hfw := hI.on.few
      obtain ⟨N, hNn⟩ : ∃ N, Hid (S.ats.length = N) := ⟨_, rfl⟩
      have hN200 : N ≤ 200 := by rw [← hNn.out]; omega
      rw [hNn.out]
      go_wp2
      obtain ⟨i0, hi0, hzz⟩ := Option.map_eq_some_iff.1 infoInt
      simp only [Prod.mk.injEq] at hzz
      have HI := Lib.hid hzz
      clear hzz
      obtain ⟨hq0, hq1, hq2⟩ := HI.out
      obtain ⟨ws, hws⟩ : ∃ ws : World, wr = ws := ⟨_, rfl⟩
      rw [hws] at hP hE hb sb ⊢
      clear hws
      obtain ⟨B, hB⟩ : ∃ B, Hid (ws.heap.size = B) := ⟨_, rfl⟩
      go_loopg [11, 71] N (fun m va v wr => ∃ j : Nat, m = N - j ∧ j ≤ N ∧ v = .int .i64 j ∧ wr.ownsRow B 3 1 va j ((upTo j).map (Value.int .i64)) ∧ Below B ws wr)
      case atStart => exact ⟨0, rfl, by omega, rfl, World.ownsRow_nil _ _ _ _, Below.refl _ _⟩
      case round =>
        rename World => wr2
        obtain ⟨j, rfl, hj, rfl, hown, hbs⟩ := hrel
        by_cases hjN : j < N
        · have hlt2 : (j : Int) < (N : Int) := by omega
          have hwj : IntKind.i64.wrap ((j : Int) + 1) = ((j + 1 : Nat) : Int) := by rw [IntWalk.i64_in _ (by omega)]; omega
          have hBs : B ≤ wr2.heap.size := by have := hbs.size; rw [← hB.out]; exact this
          skip
          go_wp2_with (at_builtin; refine wpList_append_lies _ rfl _ _ _ rfl B 3 i0 _ 1 8 Tryd.underlying33 hi0 hq0 hq1 hq2 rfl (by omega) _ j _ rfl (hown.alloc _) ⟨wr2.heap.size, 0, none⟩ 1 1 [.int .i64 j] rfl rfl (World.news_of_block (cs := #[.int .i64 j]) (t := 3) (fr := (0, 0)) (heap_alloc_new wr2 _)) (by simp [Value.oneCell']) (by omega) (by unfold maxLen; omega) (by omega) (by simp; omega) (wr2.heap.size + 1) (by simp) ?_)
          intro gg cap2 w4 hown4 hgr4 hat4 hlt4
          have hown5 : w4.ownsRow B 3 1 (.slice (some ⟨gg, 0, none⟩) (j + 1) cap2) (j + 1) ((upTo (j + 1)).map (Value.int .i64)) := by rw [upTo_next, List.map_append]; exact hown4
          have hbs5 : Below B ws w4 := by
            refine ⟨hgr4.os.trans hbs.os, hgr4.tape.trans hbs.tape, hgr4.output.trans hbs.output, Nat.le_trans hbs.size (Nat.le_trans (by simp) hgr4.size), fun q hq => ?_⟩
            exact (hgr4.block q (by simp; omega) (fun e => by have := (hown.lt q e.symm).1; omega)).trans ((Below.heap_alloc _ _ _ (by omega)).trans (hbs.block q hq))
          clear hown hown4 hgr4 hat4 hbs
          go_wp2
          go_roundg (N - (j + 1))
          case measure => omega
          case rel => exact ⟨j + 1, rfl, by omega, by first | rfl | simp, hown5, hbs5⟩
        · obtain rfl : j = N := by omega
          have hge2 : ¬ ((j : Int) < (j : Int)) := by omega
          clear HI hi0 hq0 hq1 hq2
          replace hP := hP.below (hB.out ▸ hbs)
          replace hE := hE.below (hB.out ▸ hbs)
          replace hb := hb.trans (hbs.mono (by rw [← hB.out]; exact sb))
          obtain ⟨ap, cp, rfl⟩ := own_form hown
          have hnums := nums_of_own hown (upTo_len j)
          have hcr := pd_crash hP hI.on.good (by rw [hNn.out]; omega) ap cp (upTo j) hnums (by rw [upTo_len]; omega)
          rw [upTo_len] at hcr
          replace sb := hb.size
          clear hown hnums hbs
          go_wp2_with (go_at_call 21; refine hcr.mono ?_)
          rintro e w5 ⟨v, rfl, hNk⟩
          obtain ⟨gk, Fk, rfl, hK, hbk, hFk⟩ := hNk
          have hFKd : ∀ q, F q → ¬ Fk q := fun q h1 h2 => by have := hP.lt h1; have := hFk q h2; omega
          have hGKd : ∀ q, G q → ¬ Fk q := fun q h1 h2 => by have := hE.lt h1; have := hFk q h2; omega
          replace hP := hP.below hbk
          replace hE := hE.below hbk
          replace hb := hb.trans (hbk.mono sb)
          replace sb := hb.size
          have hcr2 := pd_crash hP hI.on.good (by rw [hNn.out]; omega) none 0 [] (.inl rfl) (by simp)
          clear hcr hFk hbk
          go_wp2_with (go_at_call 21; refine hcr2.mono ?_)
          rintro e w6 ⟨v, rfl, hNl⟩
          obtain ⟨gl, Fl, rfl, hO, hbl, hFl⟩ := hNl
          have hFLd : ∀ q, F q → ¬ Fl q := fun q h1 h2 => by have := hP.lt h1; have := hFl q h2; omega
          have hGLd : ∀ q, G q → ¬ Fl q := fun q h1 h2 => by have := hE.lt h1; have := hFl q h2; omega
          replace hP := hP.below hbl
          replace hE := hE.below hbl
          replace hK := hK.below hbl
          replace hb := hb.trans (hbl.mono sb)
          replace sb := hb.size
          clear hcr2 hFl hbl
          go_wp2
          go_loopg [15, 86] L (fun m la v wr => ∃ i : Nat, m = L - i ∧ i ≤ L ∧ la = .int .i64 (lastF cs (min i 200)) ∧ v = .int .i64 i ∧ PD S F g wr ∧ PD (newS 10) G ge wr ∧ PD (crashOf S (upTo j)) Fk gk wr ∧ PD (crashOf S []) Fl gl wr ∧ Below w.heap.size w wr)
          case atStart => exact ⟨0, rfl, by omega, by simp [lastF], rfl, hP, hE, hK, hO, hb⟩
          case round =>
            clear hP hE hK hO hb sb
            rename World => wr
            obtain ⟨k3, rfl, hk3, rfl, rfl, hP, hE, hK, hO, hb⟩ := hrel
            have sb := hb.size
            by_cases hlt3 : k3 < L
            · have hlt4 : (k3 : Int) < (L : Int) := by omega
              have hwk3 : IntKind.i64.wrap ((k3 : Int) + 1) = ((k3 + 1 : Nat) : Int) := by rw [IntWalk.i64_in _ (by omega)]; omega
              have hka : k3 < cs.length := by rw [hL.out]; exact hlt3
              obtain ⟨bq, oq, hbe, hbq, hcs⟩ := (hC.below hb).resolve_left (by intro h0; rw [h0] at hka; simp at hka)
              first | subst hbe | (replace hbe := hbe.symm; simp only [Option.some.injEq, Addr.mk.injEq, and_true] at hbe; obtain ⟨rfl, rfl⟩ := hbe)
              obtain ⟨hrange, hok⟩ := hcs k3 cs[k3] (List.getElem?_eq_getElem hka)
              obtain ⟨c, hc⟩ : ∃ c, cs[k3] = c := ⟨_, rfl⟩
              have HCG : Hid (cs[k3]? = some c) := (by rw [List.getElem?_eq_getElem hka, hc] : cs[k3]? = some c)
              rw [hc] at hrange hok
              have HRg := Lib.hid hrange
              have hci : Hid ((Tryd.prog.info? 35).map (·.size) = some (callCells c).length) := (infoCall : (Tryd.prog.info? 35).map (·.size) = some 4)
              have hci2 : Hid ((Tryd.prog.info? 35).map (·.size) = some (callCells c).toArray.size) := (infoCall : (Tryd.prog.info? 35).map (·.size) = some 4)
              have hcone : Hid ((callCells c).toArray.all (·.oneCell') = true) := call_one c
              have hcold : Hid (zeroCall.size = (callCells c).toArray.size) := (rfl : zeroCall.size = 4)
              have hba : Below wr.heap.size wr (wr.alloc (.cells (callCells c).toArray 35)) := (Below.refl _ wr).alloc (Nat.le_refl _) _
              have hck : (wr.alloc (.cells (callCells c).toArray 35)).heap[wr.heap.size]? = some (.cells (callCells c).toArray 35 (0, 0)) := heap_alloc_new wr _
              obtain ⟨wa, hwa⟩ : ∃ w', Hid (wr.alloc (.cells (callCells c).toArray 35) = w') := ⟨_, rfl⟩
              obtain ⟨bc, hbc⟩ : ∃ b', Hid (wr.heap.size = b') := ⟨_, rfl⟩
              rw [hwa.out] at hba hck
              rw [hbc.out] at hck
              replace hP := hP.below hba
              replace hE := hE.below hba
              replace hK := hK.below hba
              replace hO := hO.below hba
              replace hb := hb.trans (hba.mono hb.size)
              have ck0 : wa.cell? ⟨bc, 0, none⟩ = some (.int .i64 c.kind) := by rw [cell_of_row wa bc 0 _ _ _ hck]; rfl
              have ck1 : wa.cell? ⟨bc, 1, none⟩ = some (.int .i64 c.i) := by rw [cell_of_row wa bc 1 _ _ _ hck]; rfl
              have ck2 : wa.cell? ⟨bc, 2, none⟩ = some (cu8 c.what) := by rw [cell_of_row wa bc 2 _ _ _ hck]; rfl
              have ck3 : wa.cell? ⟨bc, 3, none⟩ = some (.slice c.ap c.pick.length c.cp) := by rw [cell_of_row wa bc 3 _ _ _ hck]; rfl
              have tokL : True := trivial
              have tokC : True := trivial
              have tokD : True := trivial
              clear hcs hrange hba hc
              by_cases h200 : k3 < 200
              · have h2003 : (k3 : Int) < 200 := by omega
                have hm1 : min (k3 + 1) 200 = k3 + 1 := by omega
                have hm2 : min k3 200 = k3 := by omega
                rw [hm2]
                by_cases hkk2 : c.kind = 2
                · have HLN : Hid (lastF cs (min (k3 + 1) 200) = k3) := by rw [hm1, lastF_next HCG.out, if_pos hkk2]; exact (rfl : k3 = k3)
                  clear hm1 hm2
                  go_wp2_with (first
                    | (have _t := tokL; refine wpList_load_mid rfl 35 _ rfl bq (oq + k3 * 4) rfl (callCells c) _ HRg.out Tryd.underlying35 rfl hci.out ?_; clear tokL)
                    | (have _t := tokC; refine wpList_alloc_arr rfl 35 rfl _ allocCall ?_; clear tokC)
                    | (have _t := tokD; refine wpList_store_new rfl 35 _ _ rfl wr.heap.size rfl (callCells c).toArray rfl rfl 35 _ hci2.out hcold.out hcone.out ?_; rw [hwa.out, hbc.out]; clear tokD))
                  go_roundg (L - (k3 + 1))
                  case measure => omega
                  case rel => exact ⟨k3 + 1, rfl, by omega, by rw [HLN.out], by first | rfl | simp, hP, hE, hK, hO, hb⟩
                · have HLN : Hid (lastF cs (min (k3 + 1) 200) = lastF cs k3) := by rw [hm1, lastF_next HCG.out, if_neg hkk2]; exact (rfl : lastF cs k3 = lastF cs k3)
                  have hk2' : (c.kind == 2) = false := by simpa using hkk2
                  clear hm1 hm2
                  go_wp2_with (first
                    | (have _t := tokL; refine wpList_load_mid rfl 35 _ rfl bq (oq + k3 * 4) rfl (callCells c) _ HRg.out Tryd.underlying35 rfl hci.out ?_; clear tokL)
                    | (have _t := tokC; refine wpList_alloc_arr rfl 35 rfl _ allocCall ?_; clear tokC)
                    | (have _t := tokD; refine wpList_store_new rfl 35 _ _ rfl wr.heap.size rfl (callCells c).toArray rfl rfl 35 _ hci2.out hcold.out hcone.out ?_; rw [hwa.out, hbc.out]; clear tokD))
                  go_roundg (L - (k3 + 1))
                  case measure => omega
                  case rel => exact ⟨k3 + 1, rfl, by omega, by rw [HLN.out], by first | rfl | simp, hP, hE, hK, hO, hb⟩
              · have h2003 : ¬ (k3 : Int) < 200 := by omega
                have HLN : Hid (min (k3 + 1) 200 = min k3 200) := (by omega : min (k3 + 1) 200 = min k3 200)
                go_wp2_with (first
                  | (have _t := tokL; refine wpList_load_mid rfl 35 _ rfl bq (oq + k3 * 4) rfl (callCells c) _ HRg.out Tryd.underlying35 rfl hci.out ?_; clear tokL)
                  | (have _t := tokC; refine wpList_alloc_arr rfl 35 rfl _ allocCall ?_; clear tokC)
                  | (have _t := tokD; refine wpList_store_new rfl 35 _ _ rfl wr.heap.size rfl (callCells c).toArray rfl rfl 35 _ hci2.out hcold.out hcone.out ?_; rw [hwa.out, hbc.out]; clear tokD))
                go_roundg (L - (k3 + 1))
                case measure => omega
                case rel => exact ⟨k3 + 1, rfl, by omega, by rw [HLN.out], by first | rfl | simp, hP, hE, hK, hO, hb⟩
            · obtain rfl : k3 = L := by omega
              have hge3 : ¬ ((k3 : Int) < (k3 : Int)) := by omega
              rw [← HMk.out]
              obtain ⟨la, hla⟩ : ∃ la, Hid (lastF cs k = la) := ⟨_, rfl⟩
              have hlak : la ≤ k := by rw [← hla.out]; exact lastF_le cs k
              rw [hla.out]
              have hW0 := wrote_new cs
              go_wp2
              go_loopg [102] k3 (fun m v wr => ∃ (i : Nat) (E : St) (G : Nat → Prop), m = k3 - i ∧ i ≤ k3 ∧ v = .int .i64 i ∧ Wrote cs E (min i la) ∧ PD S F g wr ∧ PD E G ge wr ∧ PD (crashOf S (upTo j)) Fk gk wr ∧ PD (crashOf S []) Fl gl wr ∧ (∀ k, G k → w.heap.size ≤ k) ∧ (∀ k, G k → ¬ F k) ∧ (∀ k, G k → ¬ Fk k) ∧ (∀ k, G k → ¬ Fl k) ∧ Below w.heap.size w wr)
              case atStart => exact ⟨0, _, G, rfl, by omega, rfl, by simpa using hW0, hP, hE, hK, hO, hGB, fun q h1 h2 => hFG q h2 h1, hGKd, hGLd, hb⟩
              case round =>
                clear hP hE hK hO hb sb hW0 hFG hGB hGKd hGLd
                rename World => wr
                obtain ⟨k4, E, G, rfl, hk4, rfl, hW, hP, hE, hK, hO, hGB, hGF, hGK, hGL, hb⟩ := hrel
                have sb := hb.size
                by_cases hlt4 : k4 < k3
                · have hlt5 : (k4 : Int) < (k3 : Int) := by omega
                  have hwk4 : IntKind.i64.wrap ((k4 : Int) + 1) = ((k4 + 1 : Nat) : Int) := by rw [IntWalk.i64_in _ (by omega)]; omega
                  have hka : k4 < cs.length := by rw [hL.out]; exact hlt4
                  obtain ⟨bq, oq, hbe, hbq, hcs⟩ := (hC.below hb).resolve_left (by intro h0; rw [h0] at hka; simp at hka)
                  first | subst hbe | (replace hbe := hbe.symm; simp only [Option.some.injEq, Addr.mk.injEq, and_true] at hbe; obtain ⟨rfl, rfl⟩ := hbe)
                  obtain ⟨hrange, hok⟩ := hcs k4 cs[k4] (List.getElem?_eq_getElem hka)
                  obtain ⟨c, hc⟩ : ∃ c, cs[k4] = c := ⟨_, rfl⟩
                  have HCG : Hid (cs[k4]? = some c) := (by rw [List.getElem?_eq_getElem hka, hc] : cs[k4]? = some c)
                  rw [hc] at hrange hok
                  have HRg := Lib.hid hrange
                  have hci : Hid ((Tryd.prog.info? 35).map (·.size) = some (callCells c).length) := (infoCall : (Tryd.prog.info? 35).map (·.size) = some 4)
                  have hci2 : Hid ((Tryd.prog.info? 35).map (·.size) = some (callCells c).toArray.size) := (infoCall : (Tryd.prog.info? 35).map (·.size) = some 4)
                  have hcone : Hid ((callCells c).toArray.all (·.oneCell') = true) := call_one c
                  have hcold : Hid (zeroCall.size = (callCells c).toArray.size) := (rfl : zeroCall.size = 4)
                  have hba : Below wr.heap.size wr (wr.alloc (.cells (callCells c).toArray 35)) := (Below.refl _ wr).alloc (Nat.le_refl _) _
                  have hck : (wr.alloc (.cells (callCells c).toArray 35)).heap[wr.heap.size]? = some (.cells (callCells c).toArray 35 (0, 0)) := heap_alloc_new wr _
                  obtain ⟨wa, hwa⟩ : ∃ w', Hid (wr.alloc (.cells (callCells c).toArray 35) = w') := ⟨_, rfl⟩
                  obtain ⟨bc, hbc⟩ : ∃ b', Hid (wr.heap.size = b') := ⟨_, rfl⟩
                  rw [hwa.out] at hba hck
                  rw [hbc.out] at hck
                  replace hP := hP.below hba
                  replace hE := hE.below hba
                  replace hK := hK.below hba
                  replace hO := hO.below hba
                  replace hb := hb.trans (hba.mono hb.size)
                  have ck0 : wa.cell? ⟨bc, 0, none⟩ = some (.int .i64 c.kind) := by rw [cell_of_row wa bc 0 _ _ _ hck]; rfl
                  have ck1 : wa.cell? ⟨bc, 1, none⟩ = some (.int .i64 c.i) := by rw [cell_of_row wa bc 1 _ _ _ hck]; rfl
                  have ck2 : wa.cell? ⟨bc, 2, none⟩ = some (cu8 c.what) := by rw [cell_of_row wa bc 2 _ _ _ hck]; rfl
                  have ck3 : wa.cell? ⟨bc, 3, none⟩ = some (.slice c.ap c.pick.length c.cp) := by rw [cell_of_row wa bc 3 _ _ _ hck]; rfl
                  have tokL : True := trivial
                  have tokC : True := trivial
                  have tokD : True := trivial
                  clear hcs hrange hba hc
                  replace sb := hb.size
                  by_cases hla4 : k4 < la
                  · have hla5 : (k4 : Int) < (la : Int) := by omega
                    have hm1 : min (k4 + 1) la = k4 + 1 := by omega
                    have hm2 : min k4 la = k4 := by omega
                    rw [hm2] at hW
                    by_cases hk1 : c.kind = 1
                    · have ti := tmod_in c.i 10 (by omega)
                      obtain ⟨q, hq, hq1⟩ := posmod c.i 10 (by omega)
                      have t2 : IntKind.i64.wrap (c.i.tmod 10) = c.i.tmod 10 := IntWalk.i64_in _ (by omega)
                      have t3 : IntKind.i64.wrap (c.i.tmod 10 + 10) = c.i.tmod 10 + 10 := IntWalk.i64_in _ (by omega)
                      have t4 : IntKind.i64.wrap (q : Int) = (q : Int) := IntWalk.i64_in _ (by omega)
                      have HQ : Hid (at10 c.i = (q : Int)) := hq
                      obtain ⟨cv, hcv⟩ : ∃ cv, cu8 c.what = cv := ⟨_, rfl⟩
                      have HB := Lib.hid (built_one c.what)
                      rw [hcv] at ck2 HB
                      obtain ⟨p1, hp1⟩ : ∃ p, Hid (page1 c.what = p) := ⟨_, rfl⟩
                      have bp1 : BP p1 := hp1.out ▸ page1_bytes c.what
                      rw [hp1.out] at HB
                      clear hcv ti
                      obtain ⟨e1, hW'⟩ := hW.write HCG.out hk1 HQ.out (by omega)
                      rw [hp1.out] at e1 hW'
                      have hfe : E.ats.length ≤ 1048576 := by have := hW.on.few; omega
                      have hdo := pd_write hE hW.on.good hfe q p1 bp1.page
                      rw [e1] at hdo
                      have HM : Hid (min (k4 + 1) la = k4 + 1) := hm1
                      clear e1 hm1 hm2
                      go_wp2_with (first
                        | (have _t := tokL; refine wpList_load_mid rfl 35 _ rfl bq (oq + k4 * 4) rfl (callCells c) _ HRg.out Tryd.underlying35 rfl hci.out ?_; clear tokL)
                        | (have _t := tokC; refine wpList_alloc_arr rfl 35 rfl _ allocCall ?_; clear tokC)
                        | (have _t := tokD; refine wpList_store_new rfl 35 _ _ rfl wr.heap.size rfl (callCells c).toArray rfl rfl 35 _ hci2.out hcold.out hcone.out ?_; rw [hwa.out, hbc.out]; clear tokD)
                        | (refine wpList_build1 _ rfl cv rfl _ HB.out (by rfl) ?_)
                        | (go_at_call 19; refine hdo.mono ?_))
                      rintro e w7 ⟨v2, rfl, hT⟩
                      obtain ⟨G', hEr, hE', ho, hf⟩ := hT
                      obtain rfl := ErrV.zero hEr
                      have hP' := hP.keep ho (fun q h1 h2 => hGF q h2 h1)
                      have hK' := hK.keep ho (fun q h1 h2 => hGK q h2 h1)
                      have hO' := hO.keep ho (fun q h1 h2 => hGL q h2 h1)
                      have hGF' := apart_next hf hGF (fun q hq => hP.lt hq)
                      have hGK' := apart_next hf hGK (fun q hq => hK.lt hq)
                      have hGL' := apart_next hf hGL (fun q hq => hO.lt hq)
                      have hGB' : ∀ q, G' q → w.heap.size ≤ q := fun q hq => (hf q hq).elim (hGB q) (fun e => by omega)
                      have hb' := hb.trans (ho.base sb hGB)
                      clear hEr hdo ho hf hP hE hK hO hGF hGK hGL hGB hb
                      go_wp2
                      go_roundg (k3 - (k4 + 1))
                      case measure => omega
                      case rel => exact ⟨k4 + 1, _, G', rfl, by omega, by first | rfl | simp, by rw [HM.out]; exact hW', hP', hE', hK', hO', hGB', hGF', hGK', hGL', hb'⟩
                    · have hk1' : (c.kind == 1) = false := by simpa using hk1
                      have hW' := hW.skip HCG.out hk1
                      rw [← hm1] at hW'
                      have HW := Lib.hid hW'
                      clear hm1 hm2 hW'
                      go_wp2_with (first
                        | (have _t := tokL; refine wpList_load_mid rfl 35 _ rfl bq (oq + k4 * 4) rfl (callCells c) _ HRg.out Tryd.underlying35 rfl hci.out ?_; clear tokL)
                        | (have _t := tokC; refine wpList_alloc_arr rfl 35 rfl _ allocCall ?_; clear tokC)
                        | (have _t := tokD; refine wpList_store_new rfl 35 _ _ rfl wr.heap.size rfl (callCells c).toArray rfl rfl 35 _ hci2.out hcold.out hcone.out ?_; rw [hwa.out, hbc.out]; clear tokD))
                      go_roundg (k3 - (k4 + 1))
                      case measure => omega
                      case rel => exact ⟨k4 + 1, E, G, rfl, by omega, by first | rfl | simp, HW.out, hP, hE, hK, hO, hGB, hGF, hGK, hGL, hb⟩
                  · have hla5 : ¬ (k4 : Int) < (la : Int) := by omega
                    have hW' : Wrote cs E (min (k4 + 1) la) := by rw [show min (k4 + 1) la = min k4 la by omega]; exact hW
                    have HW := Lib.hid hW'
                    clear hW'
                    go_wp2_with (first
                      | (have _t := tokL; refine wpList_load_mid rfl 35 _ rfl bq (oq + k4 * 4) rfl (callCells c) _ HRg.out Tryd.underlying35 rfl hci.out ?_; clear tokL)
                      | (have _t := tokC; refine wpList_alloc_arr rfl 35 rfl _ allocCall ?_; clear tokC)
                      | (have _t := tokD; refine wpList_store_new rfl 35 _ _ rfl wr.heap.size rfl (callCells c).toArray rfl rfl 35 _ hci2.out hcold.out hcone.out ?_; rw [hwa.out, hbc.out]; clear tokD))
                    go_roundg (k3 - (k4 + 1))
                    case measure => omega
                    case rel => exact ⟨k4 + 1, E, G, rfl, by omega, by first | rfl | simp, HW.out, hP, hE, hK, hO, hGB, hGF, hGK, hGL, hb⟩
                · obtain rfl : k4 = k3 := by omega
                  have hge4 : ¬ ((k4 : Int) < (k4 : Int)) := by omega
                  have hW' : Wrote cs E (lastF cs k) := by rw [hla.out]; rwa [show min k4 la = la by omega] at hW
                  obtain ⟨e1, hI'⟩ : flushOf S = (⟨flushS S.firm S.ats S.what, [], [], -1, false⟩, 0) ∧ On (flushOf S).1 10 (k + 1) := hI.on.flush
                  have hdo := pd_flush hP hI.on.good (by rw [hNn.out]; omega)
                  have e2 : (flushOf S).2 = 0 := by rw [e1]
                  rw [e2] at hdo
                  clear e1 e2 hW
                  go_wp2_with (go_at_call 20; refine hdo.mono ?_)
                  rintro e w8 ⟨v2, rfl, hT⟩
                  obtain ⟨F', hEr, hP', ho, hf⟩ := hT
                  obtain rfl := ErrV.zero hEr
                  have hE' := hE.keep ho (fun q h1 h2 => hGF q h1 h2)
                  have hK' := hK.keep ho (fun q h1 h2 => hFKd q h2 h1)
                  have hO' := hO.keep ho (fun q h1 h2 => hFLd q h2 h1)
                  have hb' := hb.trans (ho.base sb hF)
                  have HRF := Lib.hid (read_flush hI.on)
                  have HRL := Lib.hid (read_lost hI hW')
                  have hbyK : Byt (crashOf S (upTo S.ats.length)) := byt_crash hI.on.byt _
                  have hbyO : Byt (crashOf S []) := byt_crash hI.on.byt _
                  have hnK := hI.on.crash (upTo S.ats.length)
                  have hnO := hI.on.crash []
                  rw [← hNn.out] at hK'
                  generalize flushOf S = FS at HRF hP'
                  generalize crashOf S (upTo S.ats.length) = SK at HRF hK' hbyK hnK
                  generalize crashOf S [] = SL at HRL hO' hbyO hnO
                  clear hEr hdo ho hf hP hE hK hO hb hI hI' hW' hGF hGK hGL hGB hFKd hFLd hC
                  go_wp2_with (go_at_call 12; refine (num_nil _).mono ?_; rintro e w' ⟨rfl, rfl⟩)
                  go_loopg [130] 10 (fun m v wr => ∃ i : Nat, m = 10 - i ∧ i ≤ 10 ∧ v = .int .i64 i ∧ PD FS.1 F' g wr ∧ PD E G ge wr ∧ PD SK Fk gk wr ∧ PD SL Fl gl wr ∧ Below w.heap.size w wr)
                  case atStart => exact ⟨0, rfl, by omega, rfl, hP', hE', hK', hO', hb'⟩
                  case round =>
                    clear hP' hE' hK' hO' hb' sb
                    rename World => wr
                    obtain ⟨i, rfl, hi, rfl, hP, hE, hK, hO, hb⟩ := hrel
                    by_cases hi10 : i < 10
                    · have hlt6 : (i : Int) < 10 := by omega
                      have hwi : IntKind.i64.wrap ((i : Int) + 1) = ((i + 1 : Nat) : Int) := by rw [IntWalk.i64_in _ (by omega)]; omega
                      have hn1 := hnK.read i hi10
                      have hn2 := hnO.read i hi10
                      have bpa := byt_read hbyK i
                      have bpb := byt_read hbyO i
                      have r1 := pd_read hK i
                      have r2 := HRF.out i
                      have r3 := HRL.out i
                      obtain ⟨pa, hpa⟩ : ∃ pg, (readOf SK i).1 = pg := ⟨_, rfl⟩
                      obtain ⟨pb, hpb⟩ : ∃ pg, (readOf SL i).1 = pg := ⟨_, rfl⟩
                      have q2 : (readOf FS.1 i).1 = pa ∧ (readOf FS.1 i).2 = 0 := by rw [← r2]; exact ⟨hpa, hn1⟩
                      have q4 : (readOf E i).1 = pb ∧ (readOf E i).2 = 0 := by rw [← r3]; exact ⟨hpb, hn2⟩
                      rw [hpa] at bpa
                      rw [hpb] at bpb
                      rw [hpa, hn1] at r1
                      clear r2 r3
                      have hz1_pa := page_size bpa.page
                      have hz2_pa := page_all bpa.page
                      have hz3_pa := zeros_eq bpa.page
                      have hz1_pb := page_size bpb.page
                      have hz2_pb := page_all bpb.page
                      have hz3_pb := zeros_eq bpb.page
                      go_wp2_with (go_at_call 17; refine r1.mono ?_)
                      rintro e w11a ⟨v11, rfl, hE11, hr11⟩
                      obtain rfl := ErrV.zero hE11
                      have hA11 := hr11.alloc hr11.size (.cells pa.toArray 42)
                      have hk11 : (w11a.alloc (.cells pa.toArray 42)).heap[w11a.heap.size]? = some (.cells pa.toArray 42 (0, 0)) := heap_alloc_new w11a _
                      replace hP := hP.below hA11
                      replace hE := hE.below hA11
                      replace hK := hK.below hA11
                      replace hO := hO.below hA11
                      replace hb := hb.trans (hA11.mono hb.size)
                      obtain ⟨w11, hw11⟩ : ∃ w', Hid (w11a.alloc (.cells pa.toArray 42) = w') := ⟨_, rfl⟩
                      obtain ⟨b11, hb11⟩ : ∃ b', Hid (w11a.heap.size = b') := ⟨_, rfl⟩
                      rw [hw11.out] at hk11 hP hE hK hO hb
                      rw [hb11.out] at hk11
                      clear hE11 hr11 hA11
                      have tokA11 : True := trivial
                      have tokS11 : True := trivial
                      have r2 := pd_read hP i
                      rw [q2.1, q2.2] at r2
                      clear r1
                      go_wp2_with (first
                        | (have _t := tokA11; refine wpList_alloc_arr rfl 42 rfl _ alloc64 ?_; clear tokA11)
                        | (have _t := tokS11; refine wpList_store_new rfl 42 _ _ rfl w11a.heap.size rfl pa.toArray rfl rfl 42 _ hz1_pa.out hz3_pa.out hz2_pa.out ?_; rw [hw11.out, hb11.out]; clear tokS11)
                        | (go_at_call 17; refine r2.mono ?_))
                      rintro e w12a ⟨v12, rfl, hE12, hr12⟩
                      obtain rfl := ErrV.zero hE12
                      have hA12 := hr12.alloc hr12.size (.cells pa.toArray 42)
                      have hk12 : (w12a.alloc (.cells pa.toArray 42)).heap[w12a.heap.size]? = some (.cells pa.toArray 42 (0, 0)) := heap_alloc_new w12a _
                      replace hP := hP.below hA12
                      replace hE := hE.below hA12
                      replace hK := hK.below hA12
                      replace hO := hO.below hA12
                      replace hk11 := (hA12.block b11 (Array.getElem?_eq_some_iff.1 hk11).1).trans hk11
                      replace hb := hb.trans (hA12.mono hb.size)
                      obtain ⟨w12, hw12⟩ : ∃ w', Hid (w12a.alloc (.cells pa.toArray 42) = w') := ⟨_, rfl⟩
                      obtain ⟨b12, hb12⟩ : ∃ b', Hid (w12a.heap.size = b') := ⟨_, rfl⟩
                      rw [hw12.out] at hk12 hP hE hK hO hk11 hb
                      rw [hb12.out] at hk12
                      clear hE12 hr12 hA12
                      have tokA12 : True := trivial
                      have tokS12 : True := trivial
                      have r3 := pd_read hO i
                      rw [hpb, hn2] at r3
                      clear r2
                      go_wp2_with (first
                        | (have _t := tokA12; refine wpList_alloc_arr rfl 42 rfl _ alloc64 ?_; clear tokA12)
                        | (have _t := tokS12; refine wpList_store_new rfl 42 _ _ rfl w12a.heap.size rfl pa.toArray rfl rfl 42 _ hz1_pa.out hz3_pa.out hz2_pa.out ?_; rw [hw12.out, hb12.out]; clear tokS12)
                        | (go_at_call 17; refine r3.mono ?_))
                      rintro e w13a ⟨v13, rfl, hE13, hr13⟩
                      obtain rfl := ErrV.zero hE13
                      have hA13 := hr13.alloc hr13.size (.cells pb.toArray 42)
                      have hk13 : (w13a.alloc (.cells pb.toArray 42)).heap[w13a.heap.size]? = some (.cells pb.toArray 42 (0, 0)) := heap_alloc_new w13a _
                      replace hP := hP.below hA13
                      replace hE := hE.below hA13
                      replace hK := hK.below hA13
                      replace hO := hO.below hA13
                      replace hk11 := (hA13.block b11 (Array.getElem?_eq_some_iff.1 hk11).1).trans hk11
                      replace hk12 := (hA13.block b12 (Array.getElem?_eq_some_iff.1 hk12).1).trans hk12
                      replace hb := hb.trans (hA13.mono hb.size)
                      obtain ⟨w13, hw13⟩ : ∃ w', Hid (w13a.alloc (.cells pb.toArray 42) = w') := ⟨_, rfl⟩
                      obtain ⟨b13, hb13⟩ : ∃ b', Hid (w13a.heap.size = b') := ⟨_, rfl⟩
                      rw [hw13.out] at hk13 hP hE hK hO hk11 hk12 hb
                      rw [hb13.out] at hk13
                      clear hE13 hr13 hA13
                      have tokA13 : True := trivial
                      have tokS13 : True := trivial
                      have r4 := pd_read hE i
                      rw [q4.1, q4.2] at r4
                      clear r3
                      go_wp2_with (first
                        | (have _t := tokA13; refine wpList_alloc_arr rfl 42 rfl _ alloc64 ?_; clear tokA13)
                        | (have _t := tokS13; refine wpList_store_new rfl 42 _ _ rfl w13a.heap.size rfl pb.toArray rfl rfl 42 _ hz1_pb.out hz3_pb.out hz2_pb.out ?_; rw [hw13.out, hb13.out]; clear tokS13)
                        | (go_at_call 17; refine r4.mono ?_))
                      rintro e w14a ⟨v14, rfl, hE14, hr14⟩
                      obtain rfl := ErrV.zero hE14
                      have hA14 := hr14.alloc hr14.size (.cells pb.toArray 42)
                      have hk14 : (w14a.alloc (.cells pb.toArray 42)).heap[w14a.heap.size]? = some (.cells pb.toArray 42 (0, 0)) := heap_alloc_new w14a _
                      replace hP := hP.below hA14
                      replace hE := hE.below hA14
                      replace hK := hK.below hA14
                      replace hO := hO.below hA14
                      replace hk11 := (hA14.block b11 (Array.getElem?_eq_some_iff.1 hk11).1).trans hk11
                      replace hk12 := (hA14.block b12 (Array.getElem?_eq_some_iff.1 hk12).1).trans hk12
                      replace hk13 := (hA14.block b13 (Array.getElem?_eq_some_iff.1 hk13).1).trans hk13
                      replace hb := hb.trans (hA14.mono hb.size)
                      obtain ⟨w14, hw14⟩ : ∃ w', Hid (w14a.alloc (.cells pb.toArray 42) = w') := ⟨_, rfl⟩
                      obtain ⟨b14, hb14⟩ : ∃ b', Hid (w14a.heap.size = b') := ⟨_, rfl⟩
                      rw [hw14.out] at hk14 hP hE hK hO hk11 hk12 hk13 hb
                      rw [hb14.out] at hk14
                      clear hE14 hr14 hA14
                      have tokA14 : True := trivial
                      have tokS14 : True := trivial
                      have hld11 := Lib.hid (run_loadAt_mid (P := Tryd.prog) w14 b11 0 42 pa _ (fun j v hj => by rw [Nat.zero_add, cell_of_row w14 b11 j _ _ _ hk11]; simpa using hj) Tryd.underlying42 rfl (by rw [bpa.page.1]; exact info64))
                      have hld12 := Lib.hid (run_loadAt_mid (P := Tryd.prog) w14 b12 0 42 pa _ (fun j v hj => by rw [Nat.zero_add, cell_of_row w14 b12 j _ _ _ hk12]; simpa using hj) Tryd.underlying42 rfl (by rw [bpa.page.1]; exact info64))
                      have hld13 := Lib.hid (run_loadAt_mid (P := Tryd.prog) w14 b13 0 42 pb _ (fun j v hj => by rw [Nat.zero_add, cell_of_row w14 b13 j _ _ _ hk13]; simpa using hj) Tryd.underlying42 rfl (by rw [bpb.page.1]; exact info64))
                      have hld14 := Lib.hid (run_loadAt_mid (P := Tryd.prog) w14 b14 0 42 pb _ (fun j v hj => by rw [Nat.zero_add, cell_of_row w14 b14 j _ _ _ hk14]; simpa using hj) Tryd.underlying42 rfl (by rw [bpb.page.1]; exact info64))
                      have hne1 := bpa.neq
                      have hsm1 := bpa.same
                      have hne2 := bpb.neq
                      have hsm2 := bpb.same
                      clear r4 hk11 hk12 hk13 hk14 hpa hpb hn1 hn2 q2 q4
                      go_wp2_with (first
                        | (have _t := tokA14; refine wpList_alloc_arr rfl 42 rfl _ alloc64 ?_; clear tokA14)
                        | (have _t := tokS14; refine wpList_store_new rfl 42 _ _ rfl w14a.heap.size rfl pb.toArray rfl rfl 42 _ hz1_pb.out hz3_pb.out hz2_pb.out ?_; rw [hw14.out, hb14.out]; clear tokS14)
                        | (have _t := hld11; refine wpList_load_page _ rfl b11 0 rfl _ hld11.out (by rfl) ?_; clear hld11)
                        | (have _t := hld12; refine wpList_load_page _ rfl b12 0 rfl _ hld12.out (by rfl) ?_; clear hld12)
                        | (have _t := hld13; refine wpList_load_page _ rfl b13 0 rfl _ hld13.out (by rfl) ?_; clear hld13)
                        | (have _t := hld14; refine wpList_load_page _ rfl b14 0 rfl _ hld14.out (by rfl) ?_; clear hld14))
                      go_roundg (10 - (i + 1))
                      case measure => omega
                      case rel => exact ⟨i + 1, rfl, by omega, by first | rfl | simp, hP, hE, hK, hO, hb⟩
                    · have hge6 : ¬ ((i : Int) < 10) := by omega
                      go_wp2
                      go_ret
                      exact ⟨rfl, hb⟩
end Go.Proofs.YtbmpbcnoclhhgaaDoor
