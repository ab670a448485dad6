/-
  The law's 'both': a call of the program's disk and of the reference's.
-/
import Derived.Test.YtbmpbcnoclhhgaaDoorDkCalls
import Derived.Deep.RegionHeld
namespace Go.Proofs.YtbmpbcnoclhhgaaDoor
open Go.RowKit Sh Go.Extern.Stop Go.Stop Go.Extern

theorem wpAnyH_one {P : Program} {md : Region.Mode} {ops : Array Oper} {Q : Exit → Act → World → Prop} {S : World → Prop} {fuel : Nat} {listed : Array Bool} {a : Act} {w : World} (i : Nat) (o : Oper) (hi : ops[i]? = some o) (hr : Region.ready md ops listed = [i])
    (hw : Region.wanted o (yielded ops a.tmps) = true) (h : ∀ K : Act → World → Prop, (∀ a' w', S w' → wpAnyH P md ops Q S fuel (listed.setIfInBounds i true) a' w' → K a' w') → Oper.wp P o a w K Q) : wpAnyH P md ops Q S (fuel + 1) listed a w := by
  refine wpAnyH_all hr (by simp) (fun j hj => ?_)
  obtain rfl : j = i := by simpa using hj
  unfold wpOp
  simp only [hi, hw, if_true]
  exact .inl (h _ fun _ _ h1 h2 => ⟨h1, h2⟩)

/-- The two are alike, but that below 0 fuel is fuel. -/
structure Same (S T : St) : Prop where
  firm : T.firm = S.firm
  ats : T.ats = S.ats
  what : T.what = S.what
  off : T.off = S.off
  fuel : T.fuel = max S.fuel (-1)
theorem Same.read {S T : St} (h : Same S T) (i : Int) : readOf T i = readOf S i := by
  unfold readOf St.newest; rw [h.firm, h.ats, h.what, h.off]
theorem same_step {a b : Int} (h : b = max a (-1)) (h0 : a ≠ 0) : (stepS b false).1 = max (stepS a false).1 (-1) := by
  have hb0 : b ≠ 0 := by omega
  simp only [stepS, hb0, h0, if_false, Bool.false_eq_true]
  by_cases hp : 0 < a
  · have hp2 : 0 < b := by omega
    simp only [hp, hp2, if_true]; omega
  · have hp2 : ¬ 0 < b := by omega
    simp only [hp, hp2, if_false]; exact h
theorem Same.write {S T : St} (h : Same S T) (i : Int) (p : List Value) : (writeOf T i p).2 = (writeOf S i p).2 ∧ Same (writeOf S i p).1 (writeOf T i p).1 := by
  have h0 : (T.fuel = 0) ↔ S.fuel = 0 := by rw [h.fuel]; omega
  have hno : noWrite T.firm T.fuel T.off i = (noWrite S.firm S.fuel S.off i).map (fun r => (T.fuel, r.2)) := by
    unfold noWrite
    rw [h.firm, h.off]
    by_cases ho : S.off = true
    · simp [ho]
    · by_cases hb : i < 0 ∨ (S.firm.length : Int) ≤ i
      · simp [ho, hb]
      · by_cases hf : S.fuel = 0
        · simp [ho, hb, hf, h0.2 hf]
        · simp [ho, hb, hf, mt h0.1 hf]
  unfold writeOf
  rw [hno]
  cases hs : noWrite S.firm S.fuel S.off i with
  | some r => exact ⟨rfl, h.firm, h.ats, h.what, rfl, by simp only [Option.map_some]; rw [noWrite_fuel hs]; exact h.fuel⟩
  | none =>
    obtain ⟨_, _, hf⟩ := noWrite_in hs
    refine ⟨rfl, h.firm, ?_, ?_, rfl, same_step h.fuel hf⟩
    · show T.ats ++ [i] = S.ats ++ [i]; rw [h.ats]
    · show T.what ++ [p] = S.what ++ [p]; rw [h.what]
theorem Same.flush {S T : St} (h : Same S T) : (flushOf T).2 = (flushOf S).2 ∧ Same (flushOf S).1 (flushOf T).1 := by
  have h0 : (T.fuel = 0) ↔ S.fuel = 0 := by rw [h.fuel]; omega
  unfold flushOf
  by_cases hc : S.off = true ∨ S.fuel = 0
  · rw [if_pos hc, if_pos (by rw [h.off, h0]; exact hc)]
    exact ⟨rfl, h.firm, h.ats, h.what, rfl, h.fuel⟩
  · rw [if_neg hc, if_neg (by rw [h.off, h0]; exact hc)]
    refine ⟨rfl, ?_, rfl, rfl, rfl, same_step h.fuel (fun e => hc (.inr e))⟩
    show flushS T.firm T.ats T.what = _
    rw [h.firm, h.ats, h.what]
theorem Same.crash {S T : St} (h : Same S T) (pick : List Int) : Same (crashOf S pick) (crashOf T pick) := by
  refine ⟨?_, rfl, rfl, rfl, rfl⟩
  show crashS 0 T.firm T.ats T.what pick = crashS 0 S.firm S.ats S.what pick
  rw [h.firm, h.ats, h.what]
theorem Same.setFuel {S T : St} (h : Same S T) (n : Int) : Same (fuelOf S n) (fuelOf T (max n (-1))) := ⟨h.firm, h.ats, h.what, h.off, rfl⟩
theorem same_new (n : Nat) : Same (newS n) (newS n) := ⟨rfl, rfl, rfl, rfl, rfl⟩
theorem Same.good {S T : St} (h : Same S T) (hG : Good S) : Good T :=
  ⟨by rw [h.what, h.ats]; exact hG.same, by rw [h.firm]; exact hG.pos, by rw [h.firm]; exact hG.le, by rw [h.firm, h.ats]; exact hG.inr, by have := h.fuel; have := hG.fuel; omega⟩

/-- Two disks alike, apart from one another, above block B. -/
structure Pair (B : Nat) (S T : St) (F G : Nat → Prop) (g gm : Nat) (w : World) : Prop where
  p : PD S F g w
  r : RD T G gm w
  apart : ∀ k, F k → ¬ G k
  same : Same S T
  good : Good S
  byt : Byt S
  fb : ∀ k, F k → B ≤ k
  gb : ∀ k, G k → B ≤ k
theorem Pair.below {B : Nat} {S T : St} {F G : Nat → Prop} {g gm : Nat} {w w' : World} (h : Pair B S T F G g gm w) (hb : Below w.heap.size w w') : Pair B S T F G g gm w' :=
  ⟨h.p.below hb, h.r.below hb, h.apart, h.same, h.good, h.byt, h.fb, h.gb⟩
def BothPost (B : Nat) (S : St) (w : World) (e : Ending) (w' : World) : Prop := ∃ (g gm : Nat) (S' T' : St) (F G : Nat → Prop), e = .returned (.tuple #[.pointer (some ⟨g, 0, none⟩), .pointer (some ⟨gm, 0, none⟩), .bool true]) ∧
  Pair B S' T' F G g gm w' ∧ S'.firm.length = S.firm.length ∧ S'.ats.length ≤ S.ats.length + 1 ∧ Below B w w'
/-- A turn of the first disk keeps the second, and the two apart. -/
theorem turn_first {B : Nat} {S' T : St} {F G : Nat → Prop} {g gm : Nat} {w w' : World} {n : Int} {v : Value} (hT : PDTurn S' n F g w v w') (hr : RD T G gm w) (ha : ∀ k, F k → ¬ G k) (hF : ∀ k, F k → B ≤ k) (hB : B ≤ w.heap.size) :
    ∃ F', ErrV w' n v ∧ PD S' F' g w' ∧ RD T G gm w' ∧ (∀ k, F' k → ¬ G k) ∧ (∀ k, F' k → B ≤ k) ∧ Only F w w' := by
  obtain ⟨F', hE, hP, ho, hf⟩ := hT
  exact ⟨F', hE, hP, hr.keep ho (fun k h1 h2 => ha k h2 h1), fun k hk hg => (hf k hk).elim (fun e => ha k e hg) (fun e => by have := hr.lt hg; omega), fun k hk => (hf k hk).elim (hF k) (fun e => by omega), ho⟩
theorem turn_second {B : Nat} {S T' : St} {F G : Nat → Prop} {g gm : Nat} {w w' : World} (hT : RDTurn T' G gm w w') (hp : PD S F g w) (ha : ∀ k, F k → ¬ G k) (hG : ∀ k, G k → B ≤ k) (hB : B ≤ w.heap.size) :
    ∃ G', RD T' G' gm w' ∧ PD S F g w' ∧ (∀ k, F k → ¬ G' k) ∧ (∀ k, G' k → B ≤ k) ∧ Only G w w' := by
  obtain ⟨G', hP, ho, hf⟩ := hT
  exact ⟨G', hP, hp.keep ho (fun k h1 h2 => ha k h1 h2), fun k hk hg => (hf k hg).elim (fun e => ha k hk e) (fun e => by have := hp.lt hk; omega), fun k hk => (hf k hk).elim (hG k) (fun e => by omega), ho⟩

section
variable {B : Nat} {S T : St} {F G : Nat → Prop} {g gm : Nat} {w : World} {c : CallD}
set_option maxRecDepth 100000 in
set_option maxHeartbeats 4000000 in
theorem both_read (hA : Pair B S T F G g gm w) (hn : S.ats.length ≤ 1000000) (hB : B ≤ w.heap.size) (hB0 : 0 < B) (hL : Laid w) (hok : CallOk B w c) (hk : c.kind = 0) :
    Calls Tryd.prog 13 #[.pointer (some ⟨g, 0, none⟩), .pointer (some ⟨gm, 0, none⟩), .agg (callCells c).toArray] w (BothPost B S w) := by
  have hba : Below w.heap.size w (w.alloc (.cells (callCells c).toArray 35)) := (Below.refl _ w).alloc (Nat.le_refl _) _
  have hck : (w.alloc (.cells (callCells c).toArray 35)).heap[w.heap.size]? = some (.cells (callCells c).toArray 35 (0, 0)) := heap_alloc_new w _
  have rc0 : (w.alloc (.cells (callCells c).toArray 35)).cell? ⟨w.heap.size, 0, none⟩ = some (.int .i64 c.kind) := by rw [cell_of_row _ _ 0 _ _ _ hck]; rfl
  have rc1 : (w.alloc (.cells (callCells c).toArray 35)).cell? ⟨w.heap.size, 1, none⟩ = some (.int .i64 c.i) := by rw [cell_of_row _ _ 1 _ _ _ hck]; rfl
  have l0 : (callCells c)[0]? = some (.int .i64 c.kind) := rfl
  have l1 : (callCells c)[1]? = some (.int .i64 c.i) := rfl
  have hb : Below B w (w.alloc (.cells (callCells c).toArray 35)) := hba.mono hB
  have hA' := hA.below hba
  obtain ⟨wa, hwa⟩ : ∃ w', Hid (w.alloc (.cells (callCells c).toArray 35) = w') := ⟨_, rfl⟩
  obtain ⟨bx, hbx⟩ : ∃ b', Hid (w.heap.size = b') := ⟨_, rfl⟩
  rw [hwa.out] at hba hck hb hA'
  rw [hbx.out] at hck
  have hBx : B ≤ bx := by rw [← hbx.out]; exact hB
  have sa : bx < wa.heap.size := (Array.getElem?_eq_some_iff.1 hck).1
  have hFx : ¬ F bx := fun h => by have := hA.p.lt h; rw [hbx.out] at this; omega
  have hGx : ¬ G bx := fun h => by have := hA.r.lt h; rw [hbx.out] at this; omega
  have hLa := hL.below hB0 hb
  have hoka := hok.below hb
  obtain ⟨hP, hR, hFG, hST, hgS, hyS, hFB, hGB⟩ := hA'
  have hgT := hST.good hgS
  have hnT : T.ats.length ≤ 1048576 := by rw [hST.ats]; omega
  have hnS : S.ats.length ≤ 1048576 := by omega
  have hBa : B ≤ wa.heap.size := by omega
  have ck0 : wa.cell? ⟨bx, 0, none⟩ = some (.int .i64 c.kind) := by rw [cell_of_row wa bx 0 _ _ _ hck]; rfl
  have ck1 : wa.cell? ⟨bx, 1, none⟩ = some (.int .i64 c.i) := by rw [cell_of_row wa bx 1 _ _ _ hck]; rfl
  have hLa0 := hL
  clear hba hok hA hLa hoka
  rw [hk] at ck0 rc0 l0
  have hr1 := pd_read hP c.i
  have hr2 := rd_read hR hgT hnT c.i
  rw [hST.read] at hr2
  have bpg := byt_read hyS c.i
  obtain ⟨pg, hpg⟩ : ∃ pg, (readOf S c.i).1 = pg := ⟨_, rfl⟩
  obtain ⟨n, hnn⟩ : ∃ n, (readOf S c.i).2 = n := ⟨_, rfl⟩
  rw [hpg, hnn] at hr1
  rw [hpg] at bpg
  clear hr2
  have hz1_pg := page_size bpg.page
  have hz2_pg := page_all bpg.page
  have hz3_pg := zeros_eq bpg.page
  go_enter Tryd.func13, Tryd.ntmps13
  go_wp2_with (first
    | (rw [hwa.out, hbx.out]; go_at_call 17; refine hr1.mono ?_)
    | (go_at_call 17; refine hr1.mono ?_))
  rintro e w3a ⟨v3, rfl, hE3, hr3⟩
  have hA3 := hr3.alloc hr3.size (.cells pg.toArray 42)
  have hk3 : (w3a.alloc (.cells pg.toArray 42)).heap[w3a.heap.size]? = some (.cells pg.toArray 42 (0, 0)) := heap_alloc_new w3a _
  replace hP := hP.below hA3
  replace hR := hR.below hA3
  replace hck := (hA3.block bx (Array.getElem?_eq_some_iff.1 hck).1).trans hck
  replace hb := hb.trans (hA3.mono (by have := hb.size; omega))
  replace hE3 := hE3.below (w' := w3a.alloc (.cells pg.toArray 42)) ((Below.refl _ _).alloc (Nat.le_refl _) _)
  obtain ⟨w3, hw3⟩ : ∃ w', Hid (w3a.alloc (.cells pg.toArray 42) = w') := ⟨_, rfl⟩
  obtain ⟨b3, hb3⟩ : ∃ b', Hid (w3a.heap.size = b') := ⟨_, rfl⟩
  rw [hw3.out] at hk3 hP hR hck hb hE3
  rw [hb3.out] at hk3
  clear hr3 hA3
  have tokA3 : True := trivial
  have tokS3 : True := trivial
  have ck1b : w3.cell? ⟨bx, 1, none⟩ = some (.int .i64 c.i) := by rw [cell_of_row w3 bx 1 _ _ _ hck]; rfl
  have hr2 := rd_read hR hgT hnT c.i
  rw [hST.read, hpg, hnn] at hr2
  clear hr1
  go_wp2_with (first
    | (have _t := tokA3; refine wpList_alloc_arr rfl 42 rfl _ alloc64 ?_; clear tokA3)
    | (have _t := tokS3; refine wpList_store_new rfl 42 _ _ rfl w3a.heap.size rfl pg.toArray rfl rfl 42 _ hz1_pg.out hz3_pg.out hz2_pg.out ?_; rw [hw3.out, hb3.out]; clear tokS3)
    | (go_at_call 18; refine hr2.mono ?_))
  rintro e w4a ⟨rfl, hr4⟩
  have hA4 := hr4.alloc hr4.size (.cells pg.toArray 42)
  have hk4 : (w4a.alloc (.cells pg.toArray 42)).heap[w4a.heap.size]? = some (.cells pg.toArray 42 (0, 0)) := heap_alloc_new w4a _
  replace hP := hP.below hA4
  replace hR := hR.below hA4
  replace hk3 := (hA4.block b3 (Array.getElem?_eq_some_iff.1 hk3).1).trans hk3
  replace hE3 := hE3.below hA4
  replace hb := hb.trans (hA4.mono (by have := hb.size; omega))
  obtain ⟨w4, hw4⟩ : ∃ w', Hid (w4a.alloc (.cells pg.toArray 42) = w') := ⟨_, rfl⟩
  obtain ⟨b4, hb4⟩ : ∃ b', Hid (w4a.heap.size = b') := ⟨_, rfl⟩
  rw [hw4.out] at hk4 hP hR hk3 hE3 hb
  rw [hb4.out] at hk4
  clear hr4 hA4 hr2
  have tokA4 : True := trivial
  have tokS4 : True := trivial
  have hld3 := Lib.hid (run_loadAt_mid (P := Tryd.prog) w4 b3 0 42 pg _ (fun j v hj => by rw [Nat.zero_add, cell_of_row w4 b3 j _ _ _ hk3]; simpa using hj) Tryd.underlying42 rfl (by rw [bpg.page.1]; exact info64))
  have hld4 := Lib.hid (run_loadAt_mid (P := Tryd.prog) w4 b4 0 42 pg _ (fun j v hj => by rw [Nat.zero_add, cell_of_row w4 b4 j _ _ _ hk4]; simpa using hj) Tryd.underlying42 rfl (by rw [bpg.page.1]; exact info64))
  have heq := bpg.eql
  have hsm := bpg.same
  have hL4 : Laid w4 := hLa0.below hB0 hb
  have hnum := num_any n v3 w4 hL4 hE3
  go_wp2_with (first
    | (have _t := tokA4; refine wpList_alloc_arr rfl 42 rfl _ alloc64 ?_; clear tokA4)
    | (have _t := tokS4; refine wpList_store_new rfl 42 _ _ rfl w4a.heap.size rfl pg.toArray rfl rfl 42 _ hz1_pg.out hz3_pg.out hz2_pg.out ?_; rw [hw4.out, hb4.out]; clear tokS4)
    | (have _t := hld3; refine wpList_load_page _ rfl b3 0 rfl _ hld3.out (by rfl) ?_; clear hld3)
    | (have _t := hld4; refine wpList_load_page _ rfl b4 0 rfl _ hld4.out (by rfl) ?_; clear hld4)
    | (go_at_call 12; refine hnum.mono ?_; rintro e w5 ⟨rfl, hb5⟩))
  go_ret3
  have s4 := hb.size
  exact ⟨g, gm, S, T, F, G, rfl, ⟨hP.below hb5, hR.below hb5, hFG, hST, hgS, hyS, hFB, hGB⟩, rfl, by omega, hb.trans (hb5.mono (by omega))⟩

set_option maxRecDepth 100000 in
set_option maxHeartbeats 4000000 in
theorem both_write (hA : Pair B S T F G g gm w) (hn : S.ats.length ≤ 1000000) (hB : B ≤ w.heap.size) (hB0 : 0 < B) (hL : Laid w) (hok : CallOk B w c) (hk : c.kind = 1) :
    Calls Tryd.prog 13 #[.pointer (some ⟨g, 0, none⟩), .pointer (some ⟨gm, 0, none⟩), .agg (callCells c).toArray] w (BothPost B S w) := by
  have hba : Below w.heap.size w (w.alloc (.cells (callCells c).toArray 35)) := (Below.refl _ w).alloc (Nat.le_refl _) _
  have hck : (w.alloc (.cells (callCells c).toArray 35)).heap[w.heap.size]? = some (.cells (callCells c).toArray 35 (0, 0)) := heap_alloc_new w _
  have rc0 : (w.alloc (.cells (callCells c).toArray 35)).cell? ⟨w.heap.size, 0, none⟩ = some (.int .i64 c.kind) := by rw [cell_of_row _ _ 0 _ _ _ hck]; rfl
  have rc1 : (w.alloc (.cells (callCells c).toArray 35)).cell? ⟨w.heap.size, 1, none⟩ = some (.int .i64 c.i) := by rw [cell_of_row _ _ 1 _ _ _ hck]; rfl
  have l0 : (callCells c)[0]? = some (.int .i64 c.kind) := rfl
  have l1 : (callCells c)[1]? = some (.int .i64 c.i) := rfl
  have hb : Below B w (w.alloc (.cells (callCells c).toArray 35)) := hba.mono hB
  have hA' := hA.below hba
  obtain ⟨wa, hwa⟩ : ∃ w', Hid (w.alloc (.cells (callCells c).toArray 35) = w') := ⟨_, rfl⟩
  obtain ⟨bx, hbx⟩ : ∃ b', Hid (w.heap.size = b') := ⟨_, rfl⟩
  rw [hwa.out] at hba hck hb hA'
  rw [hbx.out] at hck
  have hBx : B ≤ bx := by rw [← hbx.out]; exact hB
  have sa : bx < wa.heap.size := (Array.getElem?_eq_some_iff.1 hck).1
  have hFx : ¬ F bx := fun h => by have := hA.p.lt h; rw [hbx.out] at this; omega
  have hGx : ¬ G bx := fun h => by have := hA.r.lt h; rw [hbx.out] at this; omega
  have hLa := hL.below hB0 hb
  have hoka := hok.below hb
  obtain ⟨hP, hR, hFG, hST, hgS, hyS, hFB, hGB⟩ := hA'
  have hgT := hST.good hgS
  have hnT : T.ats.length ≤ 1048576 := by rw [hST.ats]; omega
  have hnS : S.ats.length ≤ 1048576 := by omega
  have hBa : B ≤ wa.heap.size := by omega
  have ck0 : wa.cell? ⟨bx, 0, none⟩ = some (.int .i64 c.kind) := by rw [cell_of_row wa bx 0 _ _ _ hck]; rfl
  have ck1 : wa.cell? ⟨bx, 1, none⟩ = some (.int .i64 c.i) := by rw [cell_of_row wa bx 1 _ _ _ hck]; rfl
  have hLa0 := hL
  clear hba hok hA hLa hoka
  rw [hk] at ck0 rc0 l0
  obtain ⟨cv, hcv⟩ : ∃ cv, Hid (cu8 c.what = cv) := ⟨_, rfl⟩
  have HB : Hid (Tryd.prog.built 42 [(0, cu8 c.what), (1, .int .u8 1)] = some (page2 c.what 1).toArray) := built_two c.what 1
  rw [hcv.out] at HB
  obtain ⟨p1, hp1⟩ : ∃ p, page2 c.what 1 = p := ⟨_, rfl⟩
  have bp1 : BP p1 := hp1 ▸ page2_bytes c.what 1
  rw [hp1] at HB
  clear hp1
  have hdo := pd_write hP hgS hnS c.i p1 bp1.page
  obtain ⟨hw2, hST'⟩ := hST.write c.i p1
  have hfm := write_firm S c.i p1
  have hct := write_count S c.i p1
  have hg' := good_write hgS c.i p1
  have hy' := byt_write hyS c.i bp1
  obtain ⟨n, hnn⟩ : ∃ n, (writeOf S c.i p1).2 = n := ⟨_, rfl⟩
  rw [hnn] at hdo hw2
  go_enter Tryd.func13, Tryd.ntmps13
  go_wp2
  try rw [hwa.out, hbx.out]
  have ck1' : Hid (wa.cell? ⟨bx, 1, none⟩ = some (.int .i64 c.i)) := ck1
  clear ck0 ck1 rc0 rc1 l0 l1
  refine wp_region_held (S := fun w' => w'.heap[bx]? = some (.cells (callCells c).toArray 35 (0, 0))) (by kernel_rfl) ?_
  change wpAnyH _ _ _ _ _ _ _ _ (World.drew _)
  have hbd : Below wa.heap.size wa wa.drew := ⟨rfl, rfl, rfl, Nat.le_refl _, fun _ _ => rfl⟩
  replace hck : wa.drew.heap[bx]? = some (.cells (callCells c).toArray 35 (0, 0)) := hck
  have hP1 := hP.below hbd
  have hR1 := hR.below hbd
  have hb1 := hb.trans (hbd.mono hBa)
  replace hdo := pd_write hP1 hgS hnS c.i p1 bp1.page
  rw [hnn] at hdo
  clear hnn
  clear hP hR hb hbd ck1'
  generalize wa.drew = w1 at hck hP1 hR1 hb1 hdo ⊢
  refine wpAnyH_take (i := 0) (v := .pointer (some ⟨g, 0, none⟩)) rfl (by kernel_rfl) (by kernel_rfl) (by kernel_rfl) (fun _ _ _ h => h) (Or.inl ⟨by rfl, ?_⟩) hck ?_
  · intro w' _; go_simp
  try simp only [List.getElem_toArray, List.getElem_cons_zero, Act.put, List.setIfInBounds_toArray, List.set]
  refine wpAnyH_take (i := 1) (v := .pointer (some ⟨gm, 0, none⟩)) rfl (by kernel_rfl) (by kernel_rfl) (by kernel_rfl) (fun _ _ _ h => h) (Or.inl ⟨by rfl, ?_⟩) hck ?_
  · intro w' _; go_simp
  try simp only [List.getElem_toArray, List.getElem_cons_succ, List.getElem_cons_zero, Act.put, List.setIfInBounds_toArray, List.set]
  refine wpAnyH_take (i := 2) (v := .pointer (some ⟨g, 0, none⟩)) rfl (by kernel_rfl) (by kernel_rfl) (by kernel_rfl) (fun _ _ _ h => h) (Or.inl ⟨by rfl, ?_⟩) hck ?_
  · intro w' _; go_simp
  try simp only [List.getElem_toArray, List.getElem_cons_succ, List.getElem_cons_zero, Act.put, List.setIfInBounds_toArray, List.set]
  refine wpAnyH_take (i := 3) (v := .pointer (some ⟨bx, 1, none⟩)) rfl (by kernel_rfl) (by kernel_rfl) (by kernel_rfl) (fun _ _ _ h => h) (Or.inl ⟨by rfl, ?_⟩) hck ?_
  · intro w' _; go_simp
  try simp only [List.getElem_toArray, List.getElem_cons_succ, List.getElem_cons_zero, Act.put, List.setIfInBounds_toArray, List.set]
  refine wpAnyH_take (i := 4) (v := (.int .i64 c.i)) rfl (by kernel_rfl) (by kernel_rfl) (by kernel_rfl) (fun _ _ _ h => h) (Or.inl ⟨by rfl, ?_⟩) hck ?_
  · intro w' hS
    have hc' : w'.cell? ⟨bx, 1, none⟩ = some (.int .i64 c.i) := by rw [cell_of_row w' bx 1 _ _ _ hS]; exact rfl
    clear hS
    go_simp
  try simp only [List.getElem_toArray, List.getElem_cons_succ, List.getElem_cons_zero, Act.put, List.setIfInBounds_toArray, List.set]
  refine wpAnyH_take (i := 5) (v := .pointer (some ⟨bx, 2, none⟩)) rfl (by kernel_rfl) (by kernel_rfl) (by kernel_rfl) (fun _ _ _ h => h) (Or.inl ⟨by rfl, ?_⟩) hck ?_
  · intro w' _; go_simp
  try simp only [List.getElem_toArray, List.getElem_cons_succ, List.getElem_cons_zero, Act.put, List.setIfInBounds_toArray, List.set]
  refine wpAnyH_take (i := 6) (v := cv) rfl (by kernel_rfl) (by kernel_rfl) (by kernel_rfl) (fun _ _ _ h => h) (Or.inl ⟨by rfl, ?_⟩) hck ?_
  · intro w' hS
    have hc' : w'.cell? ⟨bx, 2, none⟩ = some cv := by rw [cell_of_row w' bx 2 _ _ _ hS]; exact congrArg some hcv.out
    clear hS
    go_simp
  try simp only [List.getElem_toArray, List.getElem_cons_succ, List.getElem_cons_zero, Act.put, List.setIfInBounds_toArray, List.set]
  refine wpAnyH_take (i := 7) (v := .agg p1.toArray) rfl (by kernel_rfl) (by kernel_rfl) (by kernel_rfl) (fun _ _ _ h => h) (Or.inl ⟨by rfl, ?_⟩) hck ?_
  · intro w' _; exact exec_build w' rfl (Eq.trans (congrArg (Program.built _ _) (by simp [Act.eval])) HB.out)
  try simp only [List.getElem_toArray, List.getElem_cons_succ, List.getElem_cons_zero, Act.put, List.setIfInBounds_toArray, List.set]
  refine wpAnyH_take (i := 10) (v := .pointer (some ⟨gm, 0, none⟩)) rfl (by kernel_rfl) (by kernel_rfl) (by kernel_rfl) (fun _ _ _ h => h) (Or.inl ⟨by rfl, ?_⟩) hck ?_
  · intro w' _; go_simp
  try simp only [List.getElem_toArray, List.getElem_cons_succ, List.getElem_cons_zero, Act.put, List.setIfInBounds_toArray, List.set]
  refine wpAnyH_take (i := 11) (v := .pointer (some ⟨bx, 1, none⟩)) rfl (by kernel_rfl) (by kernel_rfl) (by kernel_rfl) (fun _ _ _ h => h) (Or.inl ⟨by rfl, ?_⟩) hck ?_
  · intro w' _; go_simp
  try simp only [List.getElem_toArray, List.getElem_cons_succ, List.getElem_cons_zero, Act.put, List.setIfInBounds_toArray, List.set]
  refine wpAnyH_take (i := 12) (v := (.int .i64 c.i)) rfl (by kernel_rfl) (by kernel_rfl) (by kernel_rfl) (fun _ _ _ h => h) (Or.inl ⟨by rfl, ?_⟩) hck ?_
  · intro w' hS
    have hc' : w'.cell? ⟨bx, 1, none⟩ = some (.int .i64 c.i) := by rw [cell_of_row w' bx 1 _ _ _ hS]; exact rfl
    clear hS
    go_simp
  try simp only [List.getElem_toArray, List.getElem_cons_succ, List.getElem_cons_zero, Act.put, List.setIfInBounds_toArray, List.set]
  refine wpAnyH_take (i := 13) (v := .pointer (some ⟨bx, 2, none⟩)) rfl (by kernel_rfl) (by kernel_rfl) (by kernel_rfl) (fun _ _ _ h => h) (Or.inl ⟨by rfl, ?_⟩) hck ?_
  · intro w' _; go_simp
  try simp only [List.getElem_toArray, List.getElem_cons_succ, List.getElem_cons_zero, Act.put, List.setIfInBounds_toArray, List.set]
  refine wpAnyH_take (i := 14) (v := cv) rfl (by kernel_rfl) (by kernel_rfl) (by kernel_rfl) (fun _ _ _ h => h) (Or.inl ⟨by rfl, ?_⟩) hck ?_
  · intro w' hS
    have hc' : w'.cell? ⟨bx, 2, none⟩ = some cv := by rw [cell_of_row w' bx 2 _ _ _ hS]; exact congrArg some hcv.out
    clear hS
    go_simp
  try simp only [List.getElem_toArray, List.getElem_cons_succ, List.getElem_cons_zero, Act.put, List.setIfInBounds_toArray, List.set]
  refine wpAnyH_take (i := 15) (v := .agg p1.toArray) rfl (by kernel_rfl) (by kernel_rfl) (by kernel_rfl) (fun _ _ _ h => h) (Or.inl ⟨by rfl, ?_⟩) hck ?_
  · intro w' _; exact exec_build w' rfl (Eq.trans (congrArg (Program.built _ _) (by simp [Act.eval])) HB.out)
  try simp only [List.getElem_toArray, List.getElem_cons_succ, List.getElem_cons_zero, Act.put, List.setIfInBounds_toArray, List.set]
  refine wpAnyH_one 8 _ rfl (by kernel_rfl) (by rfl) (fun K hK => ?_)
  go_simp
  refine hdo.mono ?_
  rintro e w2 ⟨v2, rfl, hT⟩
  have s1 := hb1.size
  obtain ⟨F2, hE2, hP2, hR2, hFG2, hFB2, ho2⟩ := turn_first hT hR1 hFG hFB (by omega)
  have hck2 := (ho2.block bx (Array.getElem?_eq_some_iff.1 hck).1 hFx).trans hck
  have hb2 := hb1.trans (ho2.base (by omega) hFB)
  refine hK _ _ hck2 ?_
  clear hK K
  try simp only [List.getElem_toArray, List.getElem_cons_succ, List.getElem_cons_zero, Act.put, List.setIfInBounds_toArray, List.set]
  clear hck hdo hT hP1 hR1 hb1 hFG hFB ho2
  have hck := hck2
  clear hck2
  have s2 := hb2.size
  refine wpAnyH_one 9 _ rfl (by kernel_rfl) (by rfl) (fun K hK => ?_)
  go_simp
  refine (num_any _ v2 w2 (hLa0.below hB0 hb2) hE2).mono ?_
  rintro e w3 ⟨rfl, hb3⟩
  have hck3 := (hb3.block bx (Array.getElem?_eq_some_iff.1 hck).1).trans hck
  have hP3 := hP2.below hb3
  have hR3 := hR2.below hb3
  have hb03 := hb2.trans (hb3.mono (by omega))
  have s3 := hb03.size
  have hdr := rd_write hR3 hgT hnT c.i p1 bp1.page
  rw [hw2] at hdr
  refine hK _ _ hck3 ?_
  clear hK K
  try simp only [List.getElem_toArray, List.getElem_cons_succ, List.getElem_cons_zero, Act.put, List.setIfInBounds_toArray, List.set]
  clear hck hE2 hP2 hR2 hb2 hb3
  have hck := hck3
  clear hck3
  refine wpAnyH_one 16 _ rfl (by kernel_rfl) (by rfl) (fun K hK => ?_)
  go_simp
  refine hdr.mono ?_
  rintro e w4 ⟨rfl, hT⟩
  obtain ⟨G2, hR4, hP4, hFG4, hGB4, ho4⟩ := turn_second hT hP3 hFG2 hGB (by omega)
  have hck4 := (ho4.block bx (Array.getElem?_eq_some_iff.1 hck).1 hGx).trans hck
  have hb4 := hb03.trans (ho4.base (by omega) hGB)
  refine hK _ _ hck4 ?_
  clear hK K
  try simp only [List.getElem_toArray, List.getElem_cons_succ, List.getElem_cons_zero, Act.put, List.setIfInBounds_toArray, List.set]
  clear hck hdr hT hP3 hR3 hb03 ho4
  have hck := hck4
  clear hck4
  refine wpAnyH_take (i := 17) (v := .bool true) rfl (by kernel_rfl) (by kernel_rfl) (by kernel_rfl) (fun _ _ _ h => h) (Or.inl ⟨by rfl, ?_⟩) hck ?_
  · intro w' _; go_simp
  try simp only [List.getElem_toArray, List.getElem_cons_succ, List.getElem_cons_zero, Act.put, List.setIfInBounds_toArray, List.set]
  refine wpAnyH_take (i := 18) (v := .pointer (some ⟨g, 0, none⟩)) rfl (by kernel_rfl) (by kernel_rfl) (by kernel_rfl) (fun _ _ _ h => h) (Or.inl ⟨by rfl, ?_⟩) hck ?_
  · intro w' _; go_simp
  try simp only [List.getElem_toArray, List.getElem_cons_succ, List.getElem_cons_zero, Act.put, List.setIfInBounds_toArray, List.set]
  refine wpAnyH_take (i := 19) (v := .pointer (some ⟨gm, 0, none⟩)) rfl (by kernel_rfl) (by kernel_rfl) (by kernel_rfl) (fun _ _ _ h => h) (Or.inl ⟨by rfl, ?_⟩) hck ?_
  · intro w' _; go_simp
  try simp only [List.getElem_toArray, List.getElem_cons_succ, List.getElem_cons_zero, Act.put, List.setIfInBounds_toArray, List.set]
  refine wpAnyH_take (i := 20) (v := .bool true) rfl (by kernel_rfl) (by kernel_rfl) (by kernel_rfl) (fun _ _ _ h => h) (Or.inl ⟨by rfl, ?_⟩) hck ?_
  · intro w' _; go_simp
  try simp only [List.getElem_toArray, List.getElem_cons_succ, List.getElem_cons_zero, Act.put, List.setIfInBounds_toArray, List.set]
  refine wpAnyH_done (by kernel_rfl) ?_ _
  go_wp2
  go_ret3
  exact ⟨g, gm, _, _, F2, G2, rfl, ⟨hP4, hR4, hFG4, hST', hg', hy', hFB2, hGB4⟩, by rw [hfm], hct, hb4⟩

set_option maxRecDepth 100000 in
set_option maxHeartbeats 4000000 in
theorem both_flush (hA : Pair B S T F G g gm w) (hn : S.ats.length ≤ 1000000) (hB : B ≤ w.heap.size) (hB0 : 0 < B) (hL : Laid w) (hok : CallOk B w c) (hk : c.kind = 2) :
    Calls Tryd.prog 13 #[.pointer (some ⟨g, 0, none⟩), .pointer (some ⟨gm, 0, none⟩), .agg (callCells c).toArray] w (BothPost B S w) := by
  have hba : Below w.heap.size w (w.alloc (.cells (callCells c).toArray 35)) := (Below.refl _ w).alloc (Nat.le_refl _) _
  have hck : (w.alloc (.cells (callCells c).toArray 35)).heap[w.heap.size]? = some (.cells (callCells c).toArray 35 (0, 0)) := heap_alloc_new w _
  have rc0 : (w.alloc (.cells (callCells c).toArray 35)).cell? ⟨w.heap.size, 0, none⟩ = some (.int .i64 c.kind) := by rw [cell_of_row _ _ 0 _ _ _ hck]; rfl
  have rc1 : (w.alloc (.cells (callCells c).toArray 35)).cell? ⟨w.heap.size, 1, none⟩ = some (.int .i64 c.i) := by rw [cell_of_row _ _ 1 _ _ _ hck]; rfl
  have l0 : (callCells c)[0]? = some (.int .i64 c.kind) := rfl
  have l1 : (callCells c)[1]? = some (.int .i64 c.i) := rfl
  have hb : Below B w (w.alloc (.cells (callCells c).toArray 35)) := hba.mono hB
  have hA' := hA.below hba
  obtain ⟨wa, hwa⟩ : ∃ w', Hid (w.alloc (.cells (callCells c).toArray 35) = w') := ⟨_, rfl⟩
  obtain ⟨bx, hbx⟩ : ∃ b', Hid (w.heap.size = b') := ⟨_, rfl⟩
  rw [hwa.out] at hba hck hb hA'
  rw [hbx.out] at hck
  have hBx : B ≤ bx := by rw [← hbx.out]; exact hB
  have sa : bx < wa.heap.size := (Array.getElem?_eq_some_iff.1 hck).1
  have hFx : ¬ F bx := fun h => by have := hA.p.lt h; rw [hbx.out] at this; omega
  have hGx : ¬ G bx := fun h => by have := hA.r.lt h; rw [hbx.out] at this; omega
  have hLa := hL.below hB0 hb
  have hoka := hok.below hb
  obtain ⟨hP, hR, hFG, hST, hgS, hyS, hFB, hGB⟩ := hA'
  have hgT := hST.good hgS
  have hnT : T.ats.length ≤ 1048576 := by rw [hST.ats]; omega
  have hnS : S.ats.length ≤ 1048576 := by omega
  have hBa : B ≤ wa.heap.size := by omega
  have ck0 : wa.cell? ⟨bx, 0, none⟩ = some (.int .i64 c.kind) := by rw [cell_of_row wa bx 0 _ _ _ hck]; rfl
  have ck1 : wa.cell? ⟨bx, 1, none⟩ = some (.int .i64 c.i) := by rw [cell_of_row wa bx 1 _ _ _ hck]; rfl
  have hLa0 := hL
  clear hba hok hA hLa hoka
  rw [hk] at ck0 rc0 l0
  have hdo := pd_flush hP hgS hnS
  obtain ⟨hw2, hST'⟩ := hST.flush
  have hfm := flush_firm S
  have hct := flush_count S
  have hg' := good_flush hgS
  have hy' := byt_flush hyS
  obtain ⟨n, hnn⟩ : ∃ n, (flushOf S).2 = n := ⟨_, rfl⟩
  rw [hnn] at hdo hw2
  go_enter Tryd.func13, Tryd.ntmps13
  go_wp2_with (first
    | (rw [hwa.out, hbx.out]; go_at_call 20; refine hdo.mono ?_)
    | (go_at_call 20; refine hdo.mono ?_))
  rintro e w2 ⟨v2, rfl, hT⟩
  obtain ⟨F2, hE2, hP2, hR2, hFG2, hFB2, ho2⟩ := turn_first hT hR hFG hFB (by omega)
  have hb2 := hb.trans (ho2.base (by omega) hFB)
  have s2 := hb2.size
  clear hdo hT hP hR hb hFG hFB ho2 hnn
  go_wp2_with (go_at_call 12; refine (num_any _ v2 w2 (hLa0.below hB0 hb2) hE2).mono ?_)
  rintro e w3 ⟨rfl, hb3⟩
  have hP3 := hP2.below hb3
  have hR3 := hR2.below hb3
  have hb03 := hb2.trans (hb3.mono (by omega))
  have s3 := hb03.size
  have hdr := rd_flush hR3 hgT hnT
  rw [hw2] at hdr
  clear hE2 hP2 hR2 hb2 hb3
  go_wp2_with (go_at_call 27; refine hdr.mono ?_)
  rintro e w4 ⟨rfl, hT⟩
  obtain ⟨G2, hR4, hP4, hFG4, hGB4, ho4⟩ := turn_second hT hP3 hFG2 hGB (by omega)
  have hb4 := hb03.trans (ho4.base (by omega) hGB)
  clear hdr hT hP3 hR3 hb03 ho4
  go_wp2
  go_ret3
  exact ⟨g, gm, _, _, F2, G2, by simp, ⟨hP4, hR4, hFG4, hST', hg', hy', hFB2, hGB4⟩, by rw [hfm], by omega, hb4⟩

set_option maxRecDepth 100000 in
set_option maxHeartbeats 4000000 in
theorem both_fuel (hA : Pair B S T F G g gm w) (hn : S.ats.length ≤ 1000000) (hB : B ≤ w.heap.size) (hB0 : 0 < B) (hL : Laid w) (hok : CallOk B w c) (hk : c.kind = 3) :
    Calls Tryd.prog 13 #[.pointer (some ⟨g, 0, none⟩), .pointer (some ⟨gm, 0, none⟩), .agg (callCells c).toArray] w (BothPost B S w) := by
  have hba : Below w.heap.size w (w.alloc (.cells (callCells c).toArray 35)) := (Below.refl _ w).alloc (Nat.le_refl _) _
  have hck : (w.alloc (.cells (callCells c).toArray 35)).heap[w.heap.size]? = some (.cells (callCells c).toArray 35 (0, 0)) := heap_alloc_new w _
  have rc0 : (w.alloc (.cells (callCells c).toArray 35)).cell? ⟨w.heap.size, 0, none⟩ = some (.int .i64 c.kind) := by rw [cell_of_row _ _ 0 _ _ _ hck]; rfl
  have rc1 : (w.alloc (.cells (callCells c).toArray 35)).cell? ⟨w.heap.size, 1, none⟩ = some (.int .i64 c.i) := by rw [cell_of_row _ _ 1 _ _ _ hck]; rfl
  have l0 : (callCells c)[0]? = some (.int .i64 c.kind) := rfl
  have l1 : (callCells c)[1]? = some (.int .i64 c.i) := rfl
  have hb : Below B w (w.alloc (.cells (callCells c).toArray 35)) := hba.mono hB
  have hA' := hA.below hba
  obtain ⟨wa, hwa⟩ : ∃ w', Hid (w.alloc (.cells (callCells c).toArray 35) = w') := ⟨_, rfl⟩
  obtain ⟨bx, hbx⟩ : ∃ b', Hid (w.heap.size = b') := ⟨_, rfl⟩
  rw [hwa.out] at hba hck hb hA'
  rw [hbx.out] at hck
  have hBx : B ≤ bx := by rw [← hbx.out]; exact hB
  have sa : bx < wa.heap.size := (Array.getElem?_eq_some_iff.1 hck).1
  have hFx : ¬ F bx := fun h => by have := hA.p.lt h; rw [hbx.out] at this; omega
  have hGx : ¬ G bx := fun h => by have := hA.r.lt h; rw [hbx.out] at this; omega
  have hLa := hL.below hB0 hb
  have hoka := hok.below hb
  obtain ⟨hP, hR, hFG, hST, hgS, hyS, hFB, hGB⟩ := hA'
  have hgT := hST.good hgS
  have hnT : T.ats.length ≤ 1048576 := by rw [hST.ats]; omega
  have hnS : S.ats.length ≤ 1048576 := by omega
  have hBa : B ≤ wa.heap.size := by omega
  have ck0 : wa.cell? ⟨bx, 0, none⟩ = some (.int .i64 c.kind) := by rw [cell_of_row wa bx 0 _ _ _ hck]; rfl
  have ck1 : wa.cell? ⟨bx, 1, none⟩ = some (.int .i64 c.i) := by rw [cell_of_row wa bx 1 _ _ _ hck]; rfl
  clear hba hok hA hLa hL
  rw [hk] at ck0 rc0 l0
  have hdo := pd_fuel hP c.i
  have hhi := hoka.hi
  have hlo := hoka.lo
  go_enter Tryd.func13, Tryd.ntmps13
  go_wp2_with (first
    | (rw [hwa.out, hbx.out]; go_at_call 22; refine hdo.mono ?_)
    | (go_at_call 22; refine hdo.mono ?_))
  rintro e w2 ⟨rfl, hP2, ho2⟩
  have hR2 := hR.keep ho2 (fun k h1 h2 => hFG k h2 h1)
  have hb2 := hb.trans (ho2.base (by omega) hFB)
  have hck2 := (ho2.block bx (Array.getElem?_eq_some_iff.1 hck).1 hFx).trans hck
  have ck1b : w2.cell? ⟨bx, 1, none⟩ = some (.int .i64 c.i) := by rw [cell_of_row w2 bx 1 _ _ _ hck2]; rfl
  obtain ⟨vf, va, vw, hD, hFoot⟩ := hR2
  have c3 : w2.cell? ⟨gm, 3, none⟩ = some (.int .i64 T.fuel) := hD.cell 3
  have f3 := hD.thaw 3
  have hD' := hD.setFuel (max c.i (-1))
  have hgr := grown_setCell w2 ⟨gm, 3, none⟩ (.int .i64 (max c.i (-1)))
  have ho3 : Only G w2 (w2.setCell ⟨gm, 3, none⟩ (.int .i64 (max c.i (-1)))) := Only.of_grown hgr (fun k e => (hFoot k).2 (.inl (by simpa using e.symm)))
  have hP3 := hP2.keep ho3 (fun k h1 h2 => hFG k h1 h2)
  have hb3 := hb2.trans (ho3.base (by have := hb2.size; omega) hGB)
  have hg' := good_fuel hgS c.i hhi
  clear hdo hP hR ho2 hP2 hb hck hck2 hD hgr ho3
  by_cases hm : c.i < -1
  · have hm1 : max c.i (-1) = -1 := by omega
    rw [hm1] at hD' hP3 hb3
    have hm2 : ¬ (-1 : Int) < c.i := by omega
    have HM := Lib.hid hm1
    have hS' : Same (fuelOf S c.i) (fuelOf T (-1)) := by have := hST.setFuel c.i; rw [HM.out] at this; exact this
    clear hm1
    go_wp2
    all_goals (go_ret3; exact ⟨g, gm, _, _, F, G, rfl, ⟨hP3, ⟨vf, va, vw, hD', hFoot⟩, hFG, hS', hg', hyS, hFB, hGB⟩, rfl, Nat.le_succ _, hb3⟩)
  · have hm1 : max c.i (-1) = c.i := by omega
    rw [hm1] at hD' hP3 hb3
    have HM := Lib.hid hm1
    clear hm1
    have hS' : Same (fuelOf S c.i) (fuelOf T c.i) := by have := hST.setFuel c.i; rw [HM.out] at this; exact this
    by_cases hm2 : (-1 : Int) < c.i
    · go_wp2
      all_goals (go_ret3; exact ⟨g, gm, _, _, F, G, rfl, ⟨hP3, ⟨vf, va, vw, hD', hFoot⟩, hFG, hS', hg', hyS, hFB, hGB⟩, rfl, Nat.le_succ _, hb3⟩)
    · have hm3 : c.i = -1 := by omega
      rw [hm3] at hD' hP3 hb3 ck1b hg' hS'
      clear hm hm2 HM hhi hlo ck1
      go_wp2
      all_goals (go_ret3; exact ⟨g, gm, _, _, F, G, rfl, ⟨hP3, ⟨vf, va, vw, hD', hFoot⟩, hFG, hS', hg', hyS, hFB, hGB⟩, rfl, Nat.le_succ _, hb3⟩)

set_option maxRecDepth 100000 in
set_option maxHeartbeats 4000000 in
theorem both_crash (hA : Pair B S T F G g gm w) (hn : S.ats.length ≤ 1000000) (hB : B ≤ w.heap.size) (hB0 : 0 < B) (hL : Laid w) (hok : CallOk B w c) (hk : c.kind ≠ 0 ∧ c.kind ≠ 1 ∧ c.kind ≠ 2 ∧ c.kind ≠ 3) :
    Calls Tryd.prog 13 #[.pointer (some ⟨g, 0, none⟩), .pointer (some ⟨gm, 0, none⟩), .agg (callCells c).toArray] w (BothPost B S w) := by
  have hba : Below w.heap.size w (w.alloc (.cells (callCells c).toArray 35)) := (Below.refl _ w).alloc (Nat.le_refl _) _
  have hck : (w.alloc (.cells (callCells c).toArray 35)).heap[w.heap.size]? = some (.cells (callCells c).toArray 35 (0, 0)) := heap_alloc_new w _
  have rc0 : (w.alloc (.cells (callCells c).toArray 35)).cell? ⟨w.heap.size, 0, none⟩ = some (.int .i64 c.kind) := by rw [cell_of_row _ _ 0 _ _ _ hck]; rfl
  have rc1 : (w.alloc (.cells (callCells c).toArray 35)).cell? ⟨w.heap.size, 1, none⟩ = some (.int .i64 c.i) := by rw [cell_of_row _ _ 1 _ _ _ hck]; rfl
  have l0 : (callCells c)[0]? = some (.int .i64 c.kind) := rfl
  have l1 : (callCells c)[1]? = some (.int .i64 c.i) := rfl
  have hb : Below B w (w.alloc (.cells (callCells c).toArray 35)) := hba.mono hB
  have hA' := hA.below hba
  obtain ⟨wa, hwa⟩ : ∃ w', Hid (w.alloc (.cells (callCells c).toArray 35) = w') := ⟨_, rfl⟩
  obtain ⟨bx, hbx⟩ : ∃ b', Hid (w.heap.size = b') := ⟨_, rfl⟩
  rw [hwa.out] at hba hck hb hA'
  rw [hbx.out] at hck
  have hBx : B ≤ bx := by rw [← hbx.out]; exact hB
  have sa : bx < wa.heap.size := (Array.getElem?_eq_some_iff.1 hck).1
  have hFx : ¬ F bx := fun h => by have := hA.p.lt h; rw [hbx.out] at this; omega
  have hGx : ¬ G bx := fun h => by have := hA.r.lt h; rw [hbx.out] at this; omega
  have hLa := hL.below hB0 hb
  have hoka := hok.below hb
  obtain ⟨hP, hR, hFG, hST, hgS, hyS, hFB, hGB⟩ := hA'
  have hgT := hST.good hgS
  have hnT : T.ats.length ≤ 1048576 := by rw [hST.ats]; omega
  have hnS : S.ats.length ≤ 1048576 := by omega
  have hBa : B ≤ wa.heap.size := by omega
  have ck0 : wa.cell? ⟨bx, 0, none⟩ = some (.int .i64 c.kind) := by rw [cell_of_row wa bx 0 _ _ _ hck]; rfl
  have ck1 : wa.cell? ⟨bx, 1, none⟩ = some (.int .i64 c.i) := by rw [cell_of_row wa bx 1 _ _ _ hck]; rfl
  clear hba hok hA hLa hL
  obtain ⟨k0, k1, k2, k3⟩ := hk
  have q0 : (c.kind == 0) = false := by simpa using k0
  have q1 : (c.kind == 1) = false := by simpa using k1
  have q2 : (c.kind == 2) = false := by simpa using k2
  have q3 : (c.kind == 3) = false := by simpa using k3
  obtain ⟨NL, hNL⟩ : ∃ NL, Hid (c.pick.length = NL) := ⟨_, rfl⟩
  have hfm := crash_firm S c.pick
  have hg' := good_crash hgS c.pick
  have hy' := byt_crash hyS c.pick
  have hS' := hST.crash c.pick
  go_enter Tryd.func13, Tryd.ntmps13
  go_wp2
  try rw [hwa.out, hbx.out]
  clear ck0 ck1 rc0 rc1 l0 l1 q0 q1 q2 q3 k0 k1 k2 k3
  refine wp_region_held (S := fun w' => w'.heap[bx]? = some (.cells (callCells c).toArray 35 (0, 0))) (by kernel_rfl) ?_
  change wpAnyH _ _ _ _ _ _ _ _ (World.drew _)
  have hbd : Below wa.heap.size wa wa.drew := ⟨rfl, rfl, rfl, Nat.le_refl _, fun _ _ => rfl⟩
  replace hck : wa.drew.heap[bx]? = some (.cells (callCells c).toArray 35 (0, 0)) := hck
  have hP1 := hP.below hbd
  have hR1 := hR.below hbd
  have hb1 := hb.trans (hbd.mono hBa)
  have hok1 := hoka.below (hbd.mono hBa)
  clear hP hR hb hbd hoka
  have s1 := hb1.size
  generalize wa.drew = w1 at hck hP1 hR1 hb1 hok1 s1 ⊢
  have hdo := pd_crash hP1 hgS hnS c.ap c.cp c.pick (hok1.pick.mono (by omega)) hok1.len
  rw [hNL.out] at hdo
  refine wpAnyH_take (i := 0) (v := .pointer (some ⟨g, 0, none⟩)) rfl (by kernel_rfl) (by kernel_rfl) (by kernel_rfl) (fun _ _ _ h => h) (Or.inl ⟨by rfl, ?_⟩) hck ?_
  · intro w' _; go_simp
  try simp only [List.getElem_toArray, List.getElem_cons_zero, Act.put, List.setIfInBounds_toArray, List.set]
  refine wpAnyH_take (i := 1) (v := .pointer (some ⟨bx, 3, none⟩)) rfl (by kernel_rfl) (by kernel_rfl) (by kernel_rfl) (fun _ _ _ h => h) (Or.inl ⟨by rfl, ?_⟩) hck ?_
  · intro w' _; go_simp
  try simp only [List.getElem_toArray, List.getElem_cons_succ, List.getElem_cons_zero, Act.put, List.setIfInBounds_toArray, List.set]
  refine wpAnyH_take (i := 2) (v := .slice c.ap NL c.cp) rfl (by kernel_rfl) (by kernel_rfl) (by kernel_rfl) (fun _ _ _ h => h) (Or.inl ⟨by rfl, ?_⟩) hck ?_
  · intro w' hS
    have hc' : w'.cell? ⟨bx, 3, none⟩ = some (.slice c.ap NL c.cp) := by rw [cell_of_row w' bx 3 _ _ _ hS, ← hNL.out]; rfl
    clear hS
    go_simp
  try simp only [List.getElem_toArray, List.getElem_cons_succ, List.getElem_cons_zero, Act.put, List.setIfInBounds_toArray, List.set]
  refine wpAnyH_take (i := 4) (v := .pointer (some ⟨gm, 0, none⟩)) rfl (by kernel_rfl) (by kernel_rfl) (by kernel_rfl) (fun _ _ _ h => h) (Or.inl ⟨by rfl, ?_⟩) hck ?_
  · intro w' _; go_simp
  try simp only [List.getElem_toArray, List.getElem_cons_succ, List.getElem_cons_zero, Act.put, List.setIfInBounds_toArray, List.set]
  refine wpAnyH_take (i := 5) (v := .pointer (some ⟨bx, 3, none⟩)) rfl (by kernel_rfl) (by kernel_rfl) (by kernel_rfl) (fun _ _ _ h => h) (Or.inl ⟨by rfl, ?_⟩) hck ?_
  · intro w' _; go_simp
  try simp only [List.getElem_toArray, List.getElem_cons_succ, List.getElem_cons_zero, Act.put, List.setIfInBounds_toArray, List.set]
  refine wpAnyH_take (i := 6) (v := .slice c.ap NL c.cp) rfl (by kernel_rfl) (by kernel_rfl) (by kernel_rfl) (fun _ _ _ h => h) (Or.inl ⟨by rfl, ?_⟩) hck ?_
  · intro w' hS
    have hc' : w'.cell? ⟨bx, 3, none⟩ = some (.slice c.ap NL c.cp) := by rw [cell_of_row w' bx 3 _ _ _ hS, ← hNL.out]; rfl
    clear hS
    go_simp
  try simp only [List.getElem_toArray, List.getElem_cons_succ, List.getElem_cons_zero, Act.put, List.setIfInBounds_toArray, List.set]
  refine wpAnyH_one 3 _ rfl (by kernel_rfl) (by rfl) (fun K hK => ?_)
  go_simp
  refine hdo.mono ?_
  rintro e w2 ⟨v2, rfl, g2, F2, rfl, hP2, hb2, hF2⟩
  have hR2 := hR1.below hb2
  have hck2 := (hb2.block bx (Array.getElem?_eq_some_iff.1 hck).1).trans hck
  have hb02 := hb1.trans (hb2.mono (by omega))
  have s2 := hb02.size
  have hok2 := hok1.below (hb2.mono (by omega))
  have hdr := rd_crash hR2 hgT hnT c.ap c.cp c.pick (hok2.pick.mono (by omega)) hok2.len
  rw [hNL.out] at hdr
  have hFB2 : ∀ k, F2 k → B ≤ k := fun k hk => by have := hF2 k hk; omega
  refine hK _ _ hck2 ?_
  clear hK K
  try simp only [List.getElem_toArray, List.getElem_cons_succ, List.getElem_cons_zero, Act.put, List.setIfInBounds_toArray, List.set]
  clear hck hdo hP1 hR1 hb1 hb2 hok1 hF2
  have hck := hck2
  clear hck2
  refine wpAnyH_one 7 _ rfl (by kernel_rfl) (by rfl) (fun K hK => ?_)
  go_simp
  refine hdr.mono ?_
  rintro e w3 ⟨v3, rfl, g3, F3, rfl, hR3, hb3, hF3⟩
  have hP3 := hP2.below hb3
  have hck3 := (hb3.block bx (Array.getElem?_eq_some_iff.1 hck).1).trans hck
  have hb03 := hb02.trans (hb3.mono (by omega))
  have hFB3 : ∀ k, F3 k → B ≤ k := fun k hk => by have := hF3 k hk; omega
  have hFG3 : ∀ k, F2 k → ¬ F3 k := fun k h1 h2 => by have := hP2.lt h1; have := hF3 k h2; omega
  refine hK _ _ hck3 ?_
  clear hK K
  try simp only [List.getElem_toArray, List.getElem_cons_succ, List.getElem_cons_zero, Act.put, List.setIfInBounds_toArray, List.set]
  clear hck hdr hP2 hR2 hb02 hb3 hok2 hF3
  have hck := hck3
  clear hck3
  refine wpAnyH_take (i := 8) (v := .pointer (some ⟨g2, 0, none⟩)) rfl (by kernel_rfl) (by kernel_rfl) (by kernel_rfl) (fun _ _ _ h => h) (Or.inl ⟨by rfl, ?_⟩) hck ?_
  · intro w' _; go_simp
  try simp only [List.getElem_toArray, List.getElem_cons_succ, List.getElem_cons_zero, Act.put, List.setIfInBounds_toArray, List.set]
  refine wpAnyH_take (i := 9) (v := .pointer (some ⟨g3, 0, none⟩)) rfl (by kernel_rfl) (by kernel_rfl) (by kernel_rfl) (fun _ _ _ h => h) (Or.inl ⟨by rfl, ?_⟩) hck ?_
  · intro w' _; go_simp
  try simp only [List.getElem_toArray, List.getElem_cons_succ, List.getElem_cons_zero, Act.put, List.setIfInBounds_toArray, List.set]
  refine wpAnyH_take (i := 10) (v := .bool true) rfl (by kernel_rfl) (by kernel_rfl) (by kernel_rfl) (fun _ _ _ h => h) (Or.inl ⟨by rfl, ?_⟩) hck ?_
  · intro w' _; go_simp
  try simp only [List.getElem_toArray, List.getElem_cons_succ, List.getElem_cons_zero, Act.put, List.setIfInBounds_toArray, List.set]
  refine wpAnyH_done (by kernel_rfl) ?_ _
  go_wp2
  go_ret3
  exact ⟨g2, g3, _, _, F2, F3, rfl, ⟨hP3, hR3, hFG3, hS', hg', hy', hFB2, hFB3⟩, hfm, by simp [crashOf], hb03⟩

theorem both_any (hA : Pair B S T F G g gm w) (hn : S.ats.length ≤ 1000000) (hB : B ≤ w.heap.size) (hB0 : 0 < B) (hL : Laid w) (hok : CallOk B w c) :
    Calls Tryd.prog 13 #[.pointer (some ⟨g, 0, none⟩), .pointer (some ⟨gm, 0, none⟩), .agg (callCells c).toArray] w (BothPost B S w) := by
  by_cases h0 : c.kind = 0
  · exact both_read hA hn hB hB0 hL hok h0
  by_cases h1 : c.kind = 1
  · exact both_write hA hn hB hB0 hL hok h1
  by_cases h2 : c.kind = 2
  · exact both_flush hA hn hB hB0 hL hok h2
  by_cases h3 : c.kind = 3
  · exact both_fuel hA hn hB hB0 hL hok h3
  exact both_crash hA hn hB hB0 hL hok ⟨h0, h1, h2, h3⟩
end
end Go.Proofs.YtbmpbcnoclhhgaaDoor
