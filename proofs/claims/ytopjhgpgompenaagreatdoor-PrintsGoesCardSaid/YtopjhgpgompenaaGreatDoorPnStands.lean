/-
  Law 08's stands.
-/
import Derived.Test.YtopjhgpgompenaaGreatDoorPnLaw
set_option linter.unusedSimpArgs false
set_option linter.unusedVariables false
namespace Go.Proofs.YtopjhgpgompenaaGreatDoor
open Go.RowKit Sh Go.Maps Go.Extern.Stop Go.Stop Go.Extern

def dg1 (a : UInt8) : List UInt8 := a :: List.replicate 31 0
theorem built_dg1 (a : UInt8) : Tryz.prog.built 71 [(0, cu8 a)] = some ((dg1 a).map cu8).toArray := by kernel_rfl
theorem allocDg (w : World) : (Instr.alloc 71 true (.tuple #[])).run Tryz.prog w = .ok (.pointer (some ⟨w.heap.size, 0, none⟩)) (w.alloc (.cells ((List.replicate 32 (0 : UInt8)).map cu8).toArray 71)) := by kernel_rfl
theorem wpList_bld1 {ops : Array Oper} {Q : Exit → Act → World → Prop} {a : Act} {w : World} {o : Oper} {rest : List Oper} (T : TypeId) (x : Operand) (ho : o.op = .build T #[(0, x)]) (v : Value) (hx : a.eval x = v) (p : Array Value)
    (hb : Tryz.prog.built T [(0, v)] = some p) (hw : Region.wanted o (yielded ops a.tmps) = true) (h : wpList Tryz.prog ops Q rest (a.put o.dst (.agg p)) w) : wpList Tryz.prog ops Q (o :: rest) a w := by
  refine wpList_val hw (exec_build w ho ?_) h
  have e : ((#[(0, x)] : Array (Nat × Operand)).map fun (i, x) => (i, a.eval x)).toList = [(0, v)] := by simp [hx]
  rw [e]; exact hb
theorem wpList_bldE {ops : Array Oper} {Q : Exit → Act → World → Prop} {a : Act} {w : World} {o : Oper} {rest : List Oper} (x y z : Operand) (ho : o.op = .build 73 #[(0, x), (1, y), (2, z)]) (v u t : Value) (hx : a.eval x = v) (hy : a.eval y = u) (hz : a.eval z = t) (p : Array Value)
    (hb : Tryz.prog.built 73 [(0, v), (1, u), (2, t)] = some p) (hw : Region.wanted o (yielded ops a.tmps) = true) (h : wpList Tryz.prog ops Q rest (a.put o.dst (.agg p)) w) : wpList Tryz.prog ops Q (o :: rest) a w := by
  refine wpList_val hw (exec_build w ho ?_) h
  have e : ((#[(0, x), (1, y), (2, z)] : Array (Nat × Operand)).map fun (i, x) => (i, a.eval x)).toList = [(0, v), (1, u), (2, t)] := by simp [hx, hy, hz]
  rw [e]; exact hb
def FrV (x : Value) (w : World) (e : Ending) (w' : World) : Prop := ∃ v, e = .returned (.tuple #[x, v]) ∧ ErrV w' 0 v ∧ Below w.heap.size w w'
def eS1 : Ent := ⟨dg1 7, 3, 1⟩
def esA0 : List Ent := List.replicate 4 noE
def esA1 : List Ent := esA0.set 3 (normE eS1)
theorem eS1_ok : EntOk eS1 := ⟨rfl, by decide, by decide⟩
theorem lkA0 : lookL fitO esA0 4 (homeD (dg1 7)) = some 3 := by decide +kernel
theorem lkA1 : lookL (fitF (dg1 7)) esA1 4 (homeD (dg1 7)) = some 3 := by decide +kernel
theorem gtA1 : esA1.getD 3 noE = eS1 := rfl
attribute [local irreducible] bk1 bk0
set_option maxRecDepth 100000 in
set_option maxHeartbeats 16000000 in
theorem stands8_any (w : World) : Calls Tryz.prog 34 #[] w (RetP (.bool true) w) := by
  obtain ⟨hT0, _, ht0⟩ := ta300 4 (by omega)
  have Hfr : Hid (Calls Tryz.prog 43 #[.int .i64 4] w (TFreshP 4 w)) := fresh8_any 4 (by omega) (by omega) w w (Below.refl _ _)
  have HT0 : Hid (Ta (bk1 300 100) 3 4 esA0) := hT0
  have Ht0 := Lib.hid ht0
  obtain ⟨dv, Hdv⟩ : ∃ dv : List Value, Hid (dv = (dg1 7).map cu8) := ⟨_, rfl⟩
  have hdV : digV (dg1 7) = .agg dv.toArray := by rw [Hdv.out]; rfl
  have hdl : dv.length = 32 := by rw [Hdv.out]; rfl
  have HB1 : Hid (Tryz.prog.built 71 [(0, .int .u8 7)] = some dv.toArray) := by
    have := built_dg1 7
    rw [cu8P] at this
    rw [Hdv.out]; exact this
  obtain ⟨ev, Hev⟩ : ∃ ev : List Value, Hid (ev = entC eS1) := ⟨_, rfl⟩
  have heV : entV eS1 = .agg ev.toArray := by rw [Hev.out]; rfl
  have HB2 : Hid (Tryz.prog.built 73 [(0, .agg dv.toArray), (1, .int .i64 3), (2, .int .i64 1)] = some ev.toArray) := by
    have := built_ent dv hdl 3 1
    have e : entC eS1 = dv ++ [Value.int .i64 3, Value.int .i64 1] := by rw [Hdv.out]; rfl
    rw [Hev.out, e]; exact this
  have HB3 := HB2
  have heq : ∀ W : World, (binOp .eql 73 (.agg ev.toArray) (.agg ev.toArray)).run Tryz.prog W = .ok (.bool true) W := fun W => by
    rw [Hev.out, eqEnt eS1 eS1 rfl rfl W, decide_eq_true rfl]
  have hdi : Hid ((Tryz.prog.info? 71).map (·.size) = some dv.toArray.size) := by rw [List.size_toArray, hdl]; exact info32
  have hdi2 : Hid ((Tryz.prog.info? 71).map (·.size) = some dv.length) := by rw [hdl]; exact info32
  obtain ⟨z32, Hz32⟩ : ∃ z32 : Array Value, Hid (z32 = ((List.replicate 32 (0 : UInt8)).map cu8).toArray) := ⟨_, rfl⟩
  have hald : ∀ w : World, (Instr.alloc 71 true (.tuple #[])).run Tryz.prog w = .ok (.pointer (some ⟨w.heap.size, 0, none⟩)) (w.alloc (.cells z32 71)) := by rw [Hz32.out]; exact allocDg
  have hdz : Hid (z32.size = dv.toArray.size) := by rw [Hz32.out, List.size_toArray, List.size_toArray, hdl]; rfl
  have hd1 : Hid (dv.toArray.all (·.oneCell') = true) := by rw [Hdv.out]; exact bytes_one _
  obtain ⟨zn, Hzn⟩ : ∃ zn : Array Value, Hid (zn = (entC noE).toArray) := ⟨_, rfl⟩
  have hale : ∀ w : World, (Instr.alloc 73 true (.tuple #[])).run Tryz.prog w = .ok (.pointer (some ⟨w.heap.size, 0, none⟩)) (w.alloc (.cells zn 73)) := by rw [Hzn.out]; exact allocEnt
  have hel : ev.length = 34 := by rw [Hev.out]; rfl
  have hei : Hid ((Tryz.prog.info? 73).map (·.size) = some ev.toArray.size) := by rw [List.size_toArray, hel]; exact infoEnt
  have hei2 : Hid ((Tryz.prog.info? 73).map (·.size) = some ev.length) := by rw [hel]; exact infoEnt
  have hez : Hid (zn.size = ev.toArray.size) := by rw [Hzn.out, List.size_toArray, List.size_toArray, hel]; rfl
  have he1 : Hid (ev.toArray.all (·.oneCell') = true) := by rw [Hev.out]; exact all_oneCell_toArray (entC_one eS1)
  have HdV := Lib.hid hdV; have HeV := Lib.hid heV; have Heq := Lib.hid heq
  clear hT0 ht0 hdV heV hdl hel heq
  go_enter Tryz.func34, Tryz.ntmps34
  go_wp2_with (first
    | (go_at_call 43; refine Hfr.out.mono ?_))
  rintro e w1 ⟨gd, g, x, rfl, hX1⟩
  have hT : (x, tabO g 3 4) ∈ [(x, tabO g 3 4)] := by simp
  go_upto_region 3 with (first
    | (refine wpList_bld1 71 (.const (.int .u8 7)) rfl _ rfl _ HB1.out (by rfl) ?_)
    | (refine wpList_alloc_arr rfl 71 rfl _ hald ?_)
    | (refine wpList_store_new rfl 71 _ _ rfl w1.heap.size rfl dv.toArray rfl rfl 71 _ hdi.out hdz.out hd1.out ?_))
  have hba : Below w1.heap.size w1 (w1.alloc (.cells dv.toArray 71)) := (Below.refl _ _).alloc (Nat.le_refl _) _
  have hx2 := hX1.holdsP (o := .cells dv.toArray 71 (0, 0)) (k := w1.heap.size) hba (Nat.le_refl _) (heap_alloc_new w1 _)
  generalize w1.alloc (.cells dv.toArray 71) = w2 at hba hx2 ⊢
  obtain ⟨c, hc⟩ : ∃ c, w1.heap.size = c := ⟨_, rfl⟩
  rw [hc] at hx2 ⊢
  obtain ⟨T, hTe⟩ : ∃ T, [(c, Obj.cells dv.toArray 71 (0, 0)), (x, tabO g 3 4)] = T := ⟨_, rfl⟩
  have hTx : (x, tabO g 3 4) ∈ T := by rw [← hTe]; simp
  have hTc : (c, Obj.cells dv.toArray 71 (0, 0)) ∈ T := by rw [← hTe]; simp
  rw [hTe] at hx2
  have HTc := Lib.hid hTc
  have hc2 := hx2.at_ hTc
  have hfr := hx2.pFree hTx HT0.out (by omega) (by omega) (by omega) (dg1 7) rfl
  rw [HdV.out, lkA0] at hfr
  have Hfr2 : Hid (Calls Tryz.prog 37 #[.pointer (some ⟨x, 0, none⟩), .agg dv.toArray] w2 (FrP 3 0 w2)) := hfr
  have HX2 := Lib.hid hx2
  clear hba hc hX1 Hfr hfr hx2 hTe HB1 hT hTc hald hdz hd1
  go_wp2_with (first
    | (refine wpList_load_row rfl 71 _ rfl c rfl 71 dv.toArray (0, 0) _ hc2 Tryz.underlying71 rfl hdi.out ?_)
    | (go_at_call 37; refine Hfr2.out.mono ?_))
  rintro e w3 ⟨v3, rfl, hE3, hb3⟩
  obtain rfl := ErrV.zero hE3
  have hX3 := HX2.out.below hb3
  have hc3 := hX3.at_ HTc.out
  obtain ⟨t, hS, hst⟩ := hX3.pSet hTx HT0.out (by omega) (by omega) (i := 3) (by omega) eS1_ok (by rw [Ht0.out]; simp)
  rw [HeV.out] at hst
  have Hst : Hid (Calls Tryz.prog 42 #[.pointer (some ⟨x, 0, none⟩), .int .i64 3, .agg ev.toArray] w3 (PSetP 0 (fun w' => OwnX { bk1 300 100 with txn := t } gd g T w w'))) := hst
  have HTa : Hid (Ta { bk1 300 100 with txn := t } 3 4 esA1) := hS.ta
  clear hE3 hb3 hX3 hc2 Hfr2 HX2 hS hst
  go_wp2_with (first
    | (refine wpList_load_row rfl 71 _ rfl c rfl 71 dv.toArray (0, 0) _ hc3 Tryz.underlying71 rfl hdi.out ?_)
    | (refine wpList_bldE (.tmp 25) (.const (.int .i64 3)) (.const (.int .i64 1)) rfl _ _ _ rfl rfl rfl _ HB2.out (by rfl) ?_)
    | (go_at_call 42; refine Hst.out.mono ?_))
  rintro e w4 ⟨v4, rfl, hE4, hX4⟩
  obtain rfl := ErrV.zero hE4
  have hc4 := hX4.at_ HTc.out
  have hfd := hX4.pFind hTx HTa.out (by omega) (by omega) (by omega) (dg1 7) rfl
  rw [HdV.out, lkA1] at hfd
  have Hfd : Hid (Calls Tryz.prog 36 #[.pointer (some ⟨x, 0, none⟩), .agg dv.toArray] w4 (LkP 3 true 0 w4)) := hfd
  have HX4 := Lib.hid hX4
  clear hE4 hX4 hc3 Hst hfd HB2
  go_wp2_with (first
    | (refine wpList_load_row rfl 71 _ rfl c rfl 71 dv.toArray (0, 0) _ hc4 Tryz.underlying71 rfl hdi.out ?_)
    | (go_at_call 36; refine Hfd.out.mono ?_))
  rintro e w5 ⟨v5, rfl, hE5, hb5⟩
  obtain rfl := ErrV.zero hE5
  have hX5 := HX4.out.below hb5
  have hgt := hX5.pGet hTx HTa.out (by omega) (by omega) (i := 3) (by omega)
  rw [gtA1] at hgt
  have hgt2 : PGetP (getE eS1).1 (getE eS1).2 w5 = PGetP eS1 0 w5 := rfl
  rw [hgt2] at hgt
  unfold PGetP at hgt
  rw [HeV.out] at hgt
  have Hgt : Hid (Calls Tryz.prog 35 #[.pointer (some ⟨x, 0, none⟩), .int .i64 3] w5 (FrV (.agg ev.toArray) w5)) := hgt
  have HX5 := Lib.hid hX5
  clear hE5 hb5 hX5 hc4 Hfd hgt hgt2 HX4
  go_wp2_with (first
    | (go_at_call 35; refine Hgt.out.mono ?_))
  rintro e w6 ⟨v6, rfl, hE6, hb6⟩
  obtain rfl := ErrV.zero hE6
  have hX6 := HX5.out.below hb6
  clear hE6 hb6 HX5 Hgt
  go_upto_region 7 with (first
    | (refine wpList_alloc_arr rfl 73 rfl _ hale ?_)
    | (refine wpList_store_new rfl 73 _ _ rfl w6.heap.size rfl ev.toArray rfl rfl 73 _ hei.out hez.out he1.out ?_))
  have hba : Below w6.heap.size w6 (w6.alloc (.cells ev.toArray 73)) := (Below.refl _ _).alloc (Nat.le_refl _) _
  have hx1 : (w6.alloc (.cells ev.toArray 73)).heap[w6.heap.size]? = some (.cells ev.toArray 73 (0, 0)) := heap_alloc_new w6 _
  have hX7 := hX6.below hba
  generalize w6.alloc (.cells ev.toArray 73) = w7 at hba hx1 hX7 ⊢
  obtain ⟨k1, hk1⟩ : ∃ k1, w6.heap.size = k1 := ⟨_, rfl⟩
  rw [hk1] at hx1 ⊢
  have hc7 := hX7.at_ HTc.out
  have hl1 := Lib.hid (run_loadAt_mid (P := Tryz.prog) w7 k1 0 73 ev _ (fun j v hj => by rw [Nat.zero_add, cell_of_row w7 k1 j _ _ _ hx1]; simpa using hj) Tryz.underlying73 rfl hei2.out)
  have hl2 := Lib.hid (run_loadAt_mid (P := Tryz.prog) w7 c 0 71 dv _ (fun j v hj => by rw [Nat.zero_add, cell_of_row w7 c j _ _ _ hc7]; simpa using hj) Tryz.underlying71 rfl hdi2.out)
  have Hbel := Lib.hid hX7.bel
  have heq := Heq.out
  clear hk1 hba hX6 hX7 hx1 hc7 HTa HT0 Ht0
  go_wp2_with (first
    | (go_at_call 41; refine (num_nil08 _).mono ?_))
  iterate 3
    rintro e w' ⟨rfl, rfl⟩
    go_wp2_with (go_at_call 41; refine (num_nil08 _).mono ?_)
  rintro e w' ⟨rfl, rfl⟩
  go_wp2_with (first
    | (have _t := hl1; refine wpList_load_ent _ rfl k1 0 rfl _ hl1.out (by rfl) ?_; clear hl1)
    | (have _t := hl2; refine wpList_load_dig _ rfl c 0 rfl _ hl2.out (by rfl) ?_; clear hl2)
    | (have _t := HB3; refine wpList_bldE (.tmp 63) (.const (.int .i64 3)) (.const (.int .i64 1)) rfl _ _ _ rfl rfl rfl _ HB3.out (by rfl) ?_; clear HB3))
  go_ret
  exact ⟨rfl, Hbel.out⟩
end Go.Proofs.YtopjhgpgompenaaGreatDoor
