/-
  'PrintsFills': its walk.
-/
import Derived.Test.YtopjhgpgompenaaGreatDoorPnFillM
set_option linter.unusedSimpArgs false
set_option linter.unusedVariables false
namespace Go.Proofs.YtopjhgpgompenaaGreatDoor
open Go.RowKit Sh Go.Maps Go.Extern.Stop Go.Stop Go.Extern

theorem built_dg2 (a c : UInt8) : Tryz.prog.built 71 [(0, cu8 a), (1, cu8 c)] = some ((a :: c :: List.replicate 30 0).map cu8).toArray := by kernel_rfl
theorem built_dg4 (a c d e : UInt8) : Tryz.prog.built 71 [(0, cu8 a), (1, cu8 c), (30, cu8 d), (31, cu8 e)] = some ((a :: c :: (List.replicate 28 0 ++ [d, e])).map cu8).toArray := by kernel_rfl
theorem wpList_bld2 {ops : Array Oper} {Q : Exit → Act → World → Prop} {a : Act} {w : World} {o : Oper} {rest : List Oper} (T : TypeId) (x y : Operand) (ho : o.op = .build T #[(0, x), (1, y)]) (v u : Value) (hx : a.eval x = v) (hy : a.eval y = u) (p : Array Value)
    (hb : Tryz.prog.built T [(0, v), (1, u)] = some p) (hw : Region.wanted o (yielded ops a.tmps) = true) (h : wpList Tryz.prog ops Q rest (a.put o.dst (.agg p)) w) : wpList Tryz.prog ops Q (o :: rest) a w := by
  refine wpList_val hw (exec_build w ho ?_) h
  have e : ((#[(0, x), (1, y)] : Array (Nat × Operand)).map fun (i, x) => (i, a.eval x)).toList = [(0, v), (1, u)] := by simp [hx, hy]
  rw [e]; exact hb
theorem wpList_bld4 {ops : Array Oper} {Q : Exit → Act → World → Prop} {a : Act} {w : World} {o : Oper} {rest : List Oper} (T : TypeId) (x y z t : Operand) (ho : o.op = .build T #[(0, x), (1, y), (30, z), (31, t)]) (v u r s : Value) (hx : a.eval x = v) (hy : a.eval y = u) (hz : a.eval z = r) (ht : a.eval t = s) (p : Array Value)
    (hb : Tryz.prog.built T [(0, v), (1, u), (30, r), (31, s)] = some p) (hw : Region.wanted o (yielded ops a.tmps) = true) (h : wpList Tryz.prog ops Q rest (a.put o.dst (.agg p)) w) : wpList Tryz.prog ops Q (o :: rest) a w := by
  refine wpList_val hw (exec_build w ho ?_) h
  have e : ((#[(0, x), (1, y), (30, z), (31, t)] : Array (Nat × Operand)).map fun (i, x) => (i, a.eval x)).toList = [(0, v), (1, u), (30, r), (31, s)] := by simp [hx, hy, hz, ht]
  rw [e]; exact hb
theorem u8_of {i : Nat} (h : i < 256) : IntKind.u8.wrap (i : Int) = (i : Int) ∧ (UInt8.ofNat i).toNat = i := by
  constructor
  · rw [IntKind.wrap_u8]; omega
  · rw [UInt8.toNat_ofNat']; omega
theorem entF_len (al : Bool) (seed : UInt8) (i : Nat) : (entF al seed i).dg.length = 32 := dgF_len al seed i
theorem entF_ok {al : Bool} {seed : UInt8} (i : Nat) (h : i < 256) : EntOk (entF al seed i) := ⟨entF_len al seed i, h, by show 1 ≤ 15; omega⟩
attribute [local irreducible] bk1 bk0
set_option maxRecDepth 100000 in
set_option maxHeartbeats 64000000 in
theorem printsFills_false (nI : Int) (hnI : -9223372036854775808 ≤ nI ∧ nI ≤ 9223372036854775807) (S : Nat) (hS : S < 256) (w : World) (hL : Laid w) :
    Calls Tryz.prog 10 #[.int .i64 nI, .bool false, .int .u8 (S : Int)] w (RetP (.bool true) w) := by
  obtain ⟨s1, km, r1, a1, a2, a3, a4⟩ := pn_mod nI 40 (by omega) (by omega)
  have n40 : ((40 : Nat) : Int) = 40 := rfl
  rw [n40] at a1 a2 a3
  obtain ⟨K, hKe⟩ : ∃ K, km + 1 = K := ⟨_, rfl⟩
  have hK1 : 1 ≤ K := by omega
  have hK40 : K ≤ 40 := by omega
  have HKI := Lib.hid (show (km : Int) + 1 = (K : Int) by omega)
  obtain ⟨seed, hseed⟩ : ∃ seed : UInt8, seed.toNat = S := ⟨UInt8.ofNat S, by rw [UInt8.toNat_ofNat']; omega⟩
  have HSd := Lib.hid hseed
  obtain ⟨hT0, _, ht0⟩ := ta300 K (by omega)
  have HT0 := Lib.hid hT0; have Ht0 := Lib.hid ht0
  have Hfr := Lib.hid (fun (w1 : World) (hb1 : Below w.heap.size w w1) => fresh8_any K hK1 (by omega) w w1 hb1)
  have HL := Lib.hid hL
  obtain ⟨z32, Hz32⟩ : ∃ z32 : Array Value, Hid (z32 = ((List.replicate 32 (0 : UInt8)).map cu8).toArray) := ⟨_, rfl⟩
  have hald : ∀ w : World, (Instr.alloc 71 true (.tuple #[])).run Tryz.prog w = .ok (.pointer (some ⟨w.heap.size, 0, none⟩)) (w.alloc (.cells z32 71)) := by rw [Hz32.out]; exact allocDg
  obtain ⟨zn, Hzn⟩ : ∃ zn : Array Value, Hid (zn = (entC noE).toArray) := ⟨_, rfl⟩
  have hale : ∀ w : World, (Instr.alloc 73 true (.tuple #[])).run Tryz.prog w = .ok (.pointer (some ⟨w.heap.size, 0, none⟩)) (w.alloc (.cells zn 73)) := by rw [Hzn.out]; exact allocEnt
  clear n40 hT0 ht0 hKe hseed hL
  go_enter Tryz.func10, Tryz.ntmps10
  go_wp2_with (first
    | (go_at_call 34; refine (stands8_any _).mono ?_))
  rintro e w1 ⟨rfl, hb1⟩
  go_upto_region 4 with (fail)
  rw [HKI.out]
  have Hfr1 := Lib.hid (Hfr.out w1 hb1)
  clear a1 a2 a3 Hfr hb1 HKI
  go_wp2_with (first
    | (go_at_call 43; refine Hfr1.out.mono ?_))
  rintro e w2 ⟨gd, g, x, rfl, hX0⟩
  have HX0 := Lib.hid hX0
  have wK2 : IntKind.i64.wrap ((K : Int) + 2) = ((K + 2 : Nat) : Int) := by rw [IntWalk.i64_in _ (by omega)]; omega
  obtain ⟨K2, hK2⟩ : ∃ K2, K + 2 = K2 := ⟨_, rfl⟩
  rw [hK2] at wK2
  have hK2' : (K : Int) + 2 = (K2 : Int) := by omega
  clear Hfr1 hX0
  go_wp2
  go_loopg [37] K2 (fun m v wr => ∃ (i : Nat) (b : Bk) (es : List Ent), m = K2 - i ∧ i ≤ K2 ∧ v = .int .i64 i ∧ OwnX b gd g [(x, tabO g 3 K)] w wr ∧ Ta b 3 K es ∧ PFill false seed es K (min i K) ∧ b.txn.length ≤ i)
  case atStart => exact ⟨0, _, _, rfl, by omega, rfl, HX0.out, HT0.out, by rw [Nat.zero_min]; exact PFill.zero _ _ _, by rw [Ht0.out]; simp⟩
  case round =>
    clear HX0 HT0 Ht0
    obtain ⟨i, b, es, rfl, hiK, rfl, hX, hTa, hF, ht⟩ := hrel
    by_cases hlt : i < K2
    · have hlt' : (i : Int) < (K2 : Int) := by omega
      have HX := Lib.hid hX; have HTa := Lib.hid hTa; have HF := Lib.hid hF
      clear hX hTa hF
      obtain ⟨hu8, hun⟩ := u8_of (show i < 256 by omega)
      obtain ⟨dv0, Hdv0⟩ : ∃ dv0 : List Value, Hid (dv0 = (seed :: UInt8.ofNat i :: List.replicate 30 0).map cu8) := ⟨_, rfl⟩
      have HB0 : Hid (Tryz.prog.built 71 [(0, .int .u8 (S : Int)), (1, .int .u8 (i : Int))] = some dv0.toArray) := by
        have := built_dg2 seed (UInt8.ofNat i)
        rw [cu8P, cu8P, hun, HSd.out] at this
        rw [Hdv0.out]; exact this
      obtain ⟨dv, Hdv⟩ : ∃ dv : List Value, Hid (dv = (dgF false seed i).map cu8) := ⟨_, rfl⟩
      have hdl0 : dv0.length = 32 := by rw [Hdv0.out]; simp
      have hdl : dv.length = 32 := by rw [Hdv.out, List.length_map, dgF_len]
      have hdi0 : Hid ((Tryz.prog.info? 71).map (·.size) = some dv0.toArray.size) := by rw [List.size_toArray, hdl0]; exact info32
      have hdi : Hid ((Tryz.prog.info? 71).map (·.size) = some dv.toArray.size) := by rw [List.size_toArray, hdl]; exact info32
      have hdi2 : Hid ((Tryz.prog.info? 71).map (·.size) = some dv.length) := by rw [hdl]; exact info32
      have hdz0 : Hid (z32.size = dv0.toArray.size) := by rw [Hz32.out, List.size_toArray, List.size_toArray, hdl0]; rfl
      have hd10 : Hid (dv0.toArray.all (·.oneCell') = true) := by rw [Hdv0.out]; exact bytes_one _
      go_upto_region 9 with (first
        | (refine wpList_bld2 71 (.tmp 40) (.tmp 42) rfl (.int .u8 (S : Int)) (.int .u8 (i : Int)) rfl rfl dv0.toArray HB0.out (by rfl) ?_)
        | (refine wpList_alloc_arr rfl 71 rfl _ hald ?_)
        | (refine wpList_store_new rfl 71 _ _ rfl wr.heap.size rfl dv0.toArray rfl rfl 71 _ hdi0.out hdz0.out hd10.out ?_))
      have hbA : Below wr.heap.size wr (wr.alloc (.cells dv0.toArray 71)) := (Below.refl _ _).alloc (Nat.le_refl _) _
      have hyA : (wr.alloc (.cells dv0.toArray 71)).heap[wr.heap.size]? = some (.cells dv0.toArray 71 (0, 0)) := heap_alloc_new wr _
      generalize wr.alloc (.cells dv0.toArray 71) = wA at hbA hyA ⊢
      obtain ⟨y, hy⟩ : ∃ y, wr.heap.size = y := ⟨_, rfl⟩
      rw [hy] at hyA ⊢
      clear HB0 hdi0 hdz0 hd10
      go_upto_region 11 with (fail)
      have hdd : dv = dv0 := by rw [Hdv.out, Hdv0.out]; rfl
      have hy8 : wA.heap[y]? = some (.cells dv.toArray 71 (0, 0)) := by rw [hdd]; exact hyA
      have hb8 := hbA
      clear hdd hyA hbA
      rename World => w8
      have hX8 := HX.out.holdsP hb8 (by omega) hy8
      obtain ⟨T2, hT2⟩ : ∃ T2, [(y, Obj.cells dv.toArray 71 (0, 0)), (x, tabO g 3 K)] = T2 := ⟨_, rfl⟩
      rw [hT2] at hX8
      have hTx : (x, tabO g 3 K) ∈ T2 := by rw [← hT2]; simp
      have hTy : (y, Obj.cells dv.toArray 71 (0, 0)) ∈ T2 := by rw [← hT2]; simp
      have HT2 := Lib.hid hT2; have HTx := Lib.hid hTx; have HTy := Lib.hid hTy
      have HX8 := Lib.hid hX8
      have HdV := Lib.hid (show digV (dgF false seed i) = .agg dv.toArray by rw [Hdv.out]; rfl)
      clear hX8 hT2 hTx hTy hb8 hy hy8
      have hfr := HX8.out.pFree HTx.out HTa.out (by omega) (by omega) hK1 (dgF false seed i) (dgF_len _ _ _)
      rw [HdV.out] at hfr
      have hy9 := HX8.out.at_ HTy.out
      cases hlk : lookL fitO es K (homeD (dgF false seed i)) with
      | none =>
        have hiK2 := (HF.out.full (by omega)).1 hlk
        have h4 : ¬ ((i : Int) < (K : Int)) := by omega
        have hb4 : decide ((i : Int) < (K : Int)) = false := decide_eq_false h4
        rw [hlk] at hfr
        have Hfr2 : Hid (Calls Tryz.prog 37 #[.pointer (some ⟨x, 0, none⟩), .agg dv.toArray] w8 (FrP 0 21 w8)) := hfr
        have HF2 := Lib.hid (show PFill false seed es K (min (i + 1) K) by rw [show min (i + 1) K = min i K by omega]; exact HF.out)
        clear hfr hlk HF
        go_wp2_with (first
          | (refine wpList_load_row rfl 71 _ rfl y rfl 71 dv.toArray (0, 0) _ hy9 Tryz.underlying71 rfl hdi.out ?_)
          | (go_at_call 37; refine Hfr2.out.mono ?_))
        rintro e w9 ⟨v9, rfl, hE9, hb9⟩
        obtain ⟨t9, z9, rfl⟩ := hE9.held (by decide)
        have heq : ∀ W : World, (binOp .eql 25 (.iface t9 z9) .nilIface).run Tryz.prog W = .ok (.bool false) W := fun W => run_eql_held_nil W 25 _ _ Tryz.methodsError
        have hX9 := HX8.out.below hb9
        rw [← HT2.out] at hX9
        have HX9 := Lib.hid hX9.drop
        clear hE9 hb9 hX9 hy9 Hfr2 HX8
        go_wp2
        go_roundg (K2 - (i + 1))
        case measure => omega
        case rel => exact ⟨i + 1, b, es, rfl, by omega, by go_num, HX9.out, HTa.out, HF2.out, by omega⟩
      | some p =>
        have hiK3 : i < K := by
          have h1 : min i K ≠ K := fun e => by have := (HF.out.full (a := homeD (dgF false seed i)) (by omega)).2 e; rw [hlk] at this; cases this
          omega
        have h4 : (i : Int) < (K : Int) := by omega
        have hb4 : decide ((i : Int) < (K : Int)) = true := decide_eq_true h4
        have hmin : min i K = i := by omega
        have hF0 := HF.out
        rw [hmin] at hF0
        obtain ⟨hpK, hF1⟩ := hF0.put (by omega) (by omega) hlk
        have HF2 := Lib.hid (show PFill false seed (es.set p (normE (entF false seed i))) K (min (i + 1) K) by rw [show min (i + 1) K = i + 1 by omega]; exact hF1)
        rw [hlk] at hfr
        have Hfr2 : Hid (Calls Tryz.prog 37 #[.pointer (some ⟨x, 0, none⟩), .agg dv.toArray] w8 (FrP (p : Nat) 0 w8)) := hfr
        clear hfr hlk hF0 hF1 HF hmin
        go_wp2_with (first
          | (refine wpList_load_row rfl 71 _ rfl y rfl 71 dv.toArray (0, 0) _ hy9 Tryz.underlying71 rfl hdi.out ?_)
          | (go_at_call 37; refine Hfr2.out.mono ?_))
        rintro e w9 ⟨v9, rfl, hE9, hb9⟩
        obtain rfl := ErrV.zero hE9
        have hX9 := HX8.out.below hb9
        have hyb := hX9.at_ HTy.out
        have hl2 := Lib.hid (run_loadAt_mid (P := Tryz.prog) w9 y 0 71 dv _ (fun j v hj => by rw [Nat.zero_add, cell_of_row w9 y j _ _ _ hyb]; simpa using hj) Tryz.underlying71 rfl hdi2.out)
        have hEok : EntOk (entF false seed i) := entF_ok i (by omega)
        obtain ⟨t, hSd, hst⟩ := hX9.pSet HTx.out HTa.out (by omega) (by omega) hpK hEok (by omega)
        obtain ⟨ev, Hev⟩ : ∃ ev : List Value, Hid (ev = entC (entF false seed i)) := ⟨_, rfl⟩
        have heV : entV (entF false seed i) = .agg ev.toArray := by rw [Hev.out]; rfl
        have HBE : Hid (Tryz.prog.built 73 [(0, .agg dv.toArray), (1, .int .i64 (i : Int)), (2, .int .i64 1)] = some ev.toArray) := by
          have := built_ent dv hdl i 1
          have e : entC (entF false seed i) = dv ++ [Value.int .i64 (i : Int), Value.int .i64 1] := by rw [Hdv.out]; rfl
          rw [Hev.out, e]; exact this
        rw [heV] at hst
        have Hst := Lib.hid hst
        have HTa2 := Lib.hid hSd.ta
        have hlt2 : t.length ≤ i + 1 := by have := hSd.tx.len; omega
        clear hE9 hb9 hX9 hy9 hyb Hfr2 HX8 hst hSd heV HTa
        go_wp2_with (first
          | (have _t := hl2; refine wpList_load_dig _ rfl y 0 rfl _ hl2.out (by rfl) ?_; clear hl2)
          | (have _t := HBE; refine wpList_bldE (.tmp 68) (.tmp 69) (.const (.int .i64 1)) rfl _ _ _ rfl rfl rfl _ HBE.out (by rfl) ?_; clear HBE)
          | (go_at_call 42; refine Hst.out.mono ?_))
        rintro e wb ⟨vb, rfl, hEb, hXb⟩
        obtain rfl := ErrV.zero hEb
        rw [← HT2.out] at hXb
        have HXb := Lib.hid hXb.drop
        clear hEb hXb Hst
        go_wp2
        go_roundg (K2 - (i + 1))
        case measure => omega
        case rel => exact ⟨i + 1, _, _, rfl, by omega, by go_num, HXb.out, HTa2.out, HF2.out, hlt2⟩
    · obtain rfl : i = K2 := by omega
      have hge : ¬ ((i : Int) < (i : Int)) := by omega
      have hFK : PFill false seed es K K := by have := hF; rwa [show min i K = K by omega] at this
      have HX := Lib.hid hX; have HTa := Lib.hid hTa; have HF := Lib.hid hFK
      clear hX hTa hF hFK hlt ht hiK wK2
      go_wp2
      go_loopg [76] K (fun m v wr => ∃ j : Nat, m = K - j ∧ j ≤ K ∧ v = .int .i64 j ∧ OwnX b gd g [(x, tabO g 3 K)] w wr)
      case atStart => exact ⟨0, rfl, by omega, rfl, HX.out⟩
      case round =>
        rename World => wq
        clear HX
        obtain ⟨j, rfl, hjK, rfl, hXq⟩ := hrel
        by_cases hlj : j < K
        · have hlj' : (j : Int) < (K : Int) := by omega
          have HXq := Lib.hid hXq
          clear hXq
          obtain ⟨hu8, hun⟩ := u8_of (show j < 256 by omega)
          obtain ⟨dv0, Hdv0⟩ : ∃ dv0 : List Value, Hid (dv0 = (seed :: UInt8.ofNat j :: List.replicate 30 0).map cu8) := ⟨_, rfl⟩
          have HB0 : Hid (Tryz.prog.built 71 [(0, .int .u8 (S : Int)), (1, .int .u8 (j : Int))] = some dv0.toArray) := by
            have := built_dg2 seed (UInt8.ofNat j)
            rw [cu8P, cu8P, hun, HSd.out] at this
            rw [Hdv0.out]; exact this
          obtain ⟨dv, Hdv⟩ : ∃ dv : List Value, Hid (dv = (dgF false seed j).map cu8) := ⟨_, rfl⟩
          have hdl0 : dv0.length = 32 := by rw [Hdv0.out]; simp
          have hdl : dv.length = 32 := by rw [Hdv.out, List.length_map, dgF_len]
          have hdi0 : Hid ((Tryz.prog.info? 71).map (·.size) = some dv0.toArray.size) := by rw [List.size_toArray, hdl0]; exact info32
          have hdi : Hid ((Tryz.prog.info? 71).map (·.size) = some dv.toArray.size) := by rw [List.size_toArray, hdl]; exact info32
          have hdi2 : Hid ((Tryz.prog.info? 71).map (·.size) = some dv.length) := by rw [hdl]; exact info32
          have hdz0 : Hid (z32.size = dv0.toArray.size) := by rw [Hz32.out, List.size_toArray, List.size_toArray, hdl0]; rfl
          have hd10 : Hid (dv0.toArray.all (·.oneCell') = true) := by rw [Hdv0.out]; exact bytes_one _
          go_upto_region 21 with (first
            | (refine wpList_bld2 71 (.tmp 79) (.tmp 81) rfl (.int .u8 (S : Int)) (.int .u8 (j : Int)) rfl rfl dv0.toArray HB0.out (by rfl) ?_)
            | (refine wpList_alloc_arr rfl 71 rfl _ hald ?_)
            | (refine wpList_store_new rfl 71 _ _ rfl wq.heap.size rfl dv0.toArray rfl rfl 71 _ hdi0.out hdz0.out hd10.out ?_))
          have hbA : Below wq.heap.size wq (wq.alloc (.cells dv0.toArray 71)) := (Below.refl _ _).alloc (Nat.le_refl _) _
          have hyA : (wq.alloc (.cells dv0.toArray 71)).heap[wq.heap.size]? = some (.cells dv0.toArray 71 (0, 0)) := heap_alloc_new wq _
          generalize wq.alloc (.cells dv0.toArray 71) = wA at hbA hyA ⊢
          obtain ⟨y, hy⟩ : ∃ y, wq.heap.size = y := ⟨_, rfl⟩
          rw [hy] at hyA ⊢
          clear HB0 hdi0 hdz0 hd10
          go_upto_region 23 with (fail)
          have hdd : dv = dv0 := by rw [Hdv.out, Hdv0.out]; rfl
          have hy8 : wA.heap[y]? = some (.cells dv.toArray 71 (0, 0)) := by rw [hdd]; exact hyA
          have hb8 := hbA
          clear hdd hyA hbA
          rename World => w8
          have hX8 := HXq.out.holdsP hb8 (by omega) hy8
          obtain ⟨T2, hT2⟩ : ∃ T2, [(y, Obj.cells dv.toArray 71 (0, 0)), (x, tabO g 3 K)] = T2 := ⟨_, rfl⟩
          rw [hT2] at hX8
          have hTx : (x, tabO g 3 K) ∈ T2 := by rw [← hT2]; simp
          have hTy : (y, Obj.cells dv.toArray 71 (0, 0)) ∈ T2 := by rw [← hT2]; simp
          have HT2 := Lib.hid hT2; have HTx := Lib.hid hTx; have HTy := Lib.hid hTy
          have HX8 := Lib.hid hX8
          have HdV := Lib.hid (show digV (dgF false seed j) = .agg dv.toArray by rw [Hdv.out]; rfl)
          clear hX8 hT2 hTx hTy hb8 hy hy8
          obtain ⟨p, hpK, hep, hfd0, hsl0⟩ := HF.out.finds (by omega) (by omega) hlj (homeD (dgF false seed j))
          have hfd := HX8.out.pFind HTx.out HTa.out (by omega) (by omega) hK1 (dgF false seed j) (dgF_len _ _ _)
          rw [HdV.out, hfd0] at hfd
          have Hfd : Hid (Calls Tryz.prog 36 #[.pointer (some ⟨x, 0, none⟩), .agg dv.toArray] w8 (LkP (p : Nat) true 0 w8)) := hfd
          have hy9 := HX8.out.at_ HTy.out
          have Hsl0 := Lib.hid hsl0; have Hep := Lib.hid hep
          clear hfd hfd0 hsl0 hep
          go_wp2_with (first
            | (refine wpList_load_row rfl 71 _ rfl y rfl 71 dv.toArray (0, 0) _ hy9 Tryz.underlying71 rfl hdi.out ?_)
            | (go_at_call 36; refine Hfd.out.mono ?_))
          rintro e w9 ⟨v9, rfl, hE9, hb9⟩
          obtain rfl := ErrV.zero hE9
          have hX9 := HX8.out.below hb9
          obtain ⟨ev, Hev⟩ : ∃ ev : List Value, Hid (ev = entC (entF false seed j)) := ⟨_, rfl⟩
          have heV : entV (entF false seed j) = .agg ev.toArray := by rw [Hev.out]; rfl
          have hel : ev.length = 34 := by rw [Hev.out]; exact entC_len (entF_len _ _ _)
          have hei : Hid ((Tryz.prog.info? 73).map (·.size) = some ev.toArray.size) := by rw [List.size_toArray, hel]; exact infoEnt
          have hez : Hid (zn.size = ev.toArray.size) := by rw [Hzn.out, List.size_toArray, List.size_toArray, hel]; rfl
          have he1 : Hid (ev.toArray.all (·.oneCell') = true) := by rw [Hev.out]; exact all_oneCell_toArray (entC_one _)
          have hgt := hX9.pGet HTx.out HTa.out (by omega) (by omega) hpK
          rw [Hep.out] at hgt
          have hgt2 : PGetP (getE (entF false seed j)).1 (getE (entF false seed j)).2 w9 = PGetP (entF false seed j) 0 w9 := rfl
          rw [hgt2] at hgt
          unfold PGetP at hgt
          rw [heV] at hgt
          have Hgt : Hid (Calls Tryz.prog 35 #[.pointer (some ⟨x, 0, none⟩), .int .i64 (p : Nat)] w9 (FrV (.agg ev.toArray) w9)) := hgt
          have HX9 := Lib.hid hX9
          clear hE9 hb9 hX9 hy9 Hfd HX8 hgt hgt2 heV hel
          go_wp2_with (first
            | (go_at_call 35; refine Hgt.out.mono ?_))
          rintro e wa ⟨va, rfl, hEa, hba⟩
          obtain rfl := ErrV.zero hEa
          have hXa := HX9.out.below hba
          clear hEa hba HX9 Hgt
          go_upto_region 25 with (first
            | (refine wpList_alloc_arr rfl 73 rfl _ hale ?_)
            | (refine wpList_store_new rfl 73 _ _ rfl wa.heap.size rfl ev.toArray rfl rfl 73 _ hei.out hez.out he1.out ?_))
          have hbc : Below wa.heap.size wa (wa.alloc (.cells ev.toArray 73)) := (Below.refl _ _).alloc (Nat.le_refl _) _
          have hxc : (wa.alloc (.cells ev.toArray 73)).heap[wa.heap.size]? = some (.cells ev.toArray 73 (0, 0)) := heap_alloc_new wa _
          have hXc := hXa.below hbc
          generalize wa.alloc (.cells ev.toArray 73) = wc at hbc hxc hXc ⊢
          obtain ⟨y2, hy2⟩ : ∃ y2, wa.heap.size = y2 := ⟨_, rfl⟩
          rw [hy2] at hxc ⊢
          have hsl := hXc.pSlot HTx.out HTa.out (by omega) (by omega) hK1 (j : Int)
          rw [Hsl0.out] at hsl
          have Hsl : Hid (Calls Tryz.prog 38 #[.pointer (some ⟨x, 0, none⟩), .int .i64 (j : Int)] wc (LkP (p : Nat) true 0 wc)) := hsl
          have HXc := Lib.hid hXc
          clear hy2 hbc hXa hXc hsl
          go_wp2_with (first
            | (go_at_call 38; refine Hsl.out.mono ?_))
          rintro e wd ⟨vd, rfl, hEd, hbd⟩
          obtain rfl := ErrV.zero hEd
          have hxd := (hbd.block y2 (Array.getElem?_eq_some_iff.1 hxc).1).trans hxc
          have cS : wd.cell? ⟨y2, 32, none⟩ = some (.int .i64 (j : Int)) := (ent_box (x := y2) (e := entF false seed j) (by rw [hxd, Hev.out]) (entF_len _ _ _)).1
          have hXd := HXc.out.below hbd
          rw [← HT2.out] at hXd
          have HXd := Lib.hid hXd.drop
          clear hEd hbd hxc hxd hXd HXc Hsl
          go_wp2
          go_roundg (K - (j + 1))
          case measure => omega
          case rel => exact ⟨j + 1, rfl, by omega, by go_num, HXd.out⟩
        · obtain rfl : j = K := by omega
          have hge2 : ¬ ((j : Int) < (j : Int)) := by omega
          have Hb := Lib.hid hXq.bel
          clear hXq hlj
          go_wp2
          go_ret
          exact ⟨rfl, Hb.out⟩
set_option maxRecDepth 100000 in
set_option maxHeartbeats 64000000 in
theorem printsFills_true (nI : Int) (hnI : -9223372036854775808 ≤ nI ∧ nI ≤ 9223372036854775807) (S : Nat) (hS : S < 256) (w : World) (hL : Laid w) :
    Calls Tryz.prog 10 #[.int .i64 nI, .bool true, .int .u8 (S : Int)] w (RetP (.bool true) w) := by
  obtain ⟨s1, km, r1, a1, a2, a3, a4⟩ := pn_mod nI 40 (by omega) (by omega)
  have n40 : ((40 : Nat) : Int) = 40 := rfl
  rw [n40] at a1 a2 a3
  obtain ⟨K, hKe⟩ : ∃ K, km + 1 = K := ⟨_, rfl⟩
  have hK1 : 1 ≤ K := by omega
  have hK40 : K ≤ 40 := by omega
  have HKI := Lib.hid (show (km : Int) + 1 = (K : Int) by omega)
  obtain ⟨seed, hseed⟩ : ∃ seed : UInt8, seed.toNat = S := ⟨UInt8.ofNat S, by rw [UInt8.toNat_ofNat']; omega⟩
  have HSd := Lib.hid hseed
  obtain ⟨hT0, _, ht0⟩ := ta300 K (by omega)
  have HT0 := Lib.hid hT0; have Ht0 := Lib.hid ht0
  have Hfr := Lib.hid (fun (w1 : World) (hb1 : Below w.heap.size w w1) => fresh8_any K hK1 (by omega) w w1 hb1)
  have HL := Lib.hid hL
  obtain ⟨z32, Hz32⟩ : ∃ z32 : Array Value, Hid (z32 = ((List.replicate 32 (0 : UInt8)).map cu8).toArray) := ⟨_, rfl⟩
  have hald : ∀ w : World, (Instr.alloc 71 true (.tuple #[])).run Tryz.prog w = .ok (.pointer (some ⟨w.heap.size, 0, none⟩)) (w.alloc (.cells z32 71)) := by rw [Hz32.out]; exact allocDg
  obtain ⟨zn, Hzn⟩ : ∃ zn : Array Value, Hid (zn = (entC noE).toArray) := ⟨_, rfl⟩
  have hale : ∀ w : World, (Instr.alloc 73 true (.tuple #[])).run Tryz.prog w = .ok (.pointer (some ⟨w.heap.size, 0, none⟩)) (w.alloc (.cells zn 73)) := by rw [Hzn.out]; exact allocEnt
  clear n40 hT0 ht0 hKe hseed hL
  go_enter Tryz.func10, Tryz.ntmps10
  go_wp2_with (first
    | (go_at_call 34; refine (stands8_any _).mono ?_))
  rintro e w1 ⟨rfl, hb1⟩
  go_upto_region 4 with (fail)
  rw [HKI.out]
  have Hfr1 := Lib.hid (Hfr.out w1 hb1)
  clear a1 a2 a3 Hfr hb1 HKI
  go_wp2_with (first
    | (go_at_call 43; refine Hfr1.out.mono ?_))
  rintro e w2 ⟨gd, g, x, rfl, hX0⟩
  have HX0 := Lib.hid hX0
  have wK2 : IntKind.i64.wrap ((K : Int) + 2) = ((K + 2 : Nat) : Int) := by rw [IntWalk.i64_in _ (by omega)]; omega
  obtain ⟨K2, hK2⟩ : ∃ K2, K + 2 = K2 := ⟨_, rfl⟩
  rw [hK2] at wK2
  have hK2' : (K : Int) + 2 = (K2 : Int) := by omega
  clear Hfr1 hX0
  go_wp2
  go_loopg [37] K2 (fun m v wr => ∃ (i : Nat) (b : Bk) (es : List Ent), m = K2 - i ∧ i ≤ K2 ∧ v = .int .i64 i ∧ OwnX b gd g [(x, tabO g 3 K)] w wr ∧ Ta b 3 K es ∧ PFill true seed es K (min i K) ∧ b.txn.length ≤ i)
  case atStart => exact ⟨0, _, _, rfl, by omega, rfl, HX0.out, HT0.out, by rw [Nat.zero_min]; exact PFill.zero _ _ _, by rw [Ht0.out]; simp⟩
  case round =>
    clear HX0 HT0 Ht0
    obtain ⟨i, b, es, rfl, hiK, rfl, hX, hTa, hF, ht⟩ := hrel
    by_cases hlt : i < K2
    · have hlt' : (i : Int) < (K2 : Int) := by omega
      have HX := Lib.hid hX; have HTa := Lib.hid hTa; have HF := Lib.hid hF
      clear hX hTa hF
      obtain ⟨hu8, hun⟩ := u8_of (show i < 256 by omega)
      obtain ⟨dv0, Hdv0⟩ : ∃ dv0 : List Value, Hid (dv0 = (seed :: UInt8.ofNat i :: List.replicate 30 0).map cu8) := ⟨_, rfl⟩
      have HB0 : Hid (Tryz.prog.built 71 [(0, .int .u8 (S : Int)), (1, .int .u8 (i : Int))] = some dv0.toArray) := by
        have := built_dg2 seed (UInt8.ofNat i)
        rw [cu8P, cu8P, hun, HSd.out] at this
        rw [Hdv0.out]; exact this
      obtain ⟨dv, Hdv⟩ : ∃ dv : List Value, Hid (dv = (dgF true seed i).map cu8) := ⟨_, rfl⟩
      have hdl0 : dv0.length = 32 := by rw [Hdv0.out]; simp
      have hdl : dv.length = 32 := by rw [Hdv.out, List.length_map, dgF_len]
      have hdi0 : Hid ((Tryz.prog.info? 71).map (·.size) = some dv0.toArray.size) := by rw [List.size_toArray, hdl0]; exact info32
      have hdi : Hid ((Tryz.prog.info? 71).map (·.size) = some dv.toArray.size) := by rw [List.size_toArray, hdl]; exact info32
      have hdi2 : Hid ((Tryz.prog.info? 71).map (·.size) = some dv.length) := by rw [hdl]; exact info32
      have hdz0 : Hid (z32.size = dv0.toArray.size) := by rw [Hz32.out, List.size_toArray, List.size_toArray, hdl0]; rfl
      have hd10 : Hid (dv0.toArray.all (·.oneCell') = true) := by rw [Hdv0.out]; exact bytes_one _
      have HB4 : Hid (Tryz.prog.built 71 [(0, .int .u8 (S : Int)), (1, .int .u8 9), (30, .int .u8 (i : Int)), (31, .int .u8 (i : Int))] = some dv.toArray) := by
        have := built_dg4 seed 9 (UInt8.ofNat i) (UInt8.ofNat i)
        rw [cu8P seed, cu8P 9, cu8P (UInt8.ofNat i), hun, HSd.out] at this
        rw [Hdv.out]; exact this
      have hfit : Hid (0 + dv.toArray.size ≤ dv0.length) := Lib.hid (by rw [List.size_toArray, hdl, hdl0]; omega)
      have hone : Hid (∀ v ∈ dv.toArray.toList, v.oneCell' = true) := Lib.hid (fun v hv => by rw [Hdv.out] at hv; obtain ⟨c, _, rfl⟩ := List.mem_map.1 (by simpa using hv); rfl)
      go_upto_region 9 with (first
        | (refine wpList_bld2 71 (.tmp 40) (.tmp 42) rfl (.int .u8 (S : Int)) (.int .u8 (i : Int)) rfl rfl dv0.toArray HB0.out (by rfl) ?_)
        | (refine wpList_alloc_arr rfl 71 rfl _ hald ?_)
        | (refine wpList_store_new rfl 71 _ _ rfl wr.heap.size rfl dv0.toArray rfl rfl 71 _ hdi0.out hdz0.out hd10.out ?_))
      have hbA : Below wr.heap.size wr (wr.alloc (.cells dv0.toArray 71)) := (Below.refl _ _).alloc (Nat.le_refl _) _
      have hyA : (wr.alloc (.cells dv0.toArray 71)).heap[wr.heap.size]? = some (.cells dv0.toArray 71 (0, 0)) := heap_alloc_new wr _
      generalize wr.alloc (.cells dv0.toArray 71) = wA at hbA hyA ⊢
      obtain ⟨y, hy⟩ : ∃ y, wr.heap.size = y := ⟨_, rfl⟩
      rw [hy] at hyA ⊢
      clear HB0 hdi0 hdz0 hd10
      go_upto_region 11 with (first
        | (refine wpList_bld4 71 (.tmp 45) (.const (.int .u8 9)) (.tmp 47) (.tmp 49) rfl (.int .u8 (S : Int)) (.int .u8 9) (.int .u8 (i : Int)) (.int .u8 (i : Int)) rfl rfl rfl rfl dv.toArray HB4.out (by rfl) ?_)
        | (refine wpList_store_into rfl 71 _ _ rfl y 0 dv.toArray rfl rfl dv0 71 hyA hdi.out hfit.out hone.out ?_; intro w8 Hs8 Hg8))
      have hy8 : w8.heap[y]? = some (.cells dv.toArray 71 (0, 0)) := by
        have := Hs8.out
        rw [splice_whole dv0 dv (by rw [hdl, hdl0])] at this
        exact this
      have hb8 : Below wr.heap.size wr w8 := hbA.trans ((Only.of_grown (F := fun j => j = y) Hg8.out (fun j e => by simpa using e.symm)).base hbA.size (fun j hj => by have e : j = y := hj; omega))
      clear Hs8 Hg8 HB4 hfit hone hyA hbA
      have hX8 := HX.out.holdsP hb8 (by omega) hy8
      obtain ⟨T2, hT2⟩ : ∃ T2, [(y, Obj.cells dv.toArray 71 (0, 0)), (x, tabO g 3 K)] = T2 := ⟨_, rfl⟩
      rw [hT2] at hX8
      have hTx : (x, tabO g 3 K) ∈ T2 := by rw [← hT2]; simp
      have hTy : (y, Obj.cells dv.toArray 71 (0, 0)) ∈ T2 := by rw [← hT2]; simp
      have HT2 := Lib.hid hT2; have HTx := Lib.hid hTx; have HTy := Lib.hid hTy
      have HX8 := Lib.hid hX8
      have HdV := Lib.hid (show digV (dgF true seed i) = .agg dv.toArray by rw [Hdv.out]; rfl)
      clear hX8 hT2 hTx hTy hb8 hy hy8
      have hfr := HX8.out.pFree HTx.out HTa.out (by omega) (by omega) hK1 (dgF true seed i) (dgF_len _ _ _)
      rw [HdV.out] at hfr
      have hy9 := HX8.out.at_ HTy.out
      cases hlk : lookL fitO es K (homeD (dgF true seed i)) with
      | none =>
        have hiK2 := (HF.out.full (by omega)).1 hlk
        have h4 : ¬ ((i : Int) < (K : Int)) := by omega
        have hb4 : decide ((i : Int) < (K : Int)) = false := decide_eq_false h4
        rw [hlk] at hfr
        have Hfr2 : Hid (Calls Tryz.prog 37 #[.pointer (some ⟨x, 0, none⟩), .agg dv.toArray] w8 (FrP 0 21 w8)) := hfr
        have HF2 := Lib.hid (show PFill true seed es K (min (i + 1) K) by rw [show min (i + 1) K = min i K by omega]; exact HF.out)
        clear hfr hlk HF
        go_wp2_with (first
          | (refine wpList_load_row rfl 71 _ rfl y rfl 71 dv.toArray (0, 0) _ hy9 Tryz.underlying71 rfl hdi.out ?_)
          | (go_at_call 37; refine Hfr2.out.mono ?_))
        rintro e w9 ⟨v9, rfl, hE9, hb9⟩
        obtain ⟨t9, z9, rfl⟩ := hE9.held (by decide)
        have heq : ∀ W : World, (binOp .eql 25 (.iface t9 z9) .nilIface).run Tryz.prog W = .ok (.bool false) W := fun W => run_eql_held_nil W 25 _ _ Tryz.methodsError
        have hX9 := HX8.out.below hb9
        rw [← HT2.out] at hX9
        have HX9 := Lib.hid hX9.drop
        clear hE9 hb9 hX9 hy9 Hfr2 HX8
        go_wp2
        go_roundg (K2 - (i + 1))
        case measure => omega
        case rel => exact ⟨i + 1, b, es, rfl, by omega, by go_num, HX9.out, HTa.out, HF2.out, by omega⟩
      | some p =>
        have hiK3 : i < K := by
          have h1 : min i K ≠ K := fun e => by have := (HF.out.full (a := homeD (dgF true seed i)) (by omega)).2 e; rw [hlk] at this; cases this
          omega
        have h4 : (i : Int) < (K : Int) := by omega
        have hb4 : decide ((i : Int) < (K : Int)) = true := decide_eq_true h4
        have hmin : min i K = i := by omega
        have hF0 := HF.out
        rw [hmin] at hF0
        obtain ⟨hpK, hF1⟩ := hF0.put (by omega) (by omega) hlk
        have HF2 := Lib.hid (show PFill true seed (es.set p (normE (entF true seed i))) K (min (i + 1) K) by rw [show min (i + 1) K = i + 1 by omega]; exact hF1)
        rw [hlk] at hfr
        have Hfr2 : Hid (Calls Tryz.prog 37 #[.pointer (some ⟨x, 0, none⟩), .agg dv.toArray] w8 (FrP (p : Nat) 0 w8)) := hfr
        clear hfr hlk hF0 hF1 HF hmin
        go_wp2_with (first
          | (refine wpList_load_row rfl 71 _ rfl y rfl 71 dv.toArray (0, 0) _ hy9 Tryz.underlying71 rfl hdi.out ?_)
          | (go_at_call 37; refine Hfr2.out.mono ?_))
        rintro e w9 ⟨v9, rfl, hE9, hb9⟩
        obtain rfl := ErrV.zero hE9
        have hX9 := HX8.out.below hb9
        have hyb := hX9.at_ HTy.out
        have hl2 := Lib.hid (run_loadAt_mid (P := Tryz.prog) w9 y 0 71 dv _ (fun j v hj => by rw [Nat.zero_add, cell_of_row w9 y j _ _ _ hyb]; simpa using hj) Tryz.underlying71 rfl hdi2.out)
        have hEok : EntOk (entF true seed i) := entF_ok i (by omega)
        obtain ⟨t, hSd, hst⟩ := hX9.pSet HTx.out HTa.out (by omega) (by omega) hpK hEok (by omega)
        obtain ⟨ev, Hev⟩ : ∃ ev : List Value, Hid (ev = entC (entF true seed i)) := ⟨_, rfl⟩
        have heV : entV (entF true seed i) = .agg ev.toArray := by rw [Hev.out]; rfl
        have HBE : Hid (Tryz.prog.built 73 [(0, .agg dv.toArray), (1, .int .i64 (i : Int)), (2, .int .i64 1)] = some ev.toArray) := by
          have := built_ent dv hdl i 1
          have e : entC (entF true seed i) = dv ++ [Value.int .i64 (i : Int), Value.int .i64 1] := by rw [Hdv.out]; rfl
          rw [Hev.out, e]; exact this
        rw [heV] at hst
        have Hst := Lib.hid hst
        have HTa2 := Lib.hid hSd.ta
        have hlt2 : t.length ≤ i + 1 := by have := hSd.tx.len; omega
        clear hE9 hb9 hX9 hy9 hyb Hfr2 HX8 hst hSd heV HTa
        go_wp2_with (first
          | (have _t := hl2; refine wpList_load_dig _ rfl y 0 rfl _ hl2.out (by rfl) ?_; clear hl2)
          | (have _t := HBE; refine wpList_bldE (.tmp 68) (.tmp 69) (.const (.int .i64 1)) rfl _ _ _ rfl rfl rfl _ HBE.out (by rfl) ?_; clear HBE)
          | (go_at_call 42; refine Hst.out.mono ?_))
        rintro e wb ⟨vb, rfl, hEb, hXb⟩
        obtain rfl := ErrV.zero hEb
        rw [← HT2.out] at hXb
        have HXb := Lib.hid hXb.drop
        clear hEb hXb Hst
        go_wp2
        go_roundg (K2 - (i + 1))
        case measure => omega
        case rel => exact ⟨i + 1, _, _, rfl, by omega, by go_num, HXb.out, HTa2.out, HF2.out, hlt2⟩
    · obtain rfl : i = K2 := by omega
      have hge : ¬ ((i : Int) < (i : Int)) := by omega
      have hFK : PFill true seed es K K := by have := hF; rwa [show min i K = K by omega] at this
      have HX := Lib.hid hX; have HTa := Lib.hid hTa; have HF := Lib.hid hFK
      clear hX hTa hF hFK hlt ht hiK wK2
      go_wp2
      go_loopg [76] K (fun m v wr => ∃ j : Nat, m = K - j ∧ j ≤ K ∧ v = .int .i64 j ∧ OwnX b gd g [(x, tabO g 3 K)] w wr)
      case atStart => exact ⟨0, rfl, by omega, rfl, HX.out⟩
      case round =>
        rename World => wq
        clear HX
        obtain ⟨j, rfl, hjK, rfl, hXq⟩ := hrel
        by_cases hlj : j < K
        · have hlj' : (j : Int) < (K : Int) := by omega
          have HXq := Lib.hid hXq
          clear hXq
          obtain ⟨hu8, hun⟩ := u8_of (show j < 256 by omega)
          obtain ⟨dv0, Hdv0⟩ : ∃ dv0 : List Value, Hid (dv0 = (seed :: UInt8.ofNat j :: List.replicate 30 0).map cu8) := ⟨_, rfl⟩
          have HB0 : Hid (Tryz.prog.built 71 [(0, .int .u8 (S : Int)), (1, .int .u8 (j : Int))] = some dv0.toArray) := by
            have := built_dg2 seed (UInt8.ofNat j)
            rw [cu8P, cu8P, hun, HSd.out] at this
            rw [Hdv0.out]; exact this
          obtain ⟨dv, Hdv⟩ : ∃ dv : List Value, Hid (dv = (dgF true seed j).map cu8) := ⟨_, rfl⟩
          have hdl0 : dv0.length = 32 := by rw [Hdv0.out]; simp
          have hdl : dv.length = 32 := by rw [Hdv.out, List.length_map, dgF_len]
          have hdi0 : Hid ((Tryz.prog.info? 71).map (·.size) = some dv0.toArray.size) := by rw [List.size_toArray, hdl0]; exact info32
          have hdi : Hid ((Tryz.prog.info? 71).map (·.size) = some dv.toArray.size) := by rw [List.size_toArray, hdl]; exact info32
          have hdi2 : Hid ((Tryz.prog.info? 71).map (·.size) = some dv.length) := by rw [hdl]; exact info32
          have hdz0 : Hid (z32.size = dv0.toArray.size) := by rw [Hz32.out, List.size_toArray, List.size_toArray, hdl0]; rfl
          have hd10 : Hid (dv0.toArray.all (·.oneCell') = true) := by rw [Hdv0.out]; exact bytes_one _
          have HB4 : Hid (Tryz.prog.built 71 [(0, .int .u8 (S : Int)), (1, .int .u8 9), (30, .int .u8 (j : Int)), (31, .int .u8 (j : Int))] = some dv.toArray) := by
            have := built_dg4 seed 9 (UInt8.ofNat j) (UInt8.ofNat j)
            rw [cu8P seed, cu8P 9, cu8P (UInt8.ofNat j), hun, HSd.out] at this
            rw [Hdv.out]; exact this
          have hfit : Hid (0 + dv.toArray.size ≤ dv0.length) := Lib.hid (by rw [List.size_toArray, hdl, hdl0]; omega)
          have hone : Hid (∀ v ∈ dv.toArray.toList, v.oneCell' = true) := Lib.hid (fun v hv => by rw [Hdv.out] at hv; obtain ⟨c, _, rfl⟩ := List.mem_map.1 (by simpa using hv); rfl)
          go_upto_region 21 with (first
            | (refine wpList_bld2 71 (.tmp 79) (.tmp 81) rfl (.int .u8 (S : Int)) (.int .u8 (j : Int)) rfl rfl dv0.toArray HB0.out (by rfl) ?_)
            | (refine wpList_alloc_arr rfl 71 rfl _ hald ?_)
            | (refine wpList_store_new rfl 71 _ _ rfl wq.heap.size rfl dv0.toArray rfl rfl 71 _ hdi0.out hdz0.out hd10.out ?_))
          have hbA : Below wq.heap.size wq (wq.alloc (.cells dv0.toArray 71)) := (Below.refl _ _).alloc (Nat.le_refl _) _
          have hyA : (wq.alloc (.cells dv0.toArray 71)).heap[wq.heap.size]? = some (.cells dv0.toArray 71 (0, 0)) := heap_alloc_new wq _
          generalize wq.alloc (.cells dv0.toArray 71) = wA at hbA hyA ⊢
          obtain ⟨y, hy⟩ : ∃ y, wq.heap.size = y := ⟨_, rfl⟩
          rw [hy] at hyA ⊢
          clear HB0 hdi0 hdz0 hd10
          go_upto_region 23 with (first
            | (refine wpList_bld4 71 (.tmp 84) (.const (.int .u8 9)) (.tmp 86) (.tmp 88) rfl (.int .u8 (S : Int)) (.int .u8 9) (.int .u8 (j : Int)) (.int .u8 (j : Int)) rfl rfl rfl rfl dv.toArray HB4.out (by rfl) ?_)
            | (refine wpList_store_into rfl 71 _ _ rfl y 0 dv.toArray rfl rfl dv0 71 hyA hdi.out hfit.out hone.out ?_; intro w8 Hs8 Hg8))
          have hy8 : w8.heap[y]? = some (.cells dv.toArray 71 (0, 0)) := by
            have := Hs8.out
            rw [splice_whole dv0 dv (by rw [hdl, hdl0])] at this
            exact this
          have hb8 : Below wq.heap.size wq w8 := hbA.trans ((Only.of_grown (F := fun j => j = y) Hg8.out (fun j e => by simpa using e.symm)).base hbA.size (fun j hj => by have e : j = y := hj; omega))
          clear Hs8 Hg8 HB4 hfit hone hyA hbA
          have hX8 := HXq.out.holdsP hb8 (by omega) hy8
          obtain ⟨T2, hT2⟩ : ∃ T2, [(y, Obj.cells dv.toArray 71 (0, 0)), (x, tabO g 3 K)] = T2 := ⟨_, rfl⟩
          rw [hT2] at hX8
          have hTx : (x, tabO g 3 K) ∈ T2 := by rw [← hT2]; simp
          have hTy : (y, Obj.cells dv.toArray 71 (0, 0)) ∈ T2 := by rw [← hT2]; simp
          have HT2 := Lib.hid hT2; have HTx := Lib.hid hTx; have HTy := Lib.hid hTy
          have HX8 := Lib.hid hX8
          have HdV := Lib.hid (show digV (dgF true seed j) = .agg dv.toArray by rw [Hdv.out]; rfl)
          clear hX8 hT2 hTx hTy hb8 hy hy8
          obtain ⟨p, hpK, hep, hfd0, hsl0⟩ := HF.out.finds (by omega) (by omega) hlj (homeD (dgF true seed j))
          have hfd := HX8.out.pFind HTx.out HTa.out (by omega) (by omega) hK1 (dgF true seed j) (dgF_len _ _ _)
          rw [HdV.out, hfd0] at hfd
          have Hfd : Hid (Calls Tryz.prog 36 #[.pointer (some ⟨x, 0, none⟩), .agg dv.toArray] w8 (LkP (p : Nat) true 0 w8)) := hfd
          have hy9 := HX8.out.at_ HTy.out
          have Hsl0 := Lib.hid hsl0; have Hep := Lib.hid hep
          clear hfd hfd0 hsl0 hep
          go_wp2_with (first
            | (refine wpList_load_row rfl 71 _ rfl y rfl 71 dv.toArray (0, 0) _ hy9 Tryz.underlying71 rfl hdi.out ?_)
            | (go_at_call 36; refine Hfd.out.mono ?_))
          rintro e w9 ⟨v9, rfl, hE9, hb9⟩
          obtain rfl := ErrV.zero hE9
          have hX9 := HX8.out.below hb9
          obtain ⟨ev, Hev⟩ : ∃ ev : List Value, Hid (ev = entC (entF true seed j)) := ⟨_, rfl⟩
          have heV : entV (entF true seed j) = .agg ev.toArray := by rw [Hev.out]; rfl
          have hel : ev.length = 34 := by rw [Hev.out]; exact entC_len (entF_len _ _ _)
          have hei : Hid ((Tryz.prog.info? 73).map (·.size) = some ev.toArray.size) := by rw [List.size_toArray, hel]; exact infoEnt
          have hez : Hid (zn.size = ev.toArray.size) := by rw [Hzn.out, List.size_toArray, List.size_toArray, hel]; rfl
          have he1 : Hid (ev.toArray.all (·.oneCell') = true) := by rw [Hev.out]; exact all_oneCell_toArray (entC_one _)
          have hgt := hX9.pGet HTx.out HTa.out (by omega) (by omega) hpK
          rw [Hep.out] at hgt
          have hgt2 : PGetP (getE (entF true seed j)).1 (getE (entF true seed j)).2 w9 = PGetP (entF true seed j) 0 w9 := rfl
          rw [hgt2] at hgt
          unfold PGetP at hgt
          rw [heV] at hgt
          have Hgt : Hid (Calls Tryz.prog 35 #[.pointer (some ⟨x, 0, none⟩), .int .i64 (p : Nat)] w9 (FrV (.agg ev.toArray) w9)) := hgt
          have HX9 := Lib.hid hX9
          clear hE9 hb9 hX9 hy9 Hfd HX8 hgt hgt2 heV hel
          go_wp2_with (first
            | (go_at_call 35; refine Hgt.out.mono ?_))
          rintro e wa ⟨va, rfl, hEa, hba⟩
          obtain rfl := ErrV.zero hEa
          have hXa := HX9.out.below hba
          clear hEa hba HX9 Hgt
          go_upto_region 25 with (first
            | (refine wpList_alloc_arr rfl 73 rfl _ hale ?_)
            | (refine wpList_store_new rfl 73 _ _ rfl wa.heap.size rfl ev.toArray rfl rfl 73 _ hei.out hez.out he1.out ?_))
          have hbc : Below wa.heap.size wa (wa.alloc (.cells ev.toArray 73)) := (Below.refl _ _).alloc (Nat.le_refl _) _
          have hxc : (wa.alloc (.cells ev.toArray 73)).heap[wa.heap.size]? = some (.cells ev.toArray 73 (0, 0)) := heap_alloc_new wa _
          have hXc := hXa.below hbc
          generalize wa.alloc (.cells ev.toArray 73) = wc at hbc hxc hXc ⊢
          obtain ⟨y2, hy2⟩ : ∃ y2, wa.heap.size = y2 := ⟨_, rfl⟩
          rw [hy2] at hxc ⊢
          have hsl := hXc.pSlot HTx.out HTa.out (by omega) (by omega) hK1 (j : Int)
          rw [Hsl0.out] at hsl
          have Hsl : Hid (Calls Tryz.prog 38 #[.pointer (some ⟨x, 0, none⟩), .int .i64 (j : Int)] wc (LkP (p : Nat) true 0 wc)) := hsl
          have HXc := Lib.hid hXc
          clear hy2 hbc hXa hXc hsl
          go_wp2_with (first
            | (go_at_call 38; refine Hsl.out.mono ?_))
          rintro e wd ⟨vd, rfl, hEd, hbd⟩
          obtain rfl := ErrV.zero hEd
          have hxd := (hbd.block y2 (Array.getElem?_eq_some_iff.1 hxc).1).trans hxc
          have cS : wd.cell? ⟨y2, 32, none⟩ = some (.int .i64 (j : Int)) := (ent_box (x := y2) (e := entF true seed j) (by rw [hxd, Hev.out]) (entF_len _ _ _)).1
          have hXd := HXc.out.below hbd
          rw [← HT2.out] at hXd
          have HXd := Lib.hid hXd.drop
          clear hEd hbd hxc hxd hXd HXc Hsl
          go_wp2
          go_roundg (K - (j + 1))
          case measure => omega
          case rel => exact ⟨j + 1, rfl, by omega, by go_num, HXd.out⟩
        · obtain rfl : j = K := by omega
          have hge2 : ¬ ((j : Int) < (j : Int)) := by omega
          have Hb := Lib.hid hXq.bel
          clear hXq hlj
          go_wp2
          go_ret
          exact ⟨rfl, Hb.out⟩
theorem printsFills_any (nI : Int) (hnI : -9223372036854775808 ≤ nI ∧ nI ≤ 9223372036854775807) (al : Bool) (s : Int) (hs : 0 ≤ s ∧ s ≤ 255) (w : World) (hL : Laid w) :
    Calls Tryz.prog 10 #[.int .i64 nI, .bool al, .int .u8 s] w (RetP (.bool true) w) := by
  obtain ⟨S, rfl⟩ : ∃ S : Nat, s = (S : Int) := ⟨s.toNat, by omega⟩
  cases al with
  | false => exact printsFills_false nI hnI S (by omega) w hL
  | true => exact printsFills_true nI hnI S (by omega) w hL
end Go.Proofs.YtopjhgpgompenaaGreatDoor
