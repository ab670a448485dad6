/-
  'DepotUndone': its walk.
-/
import Derived.Test.YtjkkbceddbkejaaGreatDoorDrOld
import Derived.Test.YtjkkbceddbkejaaGreatDoorJDrc
import Derived.SizedLaws
set_option linter.unusedSimpArgs false
set_option linter.unusedVariables false
namespace Go.Proofs.YtjkkbceddbkejaaGreatDoor
open Go.RowKit Sh Go.Maps Go.Extern.Stop Go.Stop Go.Extern Go.ChangeShapes Go.WideShapes Go.ChangeAt Go.Deep

theorem Tryz.bytesTriple : Tryz.prog.bytesOf 69 = 24 := by kernel_rfl
/-- A slice of calls that was handed in is no longer than memory. -/
theorem triples_few {H : Type} {enc : TypeId × Value → H} {W : World} {a0 : Option Addr} {len cap : Nat} {d0 : DataW H} {p : List MemPlace} {ts : List TypeId} {ds : List (DataW H)} {j : Nat}
    (h : (DataW.weightsEach Tryz.prog ts ds).all (· ≤ reachBytes) = true) (ht : ts[j]? = some 63) (hd : ds[j]? = some d0)
    (h0 : DataW.Trod enc Tryz.prog W 0 (fun _ => true) true 63 (.slice a0 len cap) d0 p) : len ≤ 1000000000000000 := by
  obtain ⟨fuel, hf⟩ := h0
  rcases open_slice Tryz.underlying63 hf with ⟨hcs, _⟩ | ⟨a, len', cap', m, n, D, Pl, hcs, _, hl, hm, hmm, hx, hrow⟩
  · simp [Value.cells] at hcs
    omega
  · simp [Value.cells] at hcs
    obtain ⟨rfl, rfl, rfl⟩ := hcs
    have e : d0 = .slice ((List.range len).map D) ((List.range (m - len)).map fun j => D (len + j)) := congrArg Prod.fst hx
    rw [e] at hd
    have := sized_slice h ht hd Tryz.underlying63
    rw [Tryz.bytesTriple, List.length_map, List.length_range] at this
    have h47 := reachBytes_lt
    omega
section
variable {S : St} {gd g x k first n m sb bb M : Nat} {o : Obj} {y : Nat × Obj} {T T' : List (Nat × Obj)} {w0 w w' : World} {b : Bk} {f : Nat → Nat} {hs : List (List UInt8)} {bl : Nat → List UInt8}
theorem OwnX.subs (hX : OwnX b gd g T w0 w) (hs : ∀ y ∈ T', y ∈ T) : OwnX b gd g T' w0 w := by
  obtain ⟨Fd, gr, bn, bt, hi, hF⟩ := hX.ex
  exact ⟨⟨Fd, gr, bn, bt, hi, fun j hj => ⟨(hF j hj).1, fun y hy => (hF j hj).2 y (hs y hy)⟩⟩, hX.bel, fun y hy => hX.arr y (hs y hy)⟩
def MntR (b : Bk) (gd : Nat) (T : List (Nat × Obj)) (w0 : World) (e : Ending) (w' : World) : Prop := ∃ g, e = .returned (.tuple #[.pointer (some ⟨g, 0, none⟩), .nilIface]) ∧ OwnX b gd g T w0 w'
theorem DskX.mountR {m0 : Mk} {rs : List (List Chg)} {b' : Bk} (h : DskX (crashOf b.S []) gd T w0 w) (r : Remount b b' m0 rs) (hn : 96 ≤ b.n ∧ b.n ≤ 4096 ∧ 3 + b.n ≤ b.S.firm.length) (hg : b.gen + 1 < 18446744073709551616) :
    Calls Tryz.prog 17 #[.pointer (some ⟨gd, 0, none⟩), .int .i64 b.n] w (MntR b' gd T w0) := by
  obtain ⟨F, hP, hF⟩ := h.ex
  have ha := r.ag
  have hm := mount_on hP ha.good ha.byt ha.lit.on (by rw [ha.ats]; simp) b.n hn.1 hn.2.1 (by rw [ha.firm]; exact hn.2.2) ha.title ha.place ha.found (used := b.used) rfl ha.used ha.with_ ha.few
  refine (Mount_of hm (ha.dur.bring hg).1).mono ?_
  rintro e w' ⟨g, Fd', gr, bn, bt, rfl, hB, ho, hf⟩
  rw [r.is] at hB
  exact ⟨g, rfl, ⟨Fd', gr, bn, bt, hB, fun k hk => (hf k hk).elim (hF k) (fun e => apart_new h.arr h.bel e)⟩, h.bel.trans (ho.base h.bel.size (fun k hk => (hF k hk).1)), h.arr.keep ho hF⟩
/-- The reference's depot beside another depot. -/
theorem RfT.moved (h : RfT y m sb bb M T f bl) (hX : OwnX b gd g T w0 w) (hb : Below w.heap.size w w') (hk : w.heap.size ≤ k) (ho : w'.heap[k]? = some o) : ∃ T', OwnX b gd g T' w0 w' ∧ RfT (k, o) m sb bb M T' f bl := by
  obtain ⟨l1, l2, l3⟩ := (h.get hX).lt
  obtain ⟨om, os, ob, rfl, _, hh⟩ := h
  refine ⟨[(m, om), (sb, os), (bb, ob), (k, o)], (hX.holds hb hk ho).subs (fun z hz => ?_), om, os, ob, rfl, ⟨by show m ≠ k; omega, by show sb ≠ k; omega, by show bb ≠ k; omega⟩, hh⟩
  simp only [List.mem_cons, List.not_mem_nil, or_false] at hz ⊢
  rcases hz with rfl | rfl | rfl | rfl <;> simp
/-- Drop, of whatever slot. -/
theorem OwnX.dDrop_all (h : OwnX b gd g T w0 w) (hT : (x, depO g first n) ∈ T) (hD : De b first n hs bl) (hf : first ≤ 2000) (hn : n ≤ 64) (i : Int) (ht : b.txn.length < 60) :
    ∃ k t hs', De { b with txn := t } first n hs' bl ∧ Tx b t first (first + 5 * n) 1 ∧ Calls Tryz.prog 30 #[.pointer (some ⟨x, 0, none⟩), .int .i64 i] w (TQ k (fun w' => OwnX { b with txn := t } gd g T w0 w')) := by
  by_cases h0 : (getOf hs bl n i).2 = 0
  · unfold getOf at h0
    split at h0
    · exact absurd h0 (by decide)
    · rename_i hi
      split at h0
      · rename_i hl
        obtain ⟨s, rfl⟩ : ∃ s : Nat, i = (s : Int) := ⟨i.toNat, by omega⟩
        rw [Int.toNat_natCast] at hl
        obtain ⟨t, hP, hc⟩ := h.dDrop hT hD hf hn (s := s) (by omega) hl ht
        exact ⟨0, t, _, hP.de, hP.tx, hc⟩
      · exact absurd h0 (by decide)
  · exact ⟨_, b.txn, hs, hD, (Tx.refl b _ _).mono (by omega), h.dDrop_no hT hD hf hn i h0⟩
/-- Put, whether there is room or not. -/
theorem OwnX.dPut_all (h : OwnX b gd g T w0 w) (hT : (x, depO g first n) ∈ T) (hD : De b first n hs bl) (hf : first ≤ 2000) (hn : n ≤ 64) {p : List UInt8} (hpl : p.length = 64) (ht : b.txn.length ≤ 58) :
    ∃ r k t hs' bl', De { b with txn := t } first n hs' bl' ∧ Tx b t first (first + 5 * n) 2 ∧ Calls Tryz.prog 10 #[.pointer (some ⟨x, 0, none⟩), pageV p] w (TQ2 (.int .i64 r) k (fun w' => OwnX { b with txn := t } gd g T w0 w')) := by
  cases hr : roomL (-1) hs with
  | none => exact ⟨0, 20, b.txn, hs, bl, hD, (Tx.refl b _ _).mono (by omega), h.dPut_full hT hD hf hn hpl hr⟩
  | some s =>
    obtain ⟨t, hP, hc⟩ := h.dPut hT hD hf hn hpl hr ht
    exact ⟨_, 0, t, _, _, hP.de, hP.tx, hc⟩
end
theorem bk300 : (bk1 300 100).pages = 198 := (fr (D := 300) (n := 100) (by omega) (by omega) (by omega) (by omega)).pages
attribute [local irreducible] bk1 bk0
set_option maxRecDepth 100000 in
theorem depotUndone_long (bp bq : Option Addr) (N cap K cap2 : Nat) (h : 200 < N + K) (hN : N ≤ 1000000000000000) (hK : K ≤ 1000000000000000) (w : World) :
    Calls Tryz.prog 5 #[.slice bp N cap, .slice bq K cap2] w (RetP (.bool true) w) := by
  have g3 : (200 : Int) < (N : Int) + (K : Int) := by omega
  have ws : IntKind.i64.wrap ((N : Int) + (K : Int)) = (N : Int) + (K : Int) := IntWalk.i64_in _ (by omega)
  clear h hN hK
  go_enter Tryz.func5, Tryz.ntmps5
  go_wp2_with (first
    | (go_at_call 8; refine (stands7_any _).mono ?_))
  rintro e w1 ⟨rfl, hb1⟩
  have Hb1 := Lib.hid hb1
  clear hb1
  go_wp2
  go_ret
  exact ⟨rfl, Hb1.out⟩
set_option maxRecDepth 100000 in
set_option maxHeartbeats 64000000 in
theorem depotUndone_ok (bp bq : Option Addr) (cs ds : List (Int × Int × UInt8)) (cap cap2 : Nat) (hle : cs.length + ds.length ≤ 200) (w : World) (hL : Laid w) (hC : TriplesAt w.heap.size w bp cs) (hC2 : TriplesAt w.heap.size w bq ds) :
    Calls Tryz.prog 5 #[.slice bp cs.length cap, .slice bq ds.length cap2] w (RetP (.bool true) w) := by
  obtain ⟨N, hNe⟩ : ∃ N, cs.length = N := ⟨_, rfl⟩
  obtain ⟨K, hKe⟩ : ∃ K, ds.length = K := ⟨_, rfl⟩
  have HNe := Lib.hid hNe; have HKe := Lib.hid hKe
  rw [hNe, hKe] at hle ⊢
  have g3 : ¬ ((200 : Int) < (N : Int) + (K : Int)) := by omega
  have ws : IntKind.i64.wrap ((N : Int) + (K : Int)) = (N : Int) + (K : Int) := IntWalk.i64_in _ (by omega)
  obtain ⟨hP0, ht0⟩ := dep_new
  have HP0 := Lib.hid hP0; have Ht0 := Lib.hid ht0
  have HC := Lib.hid hC; have HC2 := Lib.hid hC2; have HL := Lib.hid hL
  clear hP0 ht0 hNe hKe hC hC2 hL
  go_enter Tryz.func5, Tryz.ntmps5
  go_wp2_with (first
    | (go_at_call 8; refine (stands7_any _).mono ?_))
  rintro e w1 ⟨rfl, hb1⟩
  have Hnw := Lib.hid (own_new (B := w.heap.size) (w0 := w) (w := w1) 300 (by omega) (by omega) hb1 (Nat.le_refl _))
  clear hb1
  go_wp2_with (first
    | (go_at_call 16; refine Hnw.out.mono ?_))
  rintro e w2 ⟨gd, rfl, hD⟩
  have Hm := Lib.hid (hD.mountNew (D := 300) (n := 100) (by omega) (by omega) (by omega) (by omega))
  clear hD Hnw g3 ws
  go_wp2_with (first
    | (go_at_call 17; refine Hm.out.mono ?_))
  rintro e w3 ⟨g, rfl, hB⟩
  have hX := OwnX.start hB rfl
  have hpg := hX.pages
  rw [bk300] at hpg
  have Hn := Lib.hid (depNew_ok hpg (by omega) 0 4 (by omega) (by omega) (by omega))
  have HX := Lib.hid hX
  clear hpg hB Hm hX
  go_wp2_with (first
    | (go_at_call 27; refine Hn.out.mono ?_))
  rintro e w4 ⟨x, rfl, hx, hb4, hxl⟩
  have HX0 := Lib.hid (HX.out.holds hb4 hxl hx)
  have Hnew := Lib.hid (rnew7_any 4 (by omega) w4)
  clear Hn HX hx hb4 hxl
  go_wp2_with (first
    | (go_at_call 28; refine Hnew.out.mono ?_))
  rintro e w5 ⟨m, sb, bb, rfl, hR3, hb3, k1, k2, k3⟩
  rw [stN_new 4] at hR3
  obtain ⟨T0, hX3, hRT⟩ := RfT.made HX0.out hR3 hb3 k1 k2 k3
  have HX3 := Lib.hid hX3; have HRT := Lib.hid hRT
  clear hR3 hb3 k1 k2 k3 hX3 hRT HX0 Hnew
  go_wp2
  go_loopg [46] N (fun mm v wr => ∃ (i : Nat) (b : Bk) (hs : List (List UInt8)) (bl : Nat → List UInt8) (T : List (Nat × Obj)), mm = N - i ∧ i ≤ N ∧ v = .int .i64 i ∧ OwnX b gd g T w wr ∧ Dep b 0 4 300 i hs bl ∧ RfT (x, depO g 0 4) m sb bb (4 * 4) T (stN hs) bl ∧ b.txn = [])
  case atStart => exact ⟨0, _, _, _, T0, rfl, by omega, rfl, HX3.out, HP0.out, HRT.out, Ht0.out⟩
  case round =>
    clear HX3 HP0 Ht0 HRT
    obtain ⟨i, b, hs, bl, T, rfl, hiN, rfl, hX, hP, hR, ht⟩ := hrel
    by_cases hlt : i < N
    case neg =>
      have hlt' : ¬ ((i : Int) < (N : Int)) := by omega
      obtain ⟨bS, eS, hPS, haS, htS⟩ := hP.sync
      rw [ht] at htS
      have hsy := hX.sync hP.de.ok (by have := hP.co.ats; omega)
      rw [eS] at hsy
      have Hsy := Lib.hid hsy; have HPS := Lib.hid hPS; have HaS := Lib.hid haS; have HtS := Lib.hid htS; have HR := Lib.hid hR
      clear hsy hPS haS htS hR hX hP ht eS hlt
      go_wp2_with (first
        | (go_at_call 21; refine Hsy.out.mono ?_))
      rintro e w6 ⟨v6, rfl, hE6, hX6⟩
      obtain rfl := ErrV.zero hE6
      have HX6 := Lib.hid hX6
      clear hE6 hX6 Hsy hlt'
      go_wp2
      go_loopg [65] K (fun mm v wq => ∃ (j : Nat) (t : List Chg) (hs2 : List (List UInt8)) (bl2 : Nat → List UInt8), mm = K - j ∧ j ≤ K ∧ v = .int .i64 j ∧ OwnX { bS with txn := t } gd g T w wq ∧ De { bS with txn := t } 0 4 hs2 bl2 ∧ InR { bS with txn := t } 0 (0 + 5 * 4))
      case atStart => exact ⟨0, [], hs, bl, rfl, by omega, rfl, by rw [txn_same HtS.out]; exact HX6.out, by rw [txn_same HtS.out]; exact HPS.out.de, inr_nil _ _ _⟩
      case round =>
        clear HX6
        rename World => wq
        obtain ⟨j, t, hs2, bl2, rfl, hjK, rfl, hX, hD, hI⟩ := hrel
        have hsp : t.length ≤ 20 := hD.span hI
        by_cases hlj : j < K
        case neg =>
          have hlt2 : ¬ ((j : Int) < (K : Int)) := by omega
          have Hu := Lib.hid hX.undo
          clear hX hD hI hsp hlj
          go_wp2_with (first
            | (go_at_call 24; refine Hu.out.mono ?_))
          rintro e w7 ⟨rfl, hX7⟩
          have hX7 : OwnX { bS with txn := [] } gd g T w w7 := hX7
          rw [txn_same HtS.out] at hX7
          have Hal := Lib.hid (alike_any hX7 HPS.out.de (by omega) (by omega) HR.out)
          have HX7 := Lib.hid hX7
          clear hX7 Hu hlt2
          go_wp2_with (first
            | (go_at_call 31; refine Hal.out.mono ?_))
          rintro e w8 ⟨rfl, hb8⟩
          have hX8 := HX7.out.below hb8
          have Hcr := Lib.hid (hX8.crash HPS.out.de.ok.good (by rw [HaS.out]; simp))
          obtain ⟨b', m0, rs, r, hDe', ht'⟩ := HPS.out.remount HtS.out HaS.out (by omega)
          have HDe' := Lib.hid hDe'; have Hr := Lib.hid r
          have hP2 : b'.pages ≤ 2048 := Nat.min_le_right _ _
          have hroom := hDe'.room
          clear hX8 hb8 Hal HX7 r hDe' ht'
          go_wp2_with (first
            | (go_at_call 25; refine Hcr.out.mono ?_))
          rintro e w9 ⟨gd', rfl, hD9⟩
          have hm := hD9.mountR Hr.out (by rw [HPS.out.co.n, HPS.out.co.firm]; omega) (by have := HPS.out.co.gen; omega)
          rw [HPS.out.co.n] at hm
          have Hm : Hid (Calls Tryz.prog 17 #[.pointer (some ⟨gd', 0, none⟩), .int .i64 100] w9 (MntR b' gd' T w)) := Lib.hid hm
          clear hm hD9 Hcr Hr
          go_wp2_with (first
            | (go_at_call 17; refine Hm.out.mono ?_))
          rintro e w10 ⟨g', rfl, hX10⟩
          have Hn := Lib.hid (depNew_ok hX10.pages hP2 0 4 (by omega) (by omega) (by omega))
          have HX10 := Lib.hid hX10
          clear hX10 Hm hP2 hroom
          go_wp2_with (first
            | (go_at_call 27; refine Hn.out.mono ?_))
          rintro e w11 ⟨x', rfl, hx, hb11, hxl⟩
          obtain ⟨T', hX11, hR11⟩ := HR.out.moved HX10.out hb11 hxl (o := depO g' 0 4) hx
          have Hal := Lib.hid (alike_any hX11 HDe'.out (by omega) (by omega) hR11)
          have HX11 := Lib.hid hX11; have HR11 := Lib.hid hR11
          clear hX11 hR11 hx hb11 hxl Hn HX10
          go_wp2_with (first
            | (go_at_call 31; refine Hal.out.mono ?_))
          rintro e w12 ⟨rfl, hb12⟩
          have hX12 := HX11.out.below hb12
          have c0 : w12.cell? ⟨m, 0, none⟩ = some (.slice (some ⟨sb, 0, none⟩) 16 16) := (HR11.out.get hX12).c0
          have HX12 := Lib.hid hX12
          clear hX12 hb12 Hal HX11
          go_wp2
          clear c0
          go_loopg [119] 16 (fun mm v wz => ∃ k : Nat, mm = 16 - k ∧ k ≤ 16 ∧ v = .int .i64 k ∧ OwnX b' gd' g' T' w wz)
          case atStart => exact ⟨0, rfl, by omega, rfl, HX12.out⟩
          case round =>
            clear HX12
            obtain ⟨k, rfl, hkM, rfl, hX⟩ := hrel
            by_cases hlk : k < 16
            · have hlk' : (k : Int) < 16 := by omega
              have hbo := both3_any hX HL.out HDe'.out (by omega) (by omega) HR11.out (k : Int) 0
              obtain ⟨pv, Hpv⟩ : ∃ pv : Array Value, Hid (pv = #[.int .i64 3, .int .i64 (k : Int), cu8 0]) := ⟨_, rfl⟩
              have hcv : callV 3 (k : Int) 0 = .agg pv := by rw [Hpv.out]; rfl
              rw [hcv] at hbo
              have HB : Hid (Tryz.prog.built 69 [(0, .int .i64 3), (1, .int .i64 (k : Int))] = some pv) := by rw [Hpv.out]; exact built_call _
              have Hbo := Lib.hid hbo
              clear hbo hcv hX
              go_wp2_with (first
                | (refine wpList_buildC (.const (.int .i64 3)) (.tmp 125) rfl _ _ rfl rfl _ HB.out (by rfl) ?_)
                | (go_at_call 29; refine Hbo.out.mono ?_))
              rintro e w5 ⟨rfl, hX5⟩
              have HX5 := Lib.hid hX5
              clear hX5 Hbo HB
              go_wp2
              go_roundg (16 - (k + 1))
              case measure => omega
              case rel => exact ⟨k + 1, rfl, by omega, by go_num, HX5.out⟩
            · obtain rfl : k = 16 := by omega
              have Hb := Lib.hid hX.bel
              clear hX hlk
              go_wp2
              go_ret
              exact ⟨rfl, Hb.out⟩
        have hlt' : (j : Int) < (K : Int) := by omega
        have hka : j < ds.length := by rw [HKe.out]; exact hlj
        obtain ⟨bq, oq, hbe, hbq, hcs⟩ := (HC2.out.below hX.bel).resolve_left (by intro h0; rw [h0] at hka; simp at hka)
        subst hbe
        obtain ⟨⟨kd, sl, wh⟩, hq⟩ : ∃ q, ds[j] = q := ⟨_, rfl⟩
        obtain ⟨e0, e1, e2⟩ := hcs j (kd, sl, wh) (by rw [List.getElem?_eq_getElem hka, hq])
        obtain ⟨pv, Hpv⟩ : ∃ pv : List Value, Hid (pv = [.int .i64 kd, .int .i64 sl, cu8 wh]) := ⟨_, rfl⟩
        have Hrg : Hid (wq.rangeAt bq (oq + j * 3) pv) := Lib.hid (range7 Hpv.out e0 e1 e2)
        obtain ⟨hpl, hpi, hpi2, hpz, hp1⟩ := call_facts Hpv.out
        have hba : Below wq.heap.size wq (wq.alloc (.cells pv.toArray 69)) := (Below.refl _ _).alloc (Nat.le_refl _) _
        have hx1 : (wq.alloc (.cells pv.toArray 69)).heap[wq.heap.size]? = some (.cells pv.toArray 69 (0, 0)) := heap_alloc_new wq _
        have HX1 := Lib.hid (hX.below hba); have HD := Lib.hid hD; have HI := Lib.hid hI
        clear hX hD hI hcs hq e0 e1 e2 hlj hka hba
        go_upto_region 22 with (first
          | (refine wpList_load_mid rfl 69 _ rfl bq (oq + j * 3) rfl pv _ Hrg.out Tryz.underlying69 rfl hpi.out ?_; clear hpi)
          | (refine wpList_alloc_arr rfl 69 rfl _ allocC7 ?_)
          | (refine wpList_store_new rfl 69 _ _ rfl wq.heap.size rfl pv.toArray rfl rfl 69 _ hpi2.out hpz.out hp1.out ?_))
        have hX4 := HX1.out
        clear HX1 hpi2 hpz hp1 Hrg
        generalize wq.alloc (.cells pv.toArray 69) = w4 at hx1 hX4 ⊢
        obtain ⟨y, hy⟩ : ∃ y, wq.heap.size = y := ⟨_, rfl⟩
        rw [hy] at hx1 ⊢
        have ck0 : w4.cell? ⟨y, 0, none⟩ = some (.int .i64 kd) := by rw [cell_of_row w4 y 0 _ _ _ hx1, Hpv.out]; rfl
        have ck1 : w4.cell? ⟨y, 1, none⟩ = some (.int .i64 sl) := by rw [cell_of_row w4 y 1 _ _ _ hx1, Hpv.out]; rfl
        have ck2 : w4.cell? ⟨y, 2, none⟩ = some (.int .u8 (wh.toNat : Int)) := by rw [cell_of_row w4 y 2 _ _ _ hx1, Hpv.out, ← cu8_nat]; rfl
        clear hy hx1 Hpv hpl
        by_cases h0 : kd = 0
        · subst h0
          obtain ⟨p1, Hp1⟩ : ∃ p1 : List Value, Hid (p1 = page1 wh) := ⟨_, rfl⟩
          have hpV : pageV (pg1 wh) = .agg p1.toArray := by rw [pg1_v, Hp1.out]
          have HB : Hid (Tryz.prog.built 33 [(0, .int .u8 (wh.toNat : Int))] = some p1.toArray) := by
            have := built_one wh
            rw [cu8_nat] at this
            rw [Hp1.out]; exact this
          clear ck1
          obtain ⟨r, q, t', hs3, bl3, hD3, hx3, hpt⟩ := hX4.dPut_all HR.out.mem HD.out (by omega) (by omega) (pg1_len wh) (by show t.length ≤ 58; omega)
          rw [hpV] at hpt
          have Hpt := Lib.hid hpt; have HD3 := Lib.hid hD3; have HI3 := Lib.hid (HI.out.tx hx3)
          clear hpt hpV hX4 hD3 hx3 HD HI hsp
          go_wp2_with (first
            | (refine wpList_build1 (.tmp 75) rfl _ rfl _ HB.out (by rfl) ?_)
            | (go_at_call 10; refine Hpt.out.mono ?_))
          rintro e wt ⟨v9, rfl, hE9, hXt⟩
          have HXt := Lib.hid hXt
          clear hE9 hXt Hpt HB ck0 ck2
          go_wp2
          go_roundg (K - (j + 1))
          case measure => omega
          case rel => exact ⟨j + 1, t', hs3, bl3, rfl, by omega, by go_num, HXt.out, HD3.out, HI3.out⟩
        have hk0 : (kd == 0) = false := by simpa using h0
        clear ck2
        by_cases h1 : kd = 1
        · subst h1
          obtain ⟨k, t', hs3, hD3, hx3, hdr⟩ := hX4.dDrop_all HR.out.mem HD.out (by omega) (by omega) sl (by show t.length < 60; omega)
          have Hdr := Lib.hid hdr; have HD3 := Lib.hid hD3; have HI3 := Lib.hid (HI.out.tx hx3)
          clear hdr hX4 hD3 hx3 HD HI hsp h0
          go_wp2_with (first
            | (go_at_call 30; refine Hdr.out.mono ?_))
          rintro e wt ⟨v9, rfl, hE9, hXt⟩
          have HXt := Lib.hid hXt
          clear hE9 hXt Hdr ck0 ck1
          go_wp2
          go_roundg (K - (j + 1))
          case measure => omega
          case rel => exact ⟨j + 1, t', hs3, bl2, rfl, by omega, by go_num, HXt.out, HD3.out, HI3.out⟩
        have hk1 : (kd == 1) = false := by simpa using h1
        have HX4 := Lib.hid hX4
        clear hX4 ck1 hsp
        go_wp2
        go_roundg (K - (j + 1))
        case measure => omega
        case rel => exact ⟨j + 1, t, hs2, bl2, rfl, by omega, by go_num, HX4.out, HD.out, HI.out⟩
    have hlt' : (i : Int) < (N : Int) := by omega
    have hka : i < cs.length := by rw [HNe.out]; exact hlt
    obtain ⟨bq, oq, hbe, hbq, hcs⟩ := (HC.out.below hX.bel).resolve_left (by intro h0; rw [h0] at hka; simp at hka)
    subst hbe
    obtain ⟨⟨kd, sl, wh⟩, hq⟩ : ∃ q, cs[i] = q := ⟨_, rfl⟩
    obtain ⟨e0, e1, e2⟩ := hcs i (kd, sl, wh) (by rw [List.getElem?_eq_getElem hka, hq])
    obtain ⟨pv, Hpv⟩ : ∃ pv : List Value, Hid (pv = [.int .i64 kd, .int .i64 sl, cu8 wh]) := ⟨_, rfl⟩
    have Hrg : Hid (wr.rangeAt bq (oq + i * 3) pv) := Lib.hid (range7 Hpv.out e0 e1 e2)
    obtain ⟨hpl, hpi, hpi2, hpz, hp1⟩ := call_facts Hpv.out
    have hba : Below wr.heap.size wr (wr.alloc (.cells pv.toArray 69)) := (Below.refl _ _).alloc (Nat.le_refl _) _
    have hx1 : (wr.alloc (.cells pv.toArray 69)).heap[wr.heap.size]? = some (.cells pv.toArray 69 (0, 0)) := heap_alloc_new wr _
    have hX1 := hX.below hba
    have hats : b.S.ats.length ≤ 9000 := by have := hP.co.ats; omega
    have hbo := both_any hX1 HL.out hP.de (by omega) (by omega) hR (by omega) ht kd sl wh
    have hcv : callV kd sl wh = .agg pv.toArray := by rw [Hpv.out]; rfl
    rw [hcv] at hbo
    have HP := Lib.hid hP
    clear hX hX1 hP hR ht hcs hq e0 e1 e2 hlt hka hba hcv
    go_upto_region 12 with (first
      | (refine wpList_load_mid rfl 69 _ rfl bq (oq + i * 3) rfl pv _ Hrg.out Tryz.underlying69 rfl hpi.out ?_)
      | (refine wpList_alloc_arr rfl 69 rfl _ allocC7 ?_)
      | (refine wpList_store_new rfl 69 _ _ rfl wr.heap.size rfl pv.toArray rfl rfl 69 _ hpi2.out hpz.out hp1.out ?_))
    clear hpi2 hpz hp1 Hrg
    generalize wr.alloc (.cells pv.toArray 69) = w4 at hx1 hbo ⊢
    obtain ⟨y, hy⟩ : ∃ y, wr.heap.size = y := ⟨_, rfl⟩
    rw [hy] at hx1 ⊢
    have HRg : Hid (w4.rangeAt y 0 pv) := Lib.hid (fun j v hj => by rw [Nat.zero_add, cell_of_row w4 y j _ _ _ hx1]; simpa using hj)
    have Hbo := Lib.hid hbo
    clear hy hx1 Hpv hpl hbo
    go_wp2_with (first
      | (refine wpList_load_mid rfl 69 _ rfl y 0 rfl pv _ HRg.out Tryz.underlying69 rfl hpi.out ?_)
      | (go_at_call 29; refine Hbo.out.mono ?_))
    rintro e w5 ⟨rfl, t5, hs5, bl5, T5, hX5, hD5, hR5, ht5, hI5, hn5⟩
    obtain ⟨hn5, hb5⟩ := hn5 HP.out.bl9
    obtain ⟨b7, k7, hP7, ht7⟩ := HP.out.comm hD5 ⟨by omega, fun c hc => by have := hI5 c hc; omega, hn5⟩ ht5 hb5 (by omega)
    have hcm := hX5.commit hD5.ok (show b.S.ats.length ≤ 10000 by omega)
    rw [k7.c] at hcm
    have Hcm := Lib.hid hcm; have HP7 := Lib.hid hP7; have Ht7 := Lib.hid ht7; have HR5 := Lib.hid hR5
    clear hcm hP7 ht7 k7 hR5 hX5 hD5 ht5 hI5 hn5 hb5 Hbo HRg hpi HP
    go_wp2_with (first
      | (go_at_call 20; refine Hcm.out.mono ?_))
    rintro e w7 ⟨v7, rfl, hE7, hX7⟩
    obtain rfl := ErrV.zero hE7
    have HX7 := Lib.hid hX7
    clear hX7 hE7 Hcm
    go_wp2
    go_roundg (N - (i + 1))
    case measure => omega
    case rel => exact ⟨i + 1, b7, _, _, T5, rfl, by omega, by go_num, HX7.out, HP7.out, HR5.out, Ht7.out⟩
theorem depotUndone_any (bp bq : Option Addr) (cs ds : List (Int × Int × UInt8)) (cap cap2 : Nat) (h1 : cs.length ≤ 1000000000000000) (h2 : ds.length ≤ 1000000000000000) (w : World) (hC : TriplesAt w.heap.size w bp cs) (hC2 : TriplesAt w.heap.size w bq ds) (hL : Laid w) :
    Calls Tryz.prog 5 #[.slice bp cs.length cap, .slice bq ds.length cap2] w (RetP (.bool true) w) := by
  by_cases h : 200 < cs.length + ds.length
  · exact depotUndone_long bp bq _ cap _ cap2 h h1 h2 w
  · exact depotUndone_ok bp bq cs ds cap cap2 (by omega) w hL hC hC2
end Go.Proofs.YtjkkbceddbkejaaGreatDoor
