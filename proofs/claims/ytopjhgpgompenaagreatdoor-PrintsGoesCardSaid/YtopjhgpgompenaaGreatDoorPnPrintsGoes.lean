/-
  'PrintsGoes': its walk.
-/
import Derived.Test.YtopjhgpgompenaaGreatDoorJPga
set_option linter.unusedSimpArgs false
set_option linter.unusedVariables false
namespace Go.Proofs.YtopjhgpgompenaaGreatDoor
open Go.RowKit Sh Go.Maps Go.Extern.Stop Go.Stop Go.Extern

theorem built_dg3 (a c d : UInt8) : Tryz.prog.built 71 [(0, cu8 a), (1, cu8 c), (2, cu8 d)] = some ((a :: c :: d :: List.replicate 29 0).map cu8).toArray := by kernel_rfl
theorem built_dgA (a : UInt8) : Tryz.prog.built 71 [(0, cu8 a)] = some ((a :: List.replicate 31 0).map cu8).toArray := by kernel_rfl
theorem wpList_bld3 {ops : Array Oper} {Q : Exit → Act → World → Prop} {a : Act} {w : World} {o : Oper} {rest : List Oper} (T : TypeId) (x y z : Operand) (ho : o.op = .build T #[(0, x), (1, y), (2, z)]) (v u r : Value) (hx : a.eval x = v) (hy : a.eval y = u) (hz : a.eval z = r) (p : Array Value)
    (hb : Tryz.prog.built T [(0, v), (1, u), (2, r)] = some p) (hw : Region.wanted o (yielded ops a.tmps) = true) (h : wpList Tryz.prog ops Q rest (a.put o.dst (.agg p)) w) : wpList Tryz.prog ops Q (o :: rest) a w := by
  refine wpList_val hw (exec_build w ho ?_) h
  have e : ((#[(0, x), (1, y), (2, z)] : Array (Nat × Operand)).map fun (i, x) => (i, a.eval x)).toList = [(0, v), (1, u), (2, r)] := by simp [hx, hy, hz]
  rw [e]; exact hb
theorem u8_of2 {i : Nat} (h : i < 256) : IntKind.u8.wrap (i : Int) = (i : Int) ∧ (UInt8.ofNat i).toNat = i := by
  constructor
  · rw [IntKind.wrap_u8]; omega
  · rw [UInt8.toNat_ofNat']; omega
theorem HB3of (i : Nat) (h : i < 256) : Tryz.prog.built 71 [(0, .int .u8 9), (1, .int .u8 9), (2, .int .u8 (i : Int))] = some ((dgG i).map cu8).toArray := by
  have := built_dg3 9 9 (UInt8.ofNat i)
  rw [cu8P 9, cu8P (UInt8.ofNat i), (u8_of2 h).2] at this
  exact this
def dgOne : List UInt8 := 1 :: List.replicate 31 0
theorem noE_ok : EntOk noE := { dg := List.length_replicate, slot := Nat.lt_of_sub_eq_succ rfl, refs := Nat.zero_le _ }
theorem HB1of : Tryz.prog.built 71 [(0, .int .u8 1)] = some (dgOne.map cu8).toArray := by
  have := built_dgA 1
  have e1 : ((1 : UInt8).toNat : Int) = 1 := rfl
  rw [cu8P 1, e1] at this
  rw [this, dgOne]
/-- The row of booleans that the law is handed. -/
structure Gone (w : World) (ap : Option Addr) (gl : Nat) (B : Nat → Bool) : Prop where
  le : gl ≤ maxLen
  at_ : ∀ i, i < gl → ∃ a, ap = some a ∧ (a.add i).block < w.heap.size ∧ w.cell? (a.add i) = some (.bool (B i))
theorem Gone.below {w w' : World} {ap : Option Addr} {gl : Nat} {B : Nat → Bool} (h : Gone w ap gl B) (hb : Below w.heap.size w w') {i : Nat} (hi : i < gl) : ∃ a, ap = some a ∧ w'.cell? (a.add i) = some (.bool (B i)) := by
  obtain ⟨a, h1, h2, h3⟩ := h.at_ i hi
  exact ⟨a, h1, (hb.cell (p := a.add i) h2).trans h3⟩
attribute [local irreducible] bk1 bk0
set_option maxRecDepth 100000 in
set_option maxHeartbeats 64000000 in
theorem printsGoes_any (nI : Int) (hnI : -9223372036854775808 ≤ nI ∧ nI ≤ 9223372036854775807) (ap : Option Addr) (gl cap : Nat) (B : Nat → Bool) (w : World) (hG : Gone w ap gl B) (hL : Laid w) :
    Calls Tryz.prog 11 #[.int .i64 nI, .slice ap gl cap] w (RetP (.bool true) w) := by
  obtain ⟨s1, km, r1, a1, a2, a3, a4⟩ := pn_mod nI 15 (by omega) (by omega)
  have n15 : ((15 : Nat) : Int) = 15 := rfl
  rw [n15] at a1 a2 a3
  obtain ⟨K, hKe⟩ : ∃ K, km + 1 = K := ⟨_, rfl⟩
  have hK1 : 1 ≤ K := by omega
  have hK15 : K ≤ 15 := by omega
  have HKI := Lib.hid (show (km : Int) + 1 = (K : Int) by omega)
  obtain ⟨hT0, _, ht0⟩ := ta300 K (by omega)
  have HT0 := Lib.hid hT0; have Ht0 := Lib.hid ht0
  have Hfr := Lib.hid (fun (w1 : World) (hb1 : Below w.heap.size w w1) => fresh8_any K hK1 (by omega) w w1 hb1)
  have HG := Lib.hid hG
  have hglm := hG.le
  obtain ⟨z32, Hz32⟩ : ∃ z32 : Array Value, Hid (z32 = ((List.replicate 32 (0 : UInt8)).map cu8).toArray) := ⟨_, rfl⟩
  have hald : ∀ w : World, (Instr.alloc 71 true (.tuple #[])).run Tryz.prog w = .ok (.pointer (some ⟨w.heap.size, 0, none⟩)) (w.alloc (.cells z32 71)) := by rw [Hz32.out]; exact allocDg
  obtain ⟨zv, Hz⟩ : ∃ zv : Array Value, Hid (zv = (entC noE).toArray) := ⟨_, rfl⟩
  have hbz : Hid (Tryz.prog.built 73 [] = some zv) := by rw [Hz.out]; exact builtEnt0
  have HzV := Lib.hid (show entV noE = .agg zv by rw [Hz.out]; rfl)
  clear n15 hT0 ht0 hKe hL hG
  go_enter Tryz.func11, Tryz.ntmps11
  go_wp2_with (first
    | (go_at_call 34; refine (stands8_any _).mono ?_))
  rintro e w1 ⟨rfl, hb1⟩
  go_upto_region 4 with (fail)
  rw [HKI.out]
  have Hfr1 := Lib.hid (Hfr.out w1 hb1)
  clear a1 a2 a3 Hfr hb1 HKI
  go_wp2_with (first
    | (go_at_call 43; refine Hfr1.out.mono ?_))
  rintro e w2 ⟨gd, g, x, rfl, hX0⟩
  have hmm := @run_makeMap Tryz.prog
  go_upto_region 6 with (fail)
  obtain ⟨hXm, hMm⟩ := MT.made hX0
  generalize w2.alloc (.map #[] 0) = wm at hXm ⊢
  generalize w2.heap.size = mb at hXm hMm ⊢
  have HXm := Lib.hid hXm; have HMm := Lib.hid hMm
  clear hmm Hfr1 hX0 hXm hMm
  go_wp2
  go_loopg [40] K (fun m v wr => ∃ (i : Nat) (b : Bk) (es : List Ent) (f : Nat → Nat) (D : DataW Unit) (T : List (Nat × Obj)), m = K - i ∧ i ≤ K ∧ v = .int .i64 i ∧ OwnX b gd g T w wr ∧ MT (x, tabO g 3 K) mb T i D ∧ Holds D f i ∧ Ta b 3 K es ∧ GF (fun _ => true) f es K i ∧ usedE es = i ∧ b.txn.length ≤ i)
  case atStart => exact ⟨0, _, _, (fun _ => 0), _, _, rfl, by omega, rfl, HXm.out, HMm.out, Holds.zero _ _, HT0.out, GF.zero _ _ _, usedE_new _, by rw [Ht0.out]; simp⟩
  case round =>
    clear HXm HMm HT0 Ht0
    obtain ⟨i, b, es, f, D, T, rfl, hiK, rfl, hX, hM, hH, hTa, hF, hU, ht⟩ := hrel
    by_cases hlt : i < K
    · have hlt' : (i : Int) < (K : Int) := by omega
      have HX := Lib.hid hX; have HTa := Lib.hid hTa; have HF := Lib.hid hF; have HM := Lib.hid hM; have HH := Lib.hid hH; have HU := Lib.hid hU
      clear hX hTa hF hM hH hU
      obtain ⟨hu8, hun⟩ := u8_of2 (show i < 256 by omega)
      obtain ⟨dv, Hdv⟩ : ∃ dv : List Value, Hid (dv = (dgG i).map cu8) := ⟨_, rfl⟩
      have HB3 : Hid (Tryz.prog.built 71 [(0, .int .u8 9), (1, .int .u8 9), (2, .int .u8 (i : Int))] = some dv.toArray) := by rw [Hdv.out]; exact HB3of i (by omega)
      have hdl : dv.length = 32 := by rw [Hdv.out, List.length_map, dgG_len]
      have hdi : Hid ((Tryz.prog.info? 71).map (·.size) = some dv.toArray.size) := by rw [List.size_toArray, hdl]; exact info32
      have hdi2 : Hid ((Tryz.prog.info? 71).map (·.size) = some dv.length) := by rw [hdl]; exact info32
      have hdz : Hid (z32.size = dv.toArray.size) := by rw [Hz32.out, List.size_toArray, List.size_toArray, hdl]; rfl
      have hd1 : Hid (dv.toArray.all (·.oneCell') = true) := by rw [Hdv.out]; exact bytes_one _
      have HdV := Lib.hid (show digV (dgG i) = .agg dv.toArray by rw [Hdv.out]; rfl)
      go_upto_region 10 with (first
        | (refine wpList_bld3 71 (.const (.int .u8 9)) (.const (.int .u8 9)) (.tmp 44) rfl (.int .u8 9) (.int .u8 9) (.int .u8 (i : Int)) rfl rfl rfl dv.toArray HB3.out (by rfl) ?_)
        | (refine wpList_alloc_arr rfl 71 rfl _ hald ?_)
        | (refine wpList_store_new rfl 71 _ _ rfl wr.heap.size rfl dv.toArray rfl rfl 71 _ hdi.out hdz.out hd1.out ?_))
      have hb8 : Below wr.heap.size wr (wr.alloc (.cells dv.toArray 71)) := (Below.refl _ _).alloc (Nat.le_refl _) _
      have hy8 : (wr.alloc (.cells dv.toArray 71)).heap[wr.heap.size]? = some (.cells dv.toArray 71 (0, 0)) := heap_alloc_new wr _
      have hX8 := HX.out.holdsP hb8 (Nat.le_refl _) hy8
      generalize wr.alloc (.cells dv.toArray 71) = w8 at hb8 hy8 hX8 ⊢
      generalize wr.heap.size = y at hb8 hy8 hX8 ⊢
      obtain ⟨T2, hT2⟩ : ∃ T2, (y, Obj.cells dv.toArray 71 (0, 0)) :: T = T2 := ⟨_, rfl⟩
      rw [hT2] at hX8
      have HTx := Lib.hid (show (x, tabO g 3 K) ∈ T2 by rw [← hT2]; exact List.mem_cons_of_mem _ HM.out.mem)
      have HTy := Lib.hid (show (y, Obj.cells dv.toArray 71 (0, 0)) ∈ T2 by rw [← hT2]; simp)
      have HT2 := Lib.hid hT2
      have HX8 := Lib.hid hX8
      clear HB3 hdz hd1 hb8 hy8 hX8 hT2 HX
      have hfr := HX8.out.pFree HTx.out HTa.out (by omega) (by omega) hK1 (dgG i) (dgG_len _)
      rw [HdV.out] at hfr
      have hy9 := HX8.out.at_ HTy.out
      cases hlk : lookL fitO es K (homeD (dgG i)) with
      | none => exact absurd ((free_used HF.out.len (by omega)).1 hlk) (by rw [HU.out]; omega)
      | some p =>
        obtain ⟨hpK, hF1, hU1⟩ := HF.out.put HU.out (by omega) hlk
        have HF1 := Lib.hid hF1; have HU1 := Lib.hid hU1
        rw [hlk] at hfr
        have Hfr2 : Hid (Calls Tryz.prog 37 #[.pointer (some ⟨x, 0, none⟩), .agg dv.toArray] w8 (FrP (p : Nat) 0 w8)) := hfr
        clear hfr hlk hF1 hU1 HF HU
        go_wp2_with (first
          | (refine wpList_load_row rfl 71 _ rfl y rfl 71 dv.toArray (0, 0) _ hy9 Tryz.underlying71 rfl hdi.out ?_)
          | (go_at_call 37; refine Hfr2.out.mono ?_))
        rintro e w9 ⟨v9, rfl, hE9, hb9⟩
        obtain rfl := ErrV.zero hE9
        have hX9 := HX8.out.below hb9
        have hyb := hX9.at_ HTy.out
        have hl2 := Lib.hid (run_loadAt_mid (P := Tryz.prog) w9 y 0 71 dv _ (fun j v hj => by rw [Nat.zero_add, cell_of_row w9 y j _ _ _ hyb]; simpa using hj) Tryz.underlying71 rfl hdi2.out)
        obtain ⟨t, hSd, hst⟩ := hX9.pSet HTx.out HTa.out (by omega) (by omega) hpK (entG_ok i (by omega)) (by omega)
        obtain ⟨ev, Hev⟩ : ∃ ev : List Value, Hid (ev = entC (entG i)) := ⟨_, rfl⟩
        have heV : entV (entG i) = .agg ev.toArray := by rw [Hev.out]; rfl
        have HBE : Hid (Tryz.prog.built 73 [(0, .agg dv.toArray), (1, .int .i64 (i : Int)), (2, .int .i64 2)] = some ev.toArray) := by
          have := built_ent dv hdl i 2
          have e : entC (entG i) = dv ++ [Value.int .i64 (i : Int), Value.int .i64 2] := by rw [Hdv.out]; rfl
          rw [Hev.out, e]; exact this
        rw [heV] at hst
        have Hst := Lib.hid hst
        have HTa2 := Lib.hid hSd.ta
        have hlt2 : t.length ≤ i + 1 := by have := hSd.tx.len; omega
        clear hE9 hb9 hX9 hy9 hyb Hfr2 HX8 hst hSd heV HTa
        go_wp2_with (first
          | (have _t := hl2; refine wpList_load_dig _ rfl y 0 rfl _ hl2.out (by rfl) ?_; clear hl2)
          | (have _t := HBE; refine wpList_bldE (.tmp 57) (.tmp 58) (.const (.int .i64 2)) rfl (.agg dv.toArray) (.int .i64 (i : Int)) (.int .i64 2) rfl rfl rfl ev.toArray HBE.out (by rfl) ?_; clear HBE)
          | (go_at_call 42; refine Hst.out.mono ?_))
        rintro e wb ⟨vb, rfl, hEb, hXb⟩
        obtain rfl := ErrV.zero hEb
        rw [← HT2.out] at hXb
        have hXb := hXb.drop
        have hDm := HM.out.isMap hXb
        obtain ⟨wc, T', hput, hXc, hMc⟩ := HM.out.put hXb (by unfold maxLen; omega) (k := i) (v := p) (by omega) (by omega)
        have HXc := Lib.hid hXc; have HMc := Lib.hid hMc
        have HHc := Lib.hid (HH.out.put (p := p) hDm (by omega))
        clear hEb hXb Hst HM HH HT2 HTx HTy hDm hXc hMc
        go_wp2
        go_roundg (K - (i + 1))
        case measure => omega
        case rel => exact ⟨i + 1, _, _, _, _, _, rfl, by omega, by go_num, HXc.out, HMc.out, HHc.out, HTa2.out, HF1.out, HU1.out, hlt2⟩
    · obtain rfl : K = i := by omega
      have hge : ¬ ((K : Int) < (K : Int)) := by omega
      have HX := Lib.hid hX; have HTa := Lib.hid hTa; have HM := Lib.hid hM; have HH := Lib.hid hH; have HU := Lib.hid hU
      obtain ⟨gn, Hgn⟩ : ∃ gn : Nat → Bool, Hid (gn = fun j => decide (j < gl) && B j) := ⟨_, rfl⟩
      have HF := Lib.hid (show GF (lvU gn 0) f es K K by rw [lvU_zero]; exact hF)
      clear hX hTa hM hH hF hU hlt hiK
      go_wp2
      go_loopg [69, 12] K (fun m v lv wr => ∃ (i : Nat) (b : Bk) (es : List Ent) (U : Nat), m = K - i ∧ i ≤ K ∧ v = .int .i64 i ∧ lv = .int .i64 U ∧ OwnX b gd g T w wr ∧ Ta b 3 K es ∧ GF (lvU gn i) f es K K ∧ b.txn.length ≤ K + i ∧ usedE es = U ∧ U ≤ K)
      case atStart => exact ⟨0, b, es, K, rfl, by omega, rfl, rfl, HX.out, HTa.out, HF.out, by omega, HU.out, Nat.le_refl _⟩
      case round =>
        rename World => wp
        clear HX HTa HF HU
        obtain ⟨i, b2, es2, U, rfl, hiK, rfl, rfl, hX, hTa, hF, ht2, hU, hUK⟩ := hrel
        by_cases hlt : i < K
        · have hlt' : (i : Int) < (K : Int) := by omega
          by_cases hil : i < gl
          · have hil' : (i : Int) < (gl : Int) := by omega
            have hb4 : decide ((i : Int) < (gl : Int)) = true := decide_eq_true hil'
            obtain ⟨a, rfl, hca⟩ := HG.out.below hX.bel hil
            cases hB : B i with
            | true =>
              rw [hB] at hca
              have hgi : gn i = true := by rw [Hgn.out]; simp [hil, hB]
              have hlk := HM.out.look hX HH.out (j := i) hlt (by omega)
              obtain ⟨hfK, hF1, hU1⟩ := hF.drop hlt (by omega) hgi
              obtain ⟨t, hSd, hst⟩ := hX.pSet HM.out.mem hTa (by omega) (by omega) hfK noE_ok (by omega)
              rw [HzV.out] at hst
              obtain ⟨U', hU'⟩ : ∃ U', usedE (es2.set (f i) (normE noE)) = U' := ⟨_, rfl⟩
              have wU : IntKind.i64.wrap ((U : Int) - 1) = (U' : Int) := by rw [IntWalk.i64_in _ (by omega)]; omega
              have hUK' : U' ≤ K := by omega
              have HU' := Lib.hid hU'
              have Hst := Lib.hid hst
              have HTa2 := Lib.hid hSd.ta
              have hlt2 : t.length ≤ K + (i + 1) := by have := hSd.tx.len; omega
              have HF1 := Lib.hid hF1
              clear hX hTa hF hst hSd hF1 hU1 hU' hU hB hgi
              go_wp2_with (first
                | (refine wpList_buildZ 73 rfl zv hbz.out (by rfl) ?_)
                | (go_at_call 42; refine Hst.out.mono ?_))
              rintro e wb ⟨vb, rfl, hEb, hXb⟩
              obtain rfl := ErrV.zero hEb
              have HXb := Lib.hid hXb
              clear hEb hXb Hst hlk hca
              go_wp2
              go_roundg (K - (i + 1))
              case measure => omega
              case rel => exact ⟨i + 1, _, _, U', rfl, by omega, by go_num, rfl, HXb.out, HTa2.out, HF1.out, hlt2, HU'.out, hUK'⟩
            | false =>
              rw [hB] at hca
              have hgi : gn i = false := by rw [Hgn.out]; simp [hB]
              have HX := Lib.hid hX; have HTa := Lib.hid hTa; have HU := Lib.hid hU
              have HF := Lib.hid (show GF (lvU gn (i + 1)) f es2 K K by rw [lvU_stay hgi]; exact hF)
              clear hX hTa hF hU hB hgi
              go_wp2
              go_roundg (K - (i + 1))
              case measure => omega
              case rel => exact ⟨i + 1, _, _, U, rfl, by omega, by go_num, rfl, HX.out, HTa.out, HF.out, by omega, HU.out, hUK⟩
          · have hil' : ¬ ((i : Int) < (gl : Int)) := by omega
            have hb4 : decide ((i : Int) < (gl : Int)) = false := decide_eq_false hil'
            have hgi : gn i = false := by rw [Hgn.out]; simp [hil]
            have HX := Lib.hid hX; have HTa := Lib.hid hTa; have HU := Lib.hid hU
            have HF := Lib.hid (show GF (lvU gn (i + 1)) f es2 K K by rw [lvU_stay hgi]; exact hF)
            clear hX hTa hF hU hgi
            go_wp2
            go_roundg (K - (i + 1))
            case measure => omega
            case rel => exact ⟨i + 1, _, _, U, rfl, by omega, by go_num, rfl, HX.out, HTa.out, HF.out, by omega, HU.out, hUK⟩
        · obtain rfl : K = i := by omega
          have hge2 : ¬ ((K : Int) < (K : Int)) := by omega
          have HX := Lib.hid hX; have HTa := Lib.hid hTa; have HF := Lib.hid hF; have HU := Lib.hid hU
          clear hX hTa hF hU hlt hiK
          go_wp2
          go_loopg [93] K (fun m v wr => ∃ i : Nat, m = K - i ∧ i ≤ K ∧ v = .int .i64 i ∧ OwnX b2 gd g T w wr)
          case atStart => exact ⟨0, rfl, by omega, rfl, HX.out⟩
          case round =>
            rename World => wq
            clear HX
            obtain ⟨i, rfl, hiK, rfl, hX⟩ := hrel
            by_cases hlt : i < K
            · have hlt' : (i : Int) < (K : Int) := by omega
              obtain ⟨hfd0, hsl0, hfK⟩ := HF.out.finds (by omega) hlt (homeD (dgG i))
              obtain ⟨hu8, hun⟩ := u8_of2 (show i < 256 by omega)
              obtain ⟨dv, Hdv⟩ : ∃ dv : List Value, Hid (dv = (dgG i).map cu8) := ⟨_, rfl⟩
              have HB3 : Hid (Tryz.prog.built 71 [(0, .int .u8 9), (1, .int .u8 9), (2, .int .u8 (i : Int))] = some dv.toArray) := by rw [Hdv.out]; exact HB3of i (by omega)
              have HdV := Lib.hid (show digV (dgG i) = .agg dv.toArray by rw [Hdv.out]; rfl)
              by_cases hil : i < gl
              · have hil' : (i : Int) < (gl : Int) := by omega
                have hb4 : decide ((i : Int) < (gl : Int)) = true := decide_eq_true hil'
                obtain ⟨a, rfl, hca⟩ := HG.out.below hX.bel hil
                cases hB : B i with
                | true =>
                  rw [hB] at hca
                  have hgi : gn i = true := by rw [Hgn.out]; simp [hil, hB]
                  rw [hgi] at hfd0 hsl0
                  have hfd0 : lookL (fitF (dgG i)) es2 K (homeD (dgG i)) = none := hfd0
                  have hsl0 : lookL (fitS (i : Int)) es2 K 0 = none := hsl0
                  have hfd := hX.pFind HM.out.mem HTa.out (by omega) (by omega) hK1 (dgG i) (dgG_len _)
                  rw [HdV.out, hfd0] at hfd
                  have Hfd : Hid (Calls Tryz.prog 36 #[.pointer (some ⟨x, 0, none⟩), .agg dv.toArray] wq (LkP 0 false 0 wq)) := hfd
                  have Hsl0 := Lib.hid hsl0
                  have HX := Lib.hid hX
                  clear hX hfd hfd0 hsl0 hgi HdV
                  go_wp2_with (first
                    | (refine wpList_bld3 71 (.const (.int .u8 9)) (.const (.int .u8 9)) (.tmp 109) rfl (.int .u8 9) (.int .u8 9) (.int .u8 (i : Int)) rfl rfl rfl dv.toArray HB3.out (by rfl) ?_)
                    | (go_at_call 36; refine Hfd.out.mono ?_))
                  rintro e w9 ⟨v9, rfl, hE9, hb9⟩
                  obtain rfl := ErrV.zero hE9
                  have hX9 := HX.out.below hb9
                  have hsl := hX9.pSlot HM.out.mem HTa.out (by omega) (by omega) hK1 (i : Int)
                  rw [Hsl0.out] at hsl
                  have Hsl : Hid (Calls Tryz.prog 38 #[.pointer (some ⟨x, 0, none⟩), .int .i64 (i : Int)] w9 (LkP 0 false 0 w9)) := hsl
                  have HX9 := Lib.hid hX9
                  clear hE9 hb9 hX9 hsl Hfd Hsl0 HX HB3 hca
                  go_wp2_with (first
                    | (go_at_call 38; refine Hsl.out.mono ?_))
                  rintro e wd ⟨vd, rfl, hEd, hbd⟩
                  obtain rfl := ErrV.zero hEd
                  have hXd := HX9.out.below hbd
                  have hlk := HM.out.look hXd HH.out (j := i) hlt (by omega)
                  have HXd := Lib.hid hXd
                  clear hEd hbd hXd HX9 Hsl
                  go_wp2
                  go_roundg (K - (i + 1))
                  case measure => omega
                  case rel => exact ⟨i + 1, rfl, by omega, by go_num, HXd.out⟩
                | false =>
                  rw [hB] at hca
                  have hgi : gn i = false := by rw [Hgn.out]; simp [hB]
                  rw [hgi] at hfd0 hsl0
                  have hfd0 : lookL (fitF (dgG i)) es2 K (homeD (dgG i)) = (some (f i)) := hfd0
                  have hsl0 : lookL (fitS (i : Int)) es2 K 0 = (some (f i)) := hsl0
                  have hfd := hX.pFind HM.out.mem HTa.out (by omega) (by omega) hK1 (dgG i) (dgG_len _)
                  rw [HdV.out, hfd0] at hfd
                  have Hfd : Hid (Calls Tryz.prog 36 #[.pointer (some ⟨x, 0, none⟩), .agg dv.toArray] wq (LkP (f i : Nat) true 0 wq)) := hfd
                  have Hsl0 := Lib.hid hsl0
                  have HX := Lib.hid hX
                  clear hX hfd hfd0 hsl0 hgi HdV
                  go_wp2_with (first
                    | (refine wpList_bld3 71 (.const (.int .u8 9)) (.const (.int .u8 9)) (.tmp 109) rfl (.int .u8 9) (.int .u8 9) (.int .u8 (i : Int)) rfl rfl rfl dv.toArray HB3.out (by rfl) ?_)
                    | (go_at_call 36; refine Hfd.out.mono ?_))
                  rintro e w9 ⟨v9, rfl, hE9, hb9⟩
                  obtain rfl := ErrV.zero hE9
                  have hX9 := HX.out.below hb9
                  have hsl := hX9.pSlot HM.out.mem HTa.out (by omega) (by omega) hK1 (i : Int)
                  rw [Hsl0.out] at hsl
                  have Hsl : Hid (Calls Tryz.prog 38 #[.pointer (some ⟨x, 0, none⟩), .int .i64 (i : Int)] w9 (LkP (f i : Nat) true 0 w9)) := hsl
                  have HX9 := Lib.hid hX9
                  clear hE9 hb9 hX9 hsl Hfd Hsl0 HX HB3 hca
                  go_wp2_with (first
                    | (go_at_call 38; refine Hsl.out.mono ?_))
                  rintro e wd ⟨vd, rfl, hEd, hbd⟩
                  obtain rfl := ErrV.zero hEd
                  have hXd := HX9.out.below hbd
                  have hlk := HM.out.look hXd HH.out (j := i) hlt (by omega)
                  have HXd := Lib.hid hXd
                  clear hEd hbd hXd HX9 Hsl
                  go_wp2
                  go_roundg (K - (i + 1))
                  case measure => omega
                  case rel => exact ⟨i + 1, rfl, by omega, by go_num, HXd.out⟩
              · have hil' : ¬ ((i : Int) < (gl : Int)) := by omega
                have hb4 : decide ((i : Int) < (gl : Int)) = false := decide_eq_false hil'
                have hgi : gn i = false := by rw [Hgn.out]; simp [hil]
                have hca := hgi
                rw [hgi] at hfd0 hsl0
                have hfd0 : lookL (fitF (dgG i)) es2 K (homeD (dgG i)) = (some (f i)) := hfd0
                have hsl0 : lookL (fitS (i : Int)) es2 K 0 = (some (f i)) := hsl0
                have hfd := hX.pFind HM.out.mem HTa.out (by omega) (by omega) hK1 (dgG i) (dgG_len _)
                rw [HdV.out, hfd0] at hfd
                have Hfd : Hid (Calls Tryz.prog 36 #[.pointer (some ⟨x, 0, none⟩), .agg dv.toArray] wq (LkP (f i : Nat) true 0 wq)) := hfd
                have Hsl0 := Lib.hid hsl0
                have HX := Lib.hid hX
                clear hX hfd hfd0 hsl0 hgi HdV
                go_wp2_with (first
                  | (refine wpList_bld3 71 (.const (.int .u8 9)) (.const (.int .u8 9)) (.tmp 109) rfl (.int .u8 9) (.int .u8 9) (.int .u8 (i : Int)) rfl rfl rfl dv.toArray HB3.out (by rfl) ?_)
                  | (go_at_call 36; refine Hfd.out.mono ?_))
                rintro e w9 ⟨v9, rfl, hE9, hb9⟩
                obtain rfl := ErrV.zero hE9
                have hX9 := HX.out.below hb9
                have hsl := hX9.pSlot HM.out.mem HTa.out (by omega) (by omega) hK1 (i : Int)
                rw [Hsl0.out] at hsl
                have Hsl : Hid (Calls Tryz.prog 38 #[.pointer (some ⟨x, 0, none⟩), .int .i64 (i : Int)] w9 (LkP (f i : Nat) true 0 w9)) := hsl
                have HX9 := Lib.hid hX9
                clear hE9 hb9 hX9 hsl Hfd Hsl0 HX HB3 hca
                go_wp2_with (first
                  | (go_at_call 38; refine Hsl.out.mono ?_))
                rintro e wd ⟨vd, rfl, hEd, hbd⟩
                obtain rfl := ErrV.zero hEd
                have hXd := HX9.out.below hbd
                have hlk := HM.out.look hXd HH.out (j := i) hlt (by omega)
                have HXd := Lib.hid hXd
                clear hEd hbd hXd HX9 Hsl
                go_wp2
                go_roundg (K - (i + 1))
                case measure => omega
                case rel => exact ⟨i + 1, rfl, by omega, by go_num, HXd.out⟩
            · obtain rfl : K = i := by omega
              have hge3 : ¬ ((K : Int) < (K : Int)) := by omega
              have hall := hX.pAll HM.out.mem HTa.out (by omega) (by omega)
              have hLU : (allL es2 K).length = U := by rw [← HU.out, ← allL_used, HF.out.len]
              obtain ⟨L, hL⟩ : ∃ L, allL es2 K = L := ⟨_, rfl⟩
              rw [hL] at hall hLU
              have Hall := Lib.hid hall
              have HX := Lib.hid hX
              obtain ⟨dv, Hdv⟩ : ∃ dv : List Value, Hid (dv = dgOne.map cu8) := ⟨_, rfl⟩
              have HB1 : Hid (Tryz.prog.built 71 [(0, .int .u8 1)] = some dv.toArray) := by rw [Hdv.out]; exact HB1of
              have HdV := Lib.hid (show digV dgOne = .agg dv.toArray by rw [Hdv.out]; rfl)
              clear hX hall hL hlt hiK
              go_wp2_with (first
                | (go_at_call 39; refine Hall.out.mono ?_))
              rintro e wa ⟨va, rfl, hown, hba⟩
              rw [hLU] at hown
              obtain ⟨ap2, cp2, rfl⟩ := owns_form hown
              have hXa := HX.out.below hba
              have hfr := hXa.pFree HM.out.mem HTa.out (by omega) (by omega) hK1 dgOne (by decide)
              rw [HdV.out] at hfr
              have HXa := Lib.hid hXa
              clear hown hba hXa Hall HX HdV hLU
              cases hlk : lookL fitO es2 K (homeD dgOne) with
              | none =>
                have hUe : U = K := by rw [← HU.out]; exact (free_used HF.out.len (by omega)).1 hlk
                subst hUe
                rw [hlk] at hfr
                have Hfr2 : Hid (Calls Tryz.prog 37 #[.pointer (some ⟨x, 0, none⟩), .agg dv.toArray] wa (FrP 0 21 wa)) := hfr
                clear hfr hlk
                go_wp2_with (first
                  | (refine wpList_bld1 71 (.const (.int .u8 1)) rfl (.int .u8 1) rfl dv.toArray HB1.out (by rfl) ?_)
                  | (go_at_call 37; refine Hfr2.out.mono ?_))
                rintro e w9 ⟨v9, rfl, hE9, hb9⟩
                obtain ⟨t9, z9, rfl⟩ := hE9.held (by decide)
                have heq : ∀ W : World, (binOp .eql 25 (.iface t9 z9) .nilIface).run Tryz.prog W = .ok (.bool false) W := fun W => run_eql_held_nil W 25 _ _ Tryz.methodsError
                have Hfin := Lib.hid (HXa.out.below hb9).bel
                clear hE9 hb9 Hfr2
                go_wp2
                go_ret
                exact ⟨rfl, Hfin.out⟩
              | some p =>
                have hUe : U < K := by
                  have : ¬ U = K := fun e => by rw [(free_used HF.out.len (by omega)).2 (by rw [HU.out, e])] at hlk; cases hlk
                  omega
                have hUe' : (U : Int) < (K : Int) := by omega
                rw [hlk] at hfr
                have Hfr2 : Hid (Calls Tryz.prog 37 #[.pointer (some ⟨x, 0, none⟩), .agg dv.toArray] wa (FrP (p : Nat) 0 wa)) := hfr
                clear hfr hlk
                go_wp2_with (first
                  | (refine wpList_bld1 71 (.const (.int .u8 1)) rfl (.int .u8 1) rfl dv.toArray HB1.out (by rfl) ?_)
                  | (go_at_call 37; refine Hfr2.out.mono ?_))
                rintro e w9 ⟨v9, rfl, hE9, hb9⟩
                obtain rfl := ErrV.zero hE9
                have Hfin := Lib.hid (HXa.out.below hb9).bel
                clear hE9 hb9 Hfr2
                go_wp2
                go_ret
                exact ⟨rfl, Hfin.out⟩
end Go.Proofs.YtopjhgpgompenaaGreatDoor
