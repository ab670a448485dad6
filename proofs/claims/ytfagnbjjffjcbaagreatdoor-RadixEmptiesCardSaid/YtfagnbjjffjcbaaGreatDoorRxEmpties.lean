/-
  'RadixEmpties': its walk.
-/
import Derived.Test.YtfagnbjjffjcbaaGreatDoorJRa
import Derived.Test.YtfagnbjjffjcbaaGreatDoorRxOpen
set_option linter.unusedSimpArgs false
set_option linter.unusedVariables false
namespace Go.Proofs.YtfagnbjjffjcbaaGreatDoor
open Go.RowKit Sh Go.Maps Go.Extern.Stop Go.Stop Go.Extern

/-- A call's place is this one. -/
def AtP (q : Int × Int × Int) (X : Nat) : Prop := (0 ≤ q.1 ∧ q.1 < 4 ∧ 0 ≤ q.2.1 ∧ q.2.1 < 256) ∧ plc q.1 q.2.1 = X
def Src (cs : List (Int × Int × Int)) (k : Nat) (v : Nat → Nat) : Prop := ∀ X, v X ≠ 0 → ∃ i q, i < k ∧ cs[i]? = some q ∧ AtP q X
def Rest (cs : List (Int × Int × Int)) (k : Nat) (v : Nat → Nat) : Prop := ∀ X, v X ≠ 0 → ∃ i q, k ≤ i ∧ cs[i]? = some q ∧ AtP q X
theorem Src.next {cs : List (Int × Int × Int)} {k N : Nat} {v : Nat → Nat} {q : Int × Int × Int} (h : Src cs k v) (hq : cs[k]? = some q) : Src cs (k + 1) (runQ N v q) := fun X hX => by
  have old : v X ≠ 0 → ∃ i q, i < k + 1 ∧ cs[i]? = some q ∧ AtP q X := fun h1 => by
    obtain ⟨i, q, h2, h3, h4⟩ := h X h1
    exact ⟨i, q, by omega, h3, h4⟩
  unfold runQ at hX
  split at hX
  · rename_i hc
    by_cases e : X = plc q.1 q.2.1
    · exact ⟨k, q, by omega, hq, hc.1, e.symm⟩
    · unfold setV at hX
      rw [if_neg e] at hX
      exact old hX
  · exact old hX
theorem Src.rest {cs : List (Int × Int × Int)} {k : Nat} {v : Nat → Nat} (h : Src cs k v) : Rest cs 0 v := fun X hX => by
  obtain ⟨i, q, _, h3, h4⟩ := h X hX
  exact ⟨i, q, Nat.zero_le _, h3, h4⟩
theorem Rest.next {cs : List (Int × Int × Int)} {k N : Nat} {v : Nat → Nat} {l b xx : Int} (h : Rest cs k v) (hq : cs[k]? = some (l, b, xx)) (hN : takenO v 4 ≤ N) : Rest cs (k + 1) (runQ N v (l, b, 0)) := fun X hX => by
  have go : v X ≠ 0 → ¬ AtP (l, b, xx) X → ∃ i q, k + 1 ≤ i ∧ cs[i]? = some q ∧ AtP q X := fun h1 hn => by
    obtain ⟨i, q, h2, h3, h4⟩ := h X h1
    refine ⟨i, q, Nat.lt_of_le_of_ne h2 (fun e => ?_), h3, h4⟩
    subst e
    rw [hq] at h3
    cases h3
    exact hn h4
  by_cases hp : 0 ≤ l ∧ l < 4 ∧ 0 ≤ b ∧ b < 256
  · have hpl : plc l b < 1024 := by unfold plc; omega
    have h0 : takenO (setV v (plc l b) 0) 4 ≤ N := Nat.le_of_not_lt fun h => (refused_none hpl hN h).2 rfl
    have e : runQ N v (l, b, 0) = setV v (plc l b) 0 := if_pos ⟨hp, by simp, h0⟩
    rw [e] at hX
    unfold setV at hX
    by_cases e2 : X = plc l b
    · rw [if_pos e2] at hX
      exact absurd rfl hX
    · rw [if_neg e2] at hX
      exact go hX (fun h => e2 h.2.symm)
  · have e : runQ N v (l, b, 0) = v := if_neg (fun h => hp h.1)
    rw [e] at hX
    exact go hX (fun h => hp h.1)
theorem Rest.none {cs : List (Int × Int × Int)} {k : Nat} {v : Nat → Nat} (h : Rest cs k v) (hk : cs.length ≤ k) (X : Nat) : v X = 0 := by
  cases e : v X with
  | zero => rfl
  | succ n =>
    obtain ⟨i, q, h2, h3, _⟩ := h X (by omega)
    have := (List.getElem?_eq_some_iff.1 h3).1
    omega
theorem taken_zero {v : Nat → Nat} (h : ∀ X, v X = 0) : takenO v 4 = 0 := by
  rw [takenO_same (u := fun _ => 0) (fun x _ => by rw [h x])]
  decide +kernel
theorem NumAt.len0 {m c : Nat} {v : Nat → Nat} {w : World} (h : NumAt m v c w) (hz : ∀ x, v x = 0) (ty : TypeId) : (Builtin.len_ #[28] ty #[.map (some m)]).run Tryz.prog w = .ok (.int .i64 0) w := by
  obtain ⟨D, ho, hD⟩ := h
  have hs : Maps.size D = 0 := by
    obtain ⟨es, rfl, _, hk⟩ := World.ownsMap.entries ho keyedPair
    cases es with
    | nil => rfl
    | cons p r =>
      exfalso
      have hp : Maps.has (.map (p :: r) : DataW Unit) p.1 = true := by
        rw [Maps.has_eq, List.any_cons, WideAt.sameKey_self (hk p (by simp))]; rfl
      obtain ⟨l, b, hl, hb, e⟩ := hD.only _ hp
      rw [e, hD.has_ l b hl hb, hz] at hp
      exact absurd hp (by decide)
  rw [World.ownsMap.len ho Tryz.underlying28 ty, hs]; rfl
attribute [local irreducible] bk1 bk0
set_option maxRecDepth 100000 in
set_option maxHeartbeats 16000000 in
theorem radixEmpties_ok (bp : Option Addr) (cs : List (Int × Int × Int)) (cap : Nat) (h200 : cs.length ≤ 200) (w : World) (hL : Laid w) (hC : TriplesAt w.heap.size w bp cs) :
    Calls Tryz.prog 4 #[.slice bp cs.length cap] w fun e w' => e = .returned (.bool true) ∧ Below w.heap.size w w' := by
  have hpos := hL.pos
  obtain ⟨L, hLe⟩ : ∃ L, cs.length = L := ⟨_, rfl⟩
  rw [hLe] at h200 ⊢
  have HLe := Lib.hid hLe
  obtain ⟨hf0, hc0, ht0⟩ := fo300 90 (by omega)
  have Hf0 := Lib.hid hf0; have Hc0 := Lib.hid hc0; have Ht0 := Lib.hid ht0
  have Hfr := Lib.hid (fun (w1 : World) (hb1 : Below w.heap.size w w1) => fresh9_any 90 (by omega) (by omega) w w1 hb1)
  have HC := Lib.hid hC; have HL0 := Lib.hid hL
  have g3 : ¬ (200 < (L : Int)) := by omega
  have hmm := @run_makeMap Tryz.prog
  clear hf0 hc0 ht0 hLe hC hL
  go_enter Tryz.func4, Tryz.ntmps4
  go_wp2_with (first
    | (go_at_call 13; refine (stands9_any _).mono ?_; rintro e w1 ⟨rfl, hb1⟩)
    | (go_at_call 14; refine (Hfr.out w1 hb1).mono ?_))
  rintro e w2 ⟨gd, g, x, rfl, hX0⟩
  have hxl : x < w2.heap.size := hX0.arr.lt (x := (x, foO g 2 90)) (by simp)
  have hX1 := hX0.add (.map #[] 0)
  have hM1 := NumAt.made w2
  have HX1 := Lib.hid hX1; have HM1 := Lib.hid hM1
  have Hxm := Lib.hid (show x ≠ w2.heap.size by omega)
  clear hb1 hX0 Hfr hX1 hM1 hxl g3
  go_wp2
  have hX1 := HX1.out; have hM1 := HM1.out; have hxm := Hxm.out
  clear HX1 HM1 Hxm
  generalize w2.alloc (.map #[] 0) = w3 at hX1 hM1 ⊢
  obtain ⟨mb, hmb⟩ : ∃ mb, w2.heap.size = mb := ⟨_, rfl⟩
  rw [hmb] at hX1 hM1 hxm ⊢
  have HX1 := Lib.hid hX1; have HM1 := Lib.hid hM1; have Hxm := Lib.hid hxm
  clear hmb hX1 hM1 hxm hmm
  go_loopg [24] L (fun m q wr => ∃ (k : Nat) (b : Bk) (o : Obj) (v : Nat → Nat), m = L - k ∧ k ≤ L ∧ q = .int .i64 k ∧ OwnX b gd g [(mb, o), (x, foO g 2 90)] w wr ∧ NumAt mb v (2 * k) wr ∧ Fo b 2 90 v ∧ Co b 300 k ∧ b.txn = [] ∧ Src cs k v)
  case atStart => exact ⟨0, _, _, _, rfl, by omega, rfl, HX1.out, HM1.out, Hf0.out, Hc0.out, Ht0.out, fun X hX => absurd rfl hX⟩
  case round =>
    clear HX1 HM1 Hf0 Hc0 Ht0
    obtain ⟨k, b, o, v, rfl, hkL, rfl, hX, hM, hF, hC, hT, hS⟩ := hrel
    by_cases hlt : k < L
    case neg =>
      have hlt' : ¬ ((k : Int) < (L : Int)) := by omega
      have HX := Lib.hid hX; have HM := Lib.hid hM; have HF := Lib.hid hF; have HC1 : Hid (Co b 300 (L + 0)) := Lib.hid (by rw [show L + 0 = k by omega]; exact hC); have HT := Lib.hid hT; have HS := Lib.hid (Src.rest hS)
      clear hX hM hF hC hT hS hlt
      go_wp2
      go_loopg [37] L (fun m q wr => ∃ (k : Nat) (b : Bk) (o : Obj) (v : Nat → Nat), m = L - k ∧ k ≤ L ∧ q = .int .i64 k ∧ OwnX b gd g [(mb, o), (x, foO g 2 90)] w wr ∧ NumAt mb v (2 * L + 2 * k) wr ∧ Fo b 2 90 v ∧ Co b 300 (L + k) ∧ b.txn = [] ∧ Rest cs k v)
      case atStart => exact ⟨0, _, _, _, rfl, by omega, rfl, HX.out, HM.out.mono (by omega), HF.out, HC1.out, HT.out, HS.out⟩
      case round =>
        clear HX HM HF HC1 HT HS
        rename World => wq
        rename Nat => _k0
        obtain ⟨k, b, o, v, rfl, hkL, rfl, hX, hM, hF, hC, hT, hS⟩ := hrel
        by_cases hlt : k < L
        case neg =>
          have hlt' : ¬ ((k : Int) < (L : Int)) := by omega
          have hz := Rest.none hS (by rw [HLe.out]; omega)
          have htk := taken_zero hz
          have hn := rNodes_any hX (x := x) (by simp) hF (by omega) (by omega)
          rw [htk, show ((0 : Nat) : Int) = 0 from rfl] at hn
          have Hn := Lib.hid hn; have HX := Lib.hid hX; have HM := Lib.hid hM; have HZ := Lib.hid hz
          clear hX hM hF hC hT hS hlt hn hz htk
          go_wp2_with (first
            | (go_at_call 16; refine Hn.out.mono ?_))
          rintro e w4 ⟨u, rfl, hE, hb4⟩
          obtain rfl := ErrV.zero hE
          have hX4 := HX.out.below hb4
          have hM4 := HM.out.of_block ((hX4.at_ (x := (mb, o)) (by simp)).trans (HX.out.at_ (x := (mb, o)) (by simp)).symm)
          have hln := fun ty => hM4.len0 HZ.out ty
          have Hfin := Lib.hid (show Below w.heap.size w w4 from hX4.bel)
          clear hE hb4 hX4 hM4 HX HM HZ Hn
          go_wp2
          go_ret
          exact ⟨rfl, Hfin.out⟩
        have hlt' : (k : Int) < (L : Int) := by omega
        have hka : k < cs.length := by rw [HLe.out]; exact hlt
        obtain ⟨bq, oq, hbe, hbq, hcs⟩ := (HC.out.below hX.bel).resolve_left (by intro h0; rw [h0] at hka; simp at hka)
        subst hbe
        obtain ⟨⟨l, bl, xx⟩, hq⟩ : ∃ q, cs[k] = q := ⟨_, rfl⟩
        have hget : cs[k]? = some (l, bl, xx) := by rw [List.getElem?_eq_getElem hka, hq]
        obtain ⟨e0, e1, e2⟩ := hcs k (l, bl, xx) hget
        have HS' := Lib.hid (Rest.next (N := 90) hS hget hF.rep.cap)
        clear hget hS
        obtain ⟨pv, Hpv⟩ : ∃ pv : List Value, Hid (pv = [.int .i64 l, .int .i64 bl, .int .i64 xx]) := ⟨_, rfl⟩
        have Hrg : Hid (wq.rangeAt bq (oq + k * 3) pv) := Lib.hid (range9 Hpv.out e0 e1 e2)
        have hpl : Hid (pv.length = 3) := by rw [Hpv.out]; rfl
        have hpi : Hid ((Tryz.prog.info? 30).map (·.size) = some pv.length) := by rw [hpl.out]; exact infoC9
        have hpi2 : Hid ((Tryz.prog.info? 30).map (·.size) = some pv.toArray.size) := by rw [List.size_toArray, hpl.out]; exact infoC9
        have hpz : Hid ((#[.int .i64 0, .int .i64 0, .int .i64 0] : Array Value).size = pv.toArray.size) := Lib.hid (by show 3 = pv.toArray.size; rw [List.size_toArray, hpl.out])
        have hp1 : Hid (pv.toArray.all (·.oneCell') = true) := by rw [Hpv.out]; exact all_oneCell_toArray (fun u hu => by simp only [List.mem_cons, List.not_mem_nil, or_false] at hu; rcases hu with rfl | rfl | rfl <;> rfl)
        have hX1 := hX.add (.cells pv.toArray 30 (0, 0))
        have hmw : mb < wq.heap.size := hX.arr.lt (x := (mb, o)) (by simp)
        have hxw : x < wq.heap.size := hX.arr.lt (x := (x, foO g 2 90)) (by simp)
        have hM1 := hM.of_block ((hX1.at_ (x := (mb, o)) (by simp)).trans (hX.at_ (x := (mb, o)) (by simp)).symm)
        have HX1 := Lib.hid hX1; have HM1 := Lib.hid hM1; have HF := Lib.hid hF; have HC' := Lib.hid hC; have HT := Lib.hid hT
        clear hX hM hF hC hT hX1 hM1 hcs hq e0 e1 e2 hlt hka
        go_upto_region 16 with (first
          | (refine wpList_load_mid rfl 30 _ rfl bq (oq + k * 3) rfl pv _ Hrg.out Tryz.underlying30 rfl hpi.out ?_; clear hpi)
          | (refine wpList_alloc_arr rfl 30 rfl _ allocC9 ?_)
          | (refine wpList_store_new rfl 30 _ _ rfl wq.heap.size rfl pv.toArray rfl rfl 30 _ hpi2.out hpz.out hp1.out ?_))
        have hX1 := HX1.out; have hM1 := HM1.out
        clear HX1 HM1 hpi2 hpz hp1 Hrg
        generalize wq.alloc (.cells pv.toArray 30) = w4 at hX1 hM1 ⊢
        obtain ⟨y, hy⟩ : ∃ y, wq.heap.size = y := ⟨_, rfl⟩
        rw [hy] at hX1 hmw hxw ⊢
        clear hy
        have hyr := hX1.at_ (x := (y, .cells pv.toArray 30 (0, 0))) (by simp)
        have cy : w4.cell? ⟨y, 2, none⟩ = some (.int .i64 xx) := by rw [cell_of_row w4 y 2 _ _ _ hyr, List.getElem?_toArray, Hpv.out]; rfl
        have fy : w4.frozen? ⟨y, 2, none⟩ = false := by simp [World.frozen?, hyr]
        obtain ⟨pw, Hpw⟩ : ∃ pw : List Value, Hid (pw = [.int .i64 l, .int .i64 bl, .int .i64 0]) := ⟨_, rfl⟩
        have hwl : Hid (pw.length = 3) := by rw [Hpw.out]; rfl
        have hset : (w4.setCell ⟨y, 2, none⟩ (.int .i64 0)).heap[y]? = some (.cells pw.toArray 30 (0, 0)) := by
          have e : pw = pv.set 2 (.int .i64 0) := by rw [Hpw.out, Hpv.out]; rfl
          rw [e]; exact set_map_cell hyr _
        have hX5 := hX1.setHead (o' := .cells pw.toArray 30 (0, 0)) (by intro z hz; simp only [List.mem_cons, List.not_mem_nil, or_false] at hz; rcases hz with rfl | rfl <;> first | exact Nat.ne_of_lt hmw | exact Nat.ne_of_lt hxw) (grown_setCell w4 ⟨y, 2, none⟩ (.int .i64 0)) hset
        have hM5 := hM1.of_block ((hX5.at_ (x := (mb, o)) (by simp)).trans (hX1.at_ (x := (mb, o)) (by simp)).symm)
        have HX5 := Lib.hid hX5; have HM5 := Lib.hid hM5
        clear hX1 hM1 hset hX5 hM5 hyr hmw hxw
        go_upto_region 17 with (fail)
        have hX5 := HX5.out; have hM5 := HM5.out
        clear HX5 HM5 cy fy
        generalize w4.setCell ⟨y, 2, none⟩ (.int .i64 0) = w5 at hX5 hM5 ⊢
        have hld := loadC9 hwl.out (hX5.at_ (x := (y, .cells pw.toArray 30 (0, 0))) (by simp))
        have hcv : Hid (callV l bl 0 = .agg pw.toArray) := by
          have : callV l bl 0 = .agg pw.toArray := by rw [Hpw.out]; rfl
          exact this
        have hr := run_any (hX5.sub (T' := [(mb, o), (x, foO g 2 90)]) (by intro z hz; simp at hz ⊢; rcases hz with h | h <;> simp [h])) hM5 HF.out HC'.out HT.out (by omega) (by omega) (by omega) HL0.out Hxm.out l bl 0
        rw [hcv.out] at hr
        obtain ⟨v2, hv2⟩ : ∃ v2, runQ 90 v (l, bl, 0) = v2 := ⟨_, rfl⟩
        rw [hv2] at hr
        have Hr := Lib.hid hr; have HV2 := Lib.hid hv2
        rw [HV2.out] at HS'
        clear hX5 hM5 hr hv2 HF HC' HT Hpv hpl hcv Hpw hwl
        go_wp2_with (first
          | (refine wpList_load_c9 _ rfl y 0 rfl _ hld (by rfl) ?_)
          | (go_at_call 15; refine Hr.out.mono ?_))
        rintro e w6 ⟨rfl, b2, o2, hX6, hM6, hF6, hC6, hT6⟩
        have HX6 := Lib.hid hX6; have HM6 := Lib.hid (hM6.mono (c' := 2 * L + 2 * (k + 1)) (by omega)); have HF6 := Lib.hid hF6; have HC6 := Lib.hid hC6; have HT6 := Lib.hid hT6
        clear hX6 hM6 hF6 hC6 hT6 Hr hld
        go_wp2
        go_roundg (L - (k + 1))
        case measure => omega
        case rel => exact ⟨k + 1, _, _, _, rfl, by omega, by go_num, HX6.out, HM6.out, HF6.out, HC6.out, HT6.out, HS'.out⟩

    have hlt' : (k : Int) < (L : Int) := by omega
    have hka : k < cs.length := by rw [HLe.out]; exact hlt
    obtain ⟨bq, oq, hbe, hbq, hcs⟩ := (HC.out.below hX.bel).resolve_left (by intro h0; rw [h0] at hka; simp at hka)
    subst hbe
    obtain ⟨⟨l, bl, xx⟩, hq⟩ : ∃ q, cs[k] = q := ⟨_, rfl⟩
    have hget : cs[k]? = some (l, bl, xx) := by rw [List.getElem?_eq_getElem hka, hq]
    obtain ⟨e0, e1, e2⟩ := hcs k (l, bl, xx) hget
    have HS' := Lib.hid (Src.next (N := 90) hS hget)
    clear hget hS
    obtain ⟨pv, Hpv⟩ : ∃ pv : List Value, Hid (pv = [.int .i64 l, .int .i64 bl, .int .i64 xx]) := ⟨_, rfl⟩
    have Hrg : Hid (wr.rangeAt bq (oq + k * 3) pv) := Lib.hid (range9 Hpv.out e0 e1 e2)
    have hpl : Hid (pv.length = 3) := by rw [Hpv.out]; rfl
    have hpi : Hid ((Tryz.prog.info? 30).map (·.size) = some pv.length) := by rw [hpl.out]; exact infoC9
    have hpi2 : Hid ((Tryz.prog.info? 30).map (·.size) = some pv.toArray.size) := by rw [List.size_toArray, hpl.out]; exact infoC9
    have hpz : Hid ((#[.int .i64 0, .int .i64 0, .int .i64 0] : Array Value).size = pv.toArray.size) := Lib.hid (by show 3 = pv.toArray.size; rw [List.size_toArray, hpl.out])
    have hp1 : Hid (pv.toArray.all (·.oneCell') = true) := by rw [Hpv.out]; exact all_oneCell_toArray (fun u hu => by simp only [List.mem_cons, List.not_mem_nil, or_false] at hu; rcases hu with rfl | rfl | rfl <;> rfl)
    have hX1 := hX.add (.cells pv.toArray 30 (0, 0))
    have hM1 := hM.of_block ((hX1.at_ (x := (mb, o)) (by simp)).trans (hX.at_ (x := (mb, o)) (by simp)).symm)
    have HX1 := Lib.hid hX1; have HM1 := Lib.hid hM1; have HF := Lib.hid hF; have HC' := Lib.hid hC; have HT := Lib.hid hT
    clear hX hM hF hC hT hX1 hM1 hcs hq e0 e1 e2 hlt hka
    go_upto_region 10 with (first
      | (refine wpList_load_mid rfl 30 _ rfl bq (oq + k * 3) rfl pv _ Hrg.out Tryz.underlying30 rfl hpi.out ?_; clear hpi)
      | (refine wpList_alloc_arr rfl 30 rfl _ allocC9 ?_)
      | (refine wpList_store_new rfl 30 _ _ rfl wr.heap.size rfl pv.toArray rfl rfl 30 _ hpi2.out hpz.out hp1.out ?_))
    have hX1 := HX1.out; have hM1 := HM1.out
    clear HX1 HM1 hpi2 hpz hp1 Hrg
    generalize wr.alloc (.cells pv.toArray 30) = w4 at hX1 hM1 ⊢
    obtain ⟨y, hy⟩ : ∃ y, wr.heap.size = y := ⟨_, rfl⟩
    rw [hy] at hX1 ⊢
    have hld := loadC9 hpl.out (hX1.at_ (x := (y, .cells pv.toArray 30 (0, 0))) (by simp))
    have hcv : Hid (callV l bl xx = .agg pv.toArray) := by
      have : callV l bl xx = .agg pv.toArray := by rw [Hpv.out]; rfl
      exact this
    have hr := run_any (hX1.sub (T' := [(mb, o), (x, foO g 2 90)]) (by intro z hz; simp at hz ⊢; rcases hz with h | h <;> simp [h])) hM1 HF.out HC'.out HT.out (by omega) (by omega) (by omega) HL0.out Hxm.out l bl xx
    rw [hcv.out] at hr
    obtain ⟨v2, hv2⟩ : ∃ v2, runQ 90 v (l, bl, xx) = v2 := ⟨_, rfl⟩
    rw [hv2] at hr
    have Hr := Lib.hid hr; have HV2 := Lib.hid hv2
    clear hy hX1 hM1 hr hv2 HF HC' HT Hpv hpl hcv
    go_wp2_with (first
      | (refine wpList_load_c9 _ rfl y 0 rfl _ hld (by rfl) ?_)
      | (go_at_call 15; refine Hr.out.mono ?_))
    rw [HV2.out] at HS'
    rintro e w5 ⟨rfl, b2, o2, hX5, hM5, hF5, hC5, hT5⟩
    have HX5 := Lib.hid hX5; have HM5 := Lib.hid (hM5.mono (c' := 2 * (k + 1)) (by omega)); have HF5 := Lib.hid hF5; have HC5 := Lib.hid hC5; have HT5 := Lib.hid hT5
    clear hX5 hM5 hF5 hC5 hT5 Hr hld
    go_wp2
    go_roundg (L - (k + 1))
    case measure => omega
    case rel => exact ⟨k + 1, _, _, _, rfl, by omega, by go_num, HX5.out, HM5.out, HF5.out, HC5.out, HT5.out, HS'.out⟩
set_option maxRecDepth 100000 in
theorem radixEmpties_b (bp : Option Addr) (L cap : Nat) (h : 200 < L) (w : World) :
    Calls Tryz.prog 4 #[.slice bp L cap] w fun e w' => e = .returned (.bool true) ∧ Below w.heap.size w w' := by
  have g3 : (200 : Int) < (L : Int) := by omega
  clear h
  go_enter Tryz.func4, Tryz.ntmps4
  go_wp2_with (first
    | (go_at_call 13; refine (stands9_any _).mono ?_))
  rintro e w1 ⟨rfl, hb1⟩
  have Hb1 := Lib.hid hb1
  clear hb1
  go_wp2
  go_ret
  exact ⟨rfl, Hb1.out⟩
theorem radixEmpties_any (bp : Option Addr) (cs : List (Int × Int × Int)) (cap : Nat) (w : World) (hC : TriplesAt w.heap.size w bp cs) (hL : Laid w) :
    Calls Tryz.prog 4 #[.slice bp cs.length cap] w fun e w' => e = .returned (.bool true) ∧ Below w.heap.size w w' := by
  by_cases h3 : 200 < cs.length
  · exact radixEmpties_b bp _ cap h3 w
  exact radixEmpties_ok bp cs cap (by omega) w hL hC
end Go.Proofs.YtfagnbjjffjcbaaGreatDoor
