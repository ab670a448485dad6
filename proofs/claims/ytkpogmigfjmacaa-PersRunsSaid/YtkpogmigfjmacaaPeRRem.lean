/-
  The document's answer: remove.
-/
import Derived.Test.YtkpogmigfjmacaaPeSame
set_option linter.unusedSimpArgs false
set_option linter.unusedVariables false
namespace Go.Proofs.Ytkpogmigfjmacaa
open Go.RowKit

def boolV (sm : Int → Bool) : List Value := (List.range 8).map fun i : Nat => .bool (sm (i : Int))
theorem boolV_len (sm : Int → Bool) : (boolV sm).length = 8 := by simp [boolV]
theorem boolV_at (sm : Int → Bool) {i : Nat} (hi : i < 8) : (boolV sm)[i]? = some (.bool (sm (i : Int))) := by
  unfold boolV; rw [List.getElem?_map, List.getElem?_range hi]; rfl
def fK (sm : Int → Bool) (K : Int → Int) (k : Nat) (i : Int) : Int := if i < (k : Int) ∧ sm i = true then 0 else K i
def gK (sm : Int → Bool) (K : Int → Int) (but : Int) (i : Int) : Int := if sm i = true ∧ i ≠ but then K i else 0
def goneK (sm : Int → Bool) (K : Int → Int) (but : Int) (k : Nat) : List Int := (lstK (gK sm K but) k).map (·.1)
theorem goneK_next (sm : Int → Bool) (K : Int → Int) (but : Int) (k : Nat) : goneK sm K but (k + 1) = goneK sm K but k ++ (if gK sm K but (k : Int) = 0 then [] else [(k : Int)]) := by
  unfold goneK
  rw [lstK_next, List.map_append]
  by_cases h : gK sm K but (k : Int) = 0 <;> simp [h]
theorem goneK_len (sm : Int → Bool) (K : Int → Int) (but : Int) (k : Nat) : (goneK sm K but k).length ≤ k := by
  unfold goneK; rw [List.length_map]; exact lstK_len _ _
theorem fK_same {sm : Int → Bool} {K : Int → Int} {k : Nat} (h : sm (k : Int) = false ∨ K (k : Int) = 0) : arrV (fK sm K (k + 1)) = arrV (fK sm K k) := arrV_congr fun i _ _ => by
  unfold fK
  by_cases e : i = (k : Int)
  · subst e
    rcases h with h | h
    · rw [if_neg (by rw [h]; simp), if_neg (by omega)]
    · rw [if_neg (show ¬ ((k : Int) < (k : Int) ∧ _) by omega), h]; split <;> rfl
  · by_cases e2 : i < (k : Int) ∧ sm i = true
    · rw [if_pos e2, if_pos ⟨by omega, e2.2⟩]
    · rw [if_neg e2, if_neg (fun h3 => e2 ⟨by omega, h3.2⟩)]
theorem fK_set {sm : Int → Bool} {K : Int → Int} {k : Nat} (hk : k < 8) (h : sm (k : Int) = true) : (arrV (fK sm K k)).set k (.int .u64 0) = arrV (fK sm K (k + 1)) := by
  rw [arrV_set _ hk]
  refine arrV_congr fun i _ _ => ?_
  unfold fK
  by_cases e : i = (k : Int)
  · subst e; rw [if_pos rfl, if_pos ⟨by omega, h⟩]
  · rw [if_neg e]
    by_cases e2 : i < (k : Int) ∧ sm i = true
    · rw [if_pos e2, if_pos ⟨by omega, e2.2⟩]
    · rw [if_neg e2, if_neg (fun h3 => e2 ⟨by omega, h3.2⟩)]
theorem rem_list {sm : Int → Bool} {l : List (Int × Int)} (h : riseB l (-1) = true) : lstK (fK sm (keyL l) 8) 8 = l.filter fun q => !sm q.1 :=
  lstK_eq (rise_filter _ h) fun i h0 h8 => by
    rw [keyL_filter (fun i => !sm i) h i]
    unfold fK
    cases hs : sm i with
    | true => rw [if_pos ⟨by omega, rfl⟩]; rfl
    | false => rw [if_neg (by simp)]; rfl
theorem gone_list {sm : Int → Bool} {l : List (Int × Int)} (but : Int) (h : riseB l (-1) = true) : goneK sm (keyL l) but 8 = keepN but ((l.filter fun q => sm q.1).map (·.1)) := by
  have e : lstK (gK sm (keyL l) but) 8 = l.filter fun q => (sm q.1 && !(q.1 == but)) :=
    lstK_eq (rise_filter _ h) fun i h0 h8 => by
      rw [keyL_filter (fun i => sm i && !(i == but)) h i]
      unfold gK
      by_cases hb : i = but
      · rw [if_neg (fun hh => hh.2 hb), if_neg (by simp [hb])]
      · cases hs : sm i with
        | true => rw [if_pos ⟨rfl, hb⟩, if_pos (by simp [hb])]
        | false => rw [if_neg (by simp), if_neg (by simp)]
  unfold goneK keepN
  rw [e, List.filter_map, List.filter_filter]
  congr 1
  refine List.filter_congr fun q _ => ?_
  simp only [Function.comp, eqN]
  cases sm q.1 <;> simp
def RRemP (w : World) (g : Int) (l : List (Int × Int)) (h t : Int) (p : Bool) (gone : List Int) (e : Ending) (w' : World) : Prop :=
  ∃ v u, e = .returned (.tuple #[.agg #[.int .u32 g, v, .int .i64 h, .int .i64 t, .bool p], u]) ∧ OwnR w.heap.size w' v l ∧ OwnI w.heap.size w' u gone ∧ Below w.heap.size w w'
theorem belSet {B b : Nat} {w w' : World} (h : Below B w w') (hb : B ≤ b) (i : Nat) (v : Value) : Below B w (w'.setCell ⟨b, i, none⟩ v) := h.setCell (p := ⟨b, i, none⟩) hb v
theorem setR {B b : Nat} {w : World} {v : Value} {l : List (Int × Int)} (h : OwnR B w v l) (hb : b < B) (i : Nat) (u : Value) : OwnR B (w.setCell ⟨b, i, none⟩ u) v l := h.set (p := ⟨b, i, none⟩) hb u
theorem setI {B b : Nat} {w : World} {v : Value} {l : List Int} (h : OwnI B w v l) (hb : b < B) (i : Nat) (u : Value) : OwnI B (w.setCell ⟨b, i, none⟩ u) v l := h.set (p := ⟨b, i, none⟩) hb u
theorem bool8 : (Try.prog.info? 63).map (·.size) = some 8 := by kernel_rfl

section
variable (g h t : Int) (p : Bool) (A : Option Addr) (len cap : Nat) (l : List (Int × Int)) (w : World)
set_option maxRecDepth 100000 in
set_option maxHeartbeats 16000000 in
theorem rremove_any (hS : SlR w A len cap l) (hm : len ≤ 6) (hso : soundB l h t = true) (sm : Int → Bool) (but : Int) :
    Calls Try.prog 34 #[.agg #[.int .u32 g, .slice A len cap, .int .i64 h, .int .i64 t, .bool p], .agg (boolV sm).toArray, .int .i64 but] w
      (RRemP w g (l.filter fun q => !sm q.1) (remH (l.filter fun q => !sm q.1) h t) (remT (l.filter fun q => !sm q.1) h t) p (keepN but ((l.filter fun q => sm q.1).map (·.1)))) := by
  obtain ⟨hs1, hr, hs3⟩ := sound_iff.1 hso
  have hgl := gone_list (sm := sm) but hr
  have hll := rem_list (sm := sm) hr
  have hleft : riseB (l.filter fun q => !sm q.1) (-1) = true := rise_filter _ hr
  have hkl := fun i => keyL_filter (fun i => !sm i) hr i
  obtain ⟨bv, Hbv⟩ : ∃ x, Hid ((boolV sm).toArray = x) := ⟨_, Lib.hid rfl⟩
  obtain ⟨pv, Hpv⟩ : ∃ x, Hid ((arrV (keyL l)).toArray = x) := ⟨_, Lib.hid rfl⟩
  have Kk : Hid (∀ W, Below w.heap.size w W → Calls Try.prog 28 #[.agg #[.int .u32 g, .slice A len cap, .int .i64 h, .int .i64 t, .bool p]] W (fun e w' => e = .returned (.agg pv) ∧ Below W.heap.size W w')) :=
    Lib.hid fun W hb => keysP g h t p A len cap l W (hS.below hb) hm hr Hpv.out
  have Hgl := Lib.hid hgl; have Hll := Lib.hid hll; have Hleft := Lib.hid hleft; have Hkl := Lib.hid hkl; have Hs3 := Lib.hid hs3; have Hr := Lib.hid hr
  clear hgl hll hleft hkl hs3 hr hS hso hs1
  obtain ⟨K, HK⟩ : ∃ K, Hid (keyL l = K) := ⟨_, Lib.hid rfl⟩
  have hps : Hid ((Try.prog.info? 57).map (·.size) = some pv.size) := Lib.hid (by rw [← Hpv.out, List.size_toArray, arrV_len]; exact info8)
  have hzs : Hid (zeros8.size = pv.size) := Lib.hid (by rw [← Hpv.out]; simp [zeros8, arrV_len])
  have hp1 : Hid (pv.all (·.oneCell') = true) := Lib.hid (by rw [← Hpv.out]; exact cells_one)
  obtain ⟨zn, Hzn⟩ : ∃ zn : Array Value, Hid (zn = zeros8) := ⟨_, Lib.hid rfl⟩
  have hal : ∀ w : World, (Instr.alloc 57 true (.tuple #[])).run Try.prog w = .ok (.pointer (some ⟨w.heap.size, 0, none⟩)) (w.alloc (.cells zn 57)) := by rw [Hzn.out]; exact alloc8
  rw [← Hzn.out] at hzs
  obtain ⟨j0, hj0, hy0, hy1, hy2⟩ := info_parts infoInt
  have HJ := Lib.hid (And.intro hj0 (And.intro hy0 (And.intro hy1 hy2)))
  clear hj0 hy0 hy1 hy2
  rw [Hbv.out]
  go_enter Try.func34, Try.ntmps34
  go_upto_region 1 with (fail)
  obtain ⟨hx, hy, hz⟩ := heap_alloc3 w (.cells #[.int .u32 g, .slice A len cap, .int .i64 h, .int .i64 t, .bool p] 25) (.cells bv 63) (.cells #[.int .u32 0, .slice none 0 0, .int .i64 0, .int .i64 0, .bool false] 25)
  have hb0 := bel3 w (.cells #[.int .u32 g, .slice A len cap, .int .i64 h, .int .i64 t, .bool p] 25) (.cells bv 63) (.cells #[.int .u32 0, .slice none 0 0, .int .i64 0, .int .i64 0, .bool false] 25)
  try simp only [World.size_alloc]
  generalize ((w.alloc (.cells #[.int .u32 g, .slice A len cap, .int .i64 h, .int .i64 t, .bool p] 25)).alloc (.cells bv 63)).alloc (.cells #[.int .u32 0, .slice none 0 0, .int .i64 0, .int .i64 0, .bool false] 25) = w0 at hx hy hz hb0 ⊢
  obtain ⟨xl0, x0_0, x1_0, x2_0, x3_0, x4_0, xf0⟩ := box5 hx
  go_upto_region 3 with (first
    | (go_at_call 28; refine (Kk.out _ hb0).mono ?_; rintro e w2 ⟨rfl, hb2⟩)
    | (refine wpList_alloc_arr rfl 57 rfl _ hal ?_)
    | (refine wpList_store_new rfl 57 _ _ rfl w2.heap.size rfl pv rfl rfl 57 zn hps.out hzs.out hp1.out ?_))
  have hq3 := heap_alloc_new w2 (.cells pv 57)
  have hb23 := hb2.trans ((bel1 w2 (.cells pv 57)).mono hb2.size)
  have hx3 := (hb23.block w.heap.size (by omega)).trans hx
  have hzl := (Array.getElem?_eq_some_iff.1 hz).1
  have hy3 := (hb23.block (w.heap.size + 1) (by omega)).trans hy
  have hz3 := (hb23.block (w.heap.size + 1 + 1) hzl).trans hz
  have hb3 := stepB hb0 hb23
  have hqb : w.heap.size + 3 ≤ w2.heap.size := by have := hb2.size; omega
  obtain ⟨q, Hq⟩ : ∃ q, Hid (w2.heap.size = q) := ⟨_, Lib.hid rfl⟩
  have hN0 : (w2.alloc (.cells pv 57)).heap.size = q + 1 := by rw [World.size_alloc, Hq.out]
  rw [Hq.out] at hq3 hqb
  generalize w2.alloc (.cells pv 57) = w3 at hq3 hx3 hy3 hz3 hb3 hN0 ⊢
  rw [Hq.out]
  have HX := Lib.hid hx3; have HY := Lib.hid hy3; have HZ := Lib.hid hz3; have HQ := Lib.hid hq3; have HB3 := Lib.hid hb3; have HN0 := Lib.hid hN0
  clear hx hy hz hb0 hb2 hb23 hx3 hy3 hz3 hq3 hb3 hN0 Hq hzl xl0 x0_0 x1_0 x2_0 x3_0 x4_0 xf0 hal
  go_wp2
  go_loopg [10, 9] 8 (fun m i u wr => ∃ (k : Nat), m = 8 - k ∧ k ≤ 8 ∧ i = .int .i64 k ∧ Hid (wr.heap[w.heap.size]? = some (.cells #[.int .u32 g, .slice A len cap, .int .i64 h, .int .i64 t, .bool p] 25 (0, 0))) ∧ Hid (wr.heap[w.heap.size + 1]? = some (.cells bv 63 (0, 0))) ∧ Hid (wr.heap[w.heap.size + 1 + 1]? = some (.cells #[.int .u32 0, .slice none 0 0, .int .i64 0, .int .i64 0, .bool false] 25 (0, 0))) ∧ Hid (wr.heap[q]? = some (.cells (arrV (fK sm K k)).toArray 57 (0, 0))) ∧ OwnI (q + 1) wr u (goneK sm K but k) ∧ Below w.heap.size w wr)
  case atStart => exact ⟨0, rfl, by omega, rfl, HX, HY, HZ, Lib.hid (by rw [HQ.out, ← Hpv.out, HK.out]; rw [show arrV (fK sm K 0) = arrV K from arrV_congr fun i h0 _ => by unfold fK; rw [if_neg (by omega)]]), OwnI.nil _ _, HB3.out⟩
  case round =>
    clear HX HY HZ HQ HB3 HN0
    obtain ⟨k, rfl, hk, rfl, HX, HY, HZ, HQ, hu, hb⟩ := hrel
    have hql : q < wr.heap.size := (Array.getElem?_eq_some_iff.1 HQ.out).1
    have HU := Lib.hid hu; have HB := Lib.hid hb
    clear hu hb
    by_cases hlt : k < 8
    · have hltz : (k : Int) < 8 := by omega
      have cb : wr.cell? ⟨w.heap.size + 1, k, none⟩ = some (.bool (sm (k : Int))) := by
        rw [cell_of_row wr _ k _ _ _ HY.out, ← Hbv.out, List.getElem?_toArray]; exact boolV_at _ hlt
      have ck : wr.cell? ⟨q, k, none⟩ = some (.int .u64 (fK sm K k (k : Int))) := by
        rw [cell_of_row wr _ k _ _ _ HQ.out, List.getElem?_toArray]; exact arrV_at _ hlt
      have hfk : fK sm K k (k : Int) = K (k : Int) := by unfold fK; rw [if_neg (by omega)]
      rw [hfk] at ck
      have fq : wr.frozen? ⟨q, k, none⟩ = false := by simp [World.frozen?, HQ.out]
      obtain ⟨sk, Hsk⟩ : ∃ x, Hid (sm (k : Int) = x) := ⟨_, Lib.hid rfl⟩
      rw [Hsk.out] at cb
      obtain ⟨kk, Hkk⟩ : ∃ x, Hid (K (k : Int) = x) := ⟨_, Lib.hid rfl⟩
      rw [Hkk.out] at ck
      clear hfk
      cases sk with
      | false =>
        have e1 := fK_same (sm := sm) (K := K) (k := k) (.inl Hsk.out)
        have e2 : goneK sm K but (k + 1) = goneK sm K but k := by rw [goneK_next, if_pos (by unfold gK; rw [if_neg (by rw [Hsk.out]; simp)]), List.append_nil]
        have E1 := Lib.hid e1; have E2 := Lib.hid e2
        clear e1 e2
        go_wp2
        go_roundg (8 - (k + 1))
        case measure => omega
        case rel => exact ⟨k + 1, rfl, by omega, by go_num, HX, HY, HZ, by rw [E1.out]; exact HQ, by rw [E2.out]; exact HU.out, HB.out⟩
      | true =>
        by_cases hkz : kk = 0
        · have hz1 : (kk == 0) = true := by simpa using hkz
          have hz2 : (kk != 0) = false := by simpa using hkz
          have e1 := fK_same (sm := sm) (K := K) (k := k) (.inr (by rw [Hkk.out]; exact hkz))
          have e2 : goneK sm K but (k + 1) = goneK sm K but k := by rw [goneK_next, if_pos (by unfold gK; rw [Hkk.out, hkz]; simp), List.append_nil]
          have E1 := Lib.hid e1; have E2 := Lib.hid e2
          clear e1 e2 hkz
          go_wp2
          go_roundg (8 - (k + 1))
          case measure => omega
          case rel => exact ⟨k + 1, rfl, by omega, by go_num, HX, HY, HZ, by rw [E1.out]; exact HQ, by rw [E2.out]; exact HU.out, HB.out⟩
        · have hz1 : (kk == 0) = false := by simpa using hkz
          have hz2 : (kk != 0) = true := by simpa using hkz
          have hset : (wr.setCell ⟨q, k, none⟩ (.int .u64 0)).heap[q]? = some (.cells (arrV (fK sm K (k + 1))).toArray 57 (0, 0)) := by
            rw [heap_setCell_same wr q k _ _ _ HQ.out, ← fK_set hlt Hsk.out]; simp
          have hoth : ∀ j, j ≠ q → (wr.setCell ⟨q, k, none⟩ (.int .u64 0)).heap[j]? = wr.heap[j]? := fun j hj => Below.heap_setCell wr ⟨q, k, none⟩ _ j hj
          have hx4 := (hoth w.heap.size (by omega)).trans HX.out
          have hy4 := (hoth (w.heap.size + 1) (by omega)).trans HY.out
          have hz4 := (hoth (w.heap.size + 1 + 1) (by omega)).trans HZ.out
          have hu4 := HU.out.set (p := ⟨q, k, none⟩) (by show q < q + 1; omega) (.int .u64 0)
          have hb4 := HB.out.setCell (p := ⟨q, k, none⟩) (by show w.heap.size ≤ q; omega) (.int .u64 0)
          have HX4 := Lib.hid hx4; have HY4 := Lib.hid hy4; have HZ4 := Lib.hid hz4; have HU4 := Lib.hid hu4; have HB4 := Lib.hid hb4; have HQ4 := Lib.hid hset
          clear hset hoth hx4 hy4 hz4 hu4 hb4
          by_cases hbut : (k : Int) = but
          · have hbd : ((k : Int) == but) = true := by simpa using hbut
            have hbd2 : ((k : Int) != but) = false := by simpa using hbut
            have e2 : goneK sm K but (k + 1) = goneK sm K but k := by rw [goneK_next, if_pos (by unfold gK; rw [if_neg (fun hh => hh.2 hbut)]), List.append_nil]
            have E2 := Lib.hid e2
            clear e2 hkz hbut
            go_wp2
            go_roundg (8 - (k + 1))
            case measure => omega
            case rel => exact ⟨k + 1, rfl, by omega, by go_num, HX4, HY4, HZ4, HQ4, by rw [E2.out]; exact HU4.out, HB4.out⟩
          · have hbd : ((k : Int) == but) = false := by simpa using hbut
            have hbd2 : ((k : Int) != but) = true := by simpa using hbut
            have e2 : goneK sm K but (k + 1) = goneK sm K but k ++ [(k : Int)] := by rw [goneK_next, if_neg (by unfold gK; rw [if_pos ⟨Hsk.out, hbut⟩, Hkk.out]; exact hkz)]
            have E2 := Lib.hid e2
            have hgl := goneK_len sm K but k
            clear e2 hkz hbut
            go_upto_region 9 with (fail)
            generalize wr.setCell ⟨q, k, none⟩ (.int .u64 0) = w4 at HX4 HY4 HZ4 HU4 HB4 HQ4 ⊢
            have hq4 : q < w4.heap.size := (Array.getElem?_eq_some_iff.1 HQ4.out).1
            go_wp2_with (at_builtin; refine wpList_append_own _ rfl _ _ 31 rfl (q + 1) 3 j0 _ 1 8 Try.underlying31 HJ.out.1 HJ.out.2.1 HJ.out.2.2.1 HJ.out.2.2.2 rfl (by omega) _ _ _ rfl (HU4.out.alloc _) ⟨w4.heap.size, 0, none⟩ 1 1 [.int .i64 k] rfl rfl (World.news_of_block (cs := #[.int .i64 k]) (t := 3) (fr := (0, 0)) (heap_alloc_new w4 _)) (by simp [Value.oneCell']) (by unfold maxLen; omega) (by omega) (by simp; omega) ?_)
            intro u5 w5 hu5 hg5 _
            have hbl5 : Below (q + 1) w4 w5 := below_grown ((Below.refl (q + 1) w4).alloc (by omega) _) (HU4.out.alloc _) hg5 (by simp; omega)
            have hu5' : OwnI (q + 1) w5 u5 (goneK sm K but (k + 1)) := by
              rw [E2.out]; unfold OwnI intsV; simpa [intsV] using hu5
            have hx5 := (hbl5.block w.heap.size (by omega)).trans HX4.out
            have hy5 := (hbl5.block (w.heap.size + 1) (by omega)).trans HY4.out
            have hz5 := (hbl5.block (w.heap.size + 1 + 1) (by omega)).trans HZ4.out
            have hq5 := (hbl5.block q (by omega)).trans HQ4.out
            have hb5 := HB4.out.trans (hbl5.mono (by omega))
            have HF := Lib.hid (And.intro hx5 (And.intro hy5 (And.intro hz5 (And.intro hq5 (And.intro hu5' hb5)))))
            clear hu5 hg5 hbl5 hu5' hx5 hy5 hz5 hq5 hb5
            go_wp2
            go_roundg (8 - (k + 1))
            case measure => omega
            case rel => exact ⟨k + 1, rfl, by omega, by go_num, Lib.hid HF.out.1, Lib.hid HF.out.2.1, Lib.hid HF.out.2.2.1, Lib.hid HF.out.2.2.2.1, HF.out.2.2.2.2.1, HF.out.2.2.2.2.2⟩
    · obtain rfl : k = 8 := by omega
      obtain ⟨xl8, x0_8, x1_8, x2_8, x3_8, x4_8, xf8⟩ := box5 HX.out
      obtain ⟨kv, Hkv⟩ : ∃ x, Hid ((arrV (fK sm K 8)).toArray = x) := ⟨_, Lib.hid rfl⟩
      have hqv := HQ.out
      rw [Hkv.out] at hqv
      have hks : Hid ((Try.prog.info? 57).map (·.size) = some kv.size) := Lib.hid (by rw [← Hkv.out, List.size_toArray, arrV_len]; exact info8)
      have Kp : Hid (∀ W, Calls Try.prog 49 #[.agg #[.int .u32 g, .slice A len cap, .int .i64 h, .int .i64 t, .bool p], .agg kv] W (PutP W g h t p (lstK (fK sm K 8) 8))) := Lib.hid fun W => by rw [← Hkv.out]; exact put_any g h t p _ (fK sm K 8) W ⟨A, len, cap, rfl⟩
      obtain ⟨L, HLL⟩ : ∃ x, Hid ((l.filter fun q => !sm q.1) = x) := ⟨_, Lib.hid rfl⟩
      have hLe : lstK (fK sm K 8) 8 = L := by rw [← HK.out, Hll.out, HLL.out]
      rw [hLe] at Kp
      have hge : goneK sm K but 8 = keepN but ((l.filter fun q => sm q.1).map (·.1)) := by rw [← HK.out, Hgl.out]
      rw [hge] at HU
      clear hLe hge
      go_upto_region 11 with (first
        | (refine wpList_load_row rfl 57 _ rfl q rfl 57 kv (0, 0) _ hqv Try.underlying57 rfl hks.out ?_)
        | (go_at_call 49; refine (Kp.out _).mono ?_; rintro e w6 ⟨v, rfl, ho6, hb6⟩; have hx6 := (hb6.block w.heap.size xl8).trans HX.out; have ho6' := ho6.lower (B' := q + 1) (by omega); obtain ⟨A2, c2, rfl, hs6⟩ := ho6'.sl; obtain ⟨xl6, x0_6, x1_6, x2_6, x3_6, x4_6, xf6⟩ := box5 hx6; clear hs6 ho6))
      have a6 : ∀ W : World, W = W := fun _ => rfl
      have hx9 := set5_heap hx6 (.int .u32 g) (.slice A2 L.length c2) (.int .i64 h) (.int .i64 t) (.bool p)
      have hoth : ∀ j, j ≠ w.heap.size → _ := fun j hj => set5_other (w := w6) (b := w.heap.size) (j := j) hj (.int .u32 g) (.slice A2 L.length c2) (.int .i64 h) (.int .i64 t) (.bool p)
      have hz9 := (hoth (w.heap.size + 1 + 1) (by omega)).trans ((hb6.block (w.heap.size + 1 + 1) (by omega)).trans HZ.out)
      have hq9 := (hoth q (by omega)).trans ((hb6.block q hql).trans hqv)
      have ho9 := ho6'.set5 (b := w.heap.size) (by omega) (.int .u32 g) (.slice A2 L.length c2) (.int .i64 h) (.int .i64 t) (.bool p)
      have hi9 := (HU.out.below hb6).set5 (b := w.heap.size) (by omega) (.int .u32 g) (.slice A2 L.length c2) (.int .i64 h) (.int .i64 t) (.bool p)
      have hb9 := set5B (stepB HB.out hb6) (Nat.le_refl w.heap.size) (.int .u32 g) (.slice A2 L.length c2) (.int .i64 h) (.int .i64 t) (.bool p)
      generalize ((((w6.setCell ⟨w.heap.size, 0, none⟩ (.int .u32 g)).setCell ⟨w.heap.size, 1, none⟩ (.slice A2 L.length c2)).setCell ⟨w.heap.size, 2, none⟩ (.int .i64 h)).setCell ⟨w.heap.size, 3, none⟩ (.int .i64 t)).setCell ⟨w.heap.size, 4, none⟩ (.bool p) = w9 at hx9 hz9 hq9 ho9 hi9 hb9 hoth ⊢
      clear hoth a6 hx6 ho6' hb6 hqv xl8 x0_8 x1_8 x2_8 x3_8 x4_8 xf8 xl6 x0_6 x1_6 x2_6 x3_6 x4_6 xf6
      obtain ⟨xl9, x0_9, x1_9, x2_9, x3_9, x4_9, xf9⟩ := box5 hx9
      obtain ⟨rl9, r0_9, r1_9, r2_9, r3_9, r4_9, rf9⟩ := box5 hz9
      have HO9 := Lib.hid ho9; have HI9 := Lib.hid hi9; have HB9 := Lib.hid hb9; have HQ9 := Lib.hid hq9
      clear ho9 hi9 hb9 hx9 hz9 hq9 HX HY HZ HQ HU HB
      rcases Hs3.out with ⟨ht0, hh0⟩ | ⟨ht0, hty, hkh⟩
      · subst ht0 hh0
        have HeH : Hid (remH L (-1) 0 = -1) := Lib.hid rfl
        have HeT : Hid (remT L (-1) 0 = 0) := Lib.hid rfl
        go_wp2
        have ho10 := (HO9.out).set5 (b := w.heap.size + 2) (by omega) (.int .u32 g) (.slice A2 L.length c2) (.int .i64 (-1)) (.int .i64 (0)) (.bool p)
        have hi10 := (HI9.out).set5 (b := w.heap.size + 2) (by omega) (.int .u32 g) (.slice A2 L.length c2) (.int .i64 (-1)) (.int .i64 (0)) (.bool p)
        exact bodyPost_ret (v := .tuple #[.agg #[.int .u32 g, .slice A2 L.length c2, .int .i64 (-1), .int .i64 (0), .bool p], u9]) (by simp [results, Try.results34, go_sem, r0_9, r1_9, r2_9, r3_9, r4_9, rl9, xl9]) rfl
          ⟨_, u9, by rw [HLL.out, HeH.out, HeT.out], (by rw [HLL.out]; exact ho10.lower (by omega)), hi10.lower (by omega), set5B (HB9.out) (by omega) _ _ _ _ _⟩
      · have hh0 : 0 ≤ h := Int.not_lt.1 fun hlt => hkh (keyL_rise Hr.out (by omega))
        have hh8 : h < 8 := Int.not_le.1 fun hge => hkh (keyL_hi Hr.out hge)
        obtain ⟨N, rfl⟩ : ∃ N : Nat, h = (N : Int) := ⟨h.toNat, by omega⟩
        have hN : N < 8 := by omega
        have cn : w9.cell? ⟨q, N, none⟩ = some (.int .u64 (fK sm K 8 (N : Int))) := by
          rw [cell_of_row w9 _ N _ _ _ HQ9.out, ← Hkv.out, List.getElem?_toArray]; exact arrV_at _ hN
        have hkn : fK sm K 8 (N : Int) = keyL L (N : Int) := by
          rw [← HLL.out, Hkl.out]
          unfold fK
          cases hsn : sm (N : Int) with
          | true => rw [if_pos ⟨by omega, rfl⟩]; rfl
          | false => rw [if_neg (by simp), ← HK.out]; rfl
        rw [hkn] at cn
        obtain ⟨kn, Hkn⟩ : ∃ x, Hid (keyL L (N : Int) = x) := ⟨_, Lib.hid rfl⟩
        rw [Hkn.out] at cn
        have hres : resB t = true := by simp [resB, ht0]
        have Hres := Lib.hid hres; have Hty := Lib.hid hty
        clear hres hkn hkh ht0 hty
        by_cases hz : kn = 0
        · have hz1 : (kn == 0) = true := by simpa using hz
          have hreg : regB L (N : Int) = false := by simp [regB, Hkn.out, hz]
          have Hreg := Lib.hid hreg
          clear hz hreg
          by_cases ho : t = 7 ∨ t = 8
          · have hoa : Hid (ofAllB t = true) := Lib.hid (by simpa [ofAllB] using ho)
            by_cases hLn : L = []
            · have HeH : Hid (remH L (N : Int) t = -1) := Lib.hid (by unfold remH; rw [Hres.out, Hreg.out, hLn]; rfl)
              have HeT : Hid (remT L (N : Int) t = 0) := Lib.hid (by unfold remT; rw [Hres.out, Hreg.out, hLn]; rfl)
              have hlz : L.length = 0 := by rw [hLn]; rfl
              have HLn := Lib.hid hLn
              clear hLn
              have hl0 : ¬ (0 : Int) < (L.length : Int) := by rw [hlz]; omega
              have hl1 : decide (0 < L.length) = false := decide_eq_false (by omega)
              have Hlz := Lib.hid hlz
              clear hlz
              rcases ho with rfl | rfl
              · go_wp2
                have ho10 := (setR (setR (HO9.out) (show w.heap.size < _ by omega) 2 (.int .i64 (-1))) (show w.heap.size < _ by omega) 3 (.int .i64 0)).set5 (b := w.heap.size + 2) (by omega) (.int .u32 g) (.slice A2 L.length c2) (.int .i64 (-1)) (.int .i64 (0)) (.bool p)
                have hi10 := (setI (setI (HI9.out) (show w.heap.size < _ by omega) 2 (.int .i64 (-1))) (show w.heap.size < _ by omega) 3 (.int .i64 0)).set5 (b := w.heap.size + 2) (by omega) (.int .u32 g) (.slice A2 L.length c2) (.int .i64 (-1)) (.int .i64 (0)) (.bool p)
                exact bodyPost_ret (v := .tuple #[.agg #[.int .u32 g, .slice A2 L.length c2, .int .i64 (-1), .int .i64 (0), .bool p], u9]) (by simp [results, Try.results34, go_sem, r0_9, r1_9, r2_9, r3_9, r4_9, rl9, xl9]) rfl
                  ⟨_, u9, by rw [HLL.out, HeH.out, HeT.out], (by rw [HLL.out]; exact ho10.lower (by omega)), hi10.lower (by omega), set5B (belSet (belSet (HB9.out) (Nat.le_refl _) 2 (.int .i64 (-1))) (Nat.le_refl _) 3 (.int .i64 0)) (by omega) _ _ _ _ _⟩
              · go_wp2
                have ho10 := (setR (setR (HO9.out) (show w.heap.size < _ by omega) 2 (.int .i64 (-1))) (show w.heap.size < _ by omega) 3 (.int .i64 0)).set5 (b := w.heap.size + 2) (by omega) (.int .u32 g) (.slice A2 L.length c2) (.int .i64 (-1)) (.int .i64 (0)) (.bool p)
                have hi10 := (setI (setI (HI9.out) (show w.heap.size < _ by omega) 2 (.int .i64 (-1))) (show w.heap.size < _ by omega) 3 (.int .i64 0)).set5 (b := w.heap.size + 2) (by omega) (.int .u32 g) (.slice A2 L.length c2) (.int .i64 (-1)) (.int .i64 (0)) (.bool p)
                exact bodyPost_ret (v := .tuple #[.agg #[.int .u32 g, .slice A2 L.length c2, .int .i64 (-1), .int .i64 (0), .bool p], u9]) (by simp [results, Try.results34, go_sem, r0_9, r1_9, r2_9, r3_9, r4_9, rl9, xl9]) rfl
                  ⟨_, u9, by rw [HLL.out, HeH.out, HeT.out], (by rw [HLL.out]; exact ho10.lower (by omega)), hi10.lower (by omega), set5B (belSet (belSet (HB9.out) (Nat.le_refl _) 2 (.int .i64 (-1))) (Nat.le_refl _) 3 (.int .i64 0)) (by omega) _ _ _ _ _⟩
            · obtain ⟨r, L', hLc⟩ := List.exists_cons_of_ne_nil hLn
              have HeH : Hid (remH L (N : Int) t = r.1) := Lib.hid (by unfold remH; rw [Hres.out, Hreg.out, hLc]; simp [hoa.out])
              have HeT : Hid (remT L (N : Int) t = t) := Lib.hid (by unfold remT; rw [Hres.out, Hreg.out, hLc]; simp [hoa.out])
              have hl0 : (0 : Int) < (L.length : Int) := by rw [hLc]; simp
              have hl1 : decide (0 < L.length) = true := by rw [hLc]; simp
              obtain ⟨g2, c2', hv2, hg2, hc2⟩ := OwnR.head (by rw [← hLc]; exact HO9.out)
              injection hv2 with hv2 he2 he3
              clear he2 he3
              subst hv2
              clear hLc hLn
              rcases ho with rfl | rfl
              · go_wp2
                have ho10 := (setR (HO9.out) (show w.heap.size < _ by omega) 2 (.int .i64 r.1)).set5 (b := w.heap.size + 2) (by omega) (.int .u32 g) (.slice (some ⟨g2, 0, none⟩) L.length c2) (.int .i64 (r.1)) (.int .i64 (7)) (.bool p)
                have hi10 := (setI (HI9.out) (show w.heap.size < _ by omega) 2 (.int .i64 r.1)).set5 (b := w.heap.size + 2) (by omega) (.int .u32 g) (.slice (some ⟨g2, 0, none⟩) L.length c2) (.int .i64 (r.1)) (.int .i64 (7)) (.bool p)
                exact bodyPost_ret (v := .tuple #[.agg #[.int .u32 g, .slice (some ⟨g2, 0, none⟩) L.length c2, .int .i64 (r.1), .int .i64 (7), .bool p], u9]) (by simp [results, Try.results34, go_sem, r0_9, r1_9, r2_9, r3_9, r4_9, rl9, xl9]) rfl
                  ⟨_, u9, by rw [HLL.out, HeH.out, HeT.out], (by rw [HLL.out]; exact ho10.lower (by omega)), hi10.lower (by omega), set5B (belSet (HB9.out) (Nat.le_refl _) 2 (.int .i64 r.1)) (by omega) _ _ _ _ _⟩
              · go_wp2
                have ho10 := (setR (HO9.out) (show w.heap.size < _ by omega) 2 (.int .i64 r.1)).set5 (b := w.heap.size + 2) (by omega) (.int .u32 g) (.slice (some ⟨g2, 0, none⟩) L.length c2) (.int .i64 (r.1)) (.int .i64 (8)) (.bool p)
                have hi10 := (setI (HI9.out) (show w.heap.size < _ by omega) 2 (.int .i64 r.1)).set5 (b := w.heap.size + 2) (by omega) (.int .u32 g) (.slice (some ⟨g2, 0, none⟩) L.length c2) (.int .i64 (r.1)) (.int .i64 (8)) (.bool p)
                exact bodyPost_ret (v := .tuple #[.agg #[.int .u32 g, .slice (some ⟨g2, 0, none⟩) L.length c2, .int .i64 (r.1), .int .i64 (8), .bool p], u9]) (by simp [results, Try.results34, go_sem, r0_9, r1_9, r2_9, r3_9, r4_9, rl9, xl9]) rfl
                  ⟨_, u9, by rw [HLL.out, HeH.out, HeT.out], (by rw [HLL.out]; exact ho10.lower (by omega)), hi10.lower (by omega), set5B (belSet (HB9.out) (Nat.le_refl _) 2 (.int .i64 r.1)) (by omega) _ _ _ _ _⟩
          · have hoa : Hid (ofAllB t = false) := Lib.hid (by simpa [ofAllB] using ho)
            have ho7 : (t == 7) = false := by simp; omega
            have ho8 : (t == 8) = false := by simp; omega
            have HeH : Hid (remH L (N : Int) t = -1) := Lib.hid (by unfold remH; rw [Hres.out, Hreg.out]; cases L <;> simp [hoa.out])
            have HeT : Hid (remT L (N : Int) t = 0) := Lib.hid (by unfold remT; rw [Hres.out, Hreg.out]; cases L <;> simp [hoa.out])
            clear ho
            go_wp2
            have ho10 := (setR (setR (HO9.out) (show w.heap.size < _ by omega) 2 (.int .i64 (-1))) (show w.heap.size < _ by omega) 3 (.int .i64 0)).set5 (b := w.heap.size + 2) (by omega) (.int .u32 g) (.slice A2 L.length c2) (.int .i64 (-1)) (.int .i64 (0)) (.bool p)
            have hi10 := (setI (setI (HI9.out) (show w.heap.size < _ by omega) 2 (.int .i64 (-1))) (show w.heap.size < _ by omega) 3 (.int .i64 0)).set5 (b := w.heap.size + 2) (by omega) (.int .u32 g) (.slice A2 L.length c2) (.int .i64 (-1)) (.int .i64 (0)) (.bool p)
            exact bodyPost_ret (v := .tuple #[.agg #[.int .u32 g, .slice A2 L.length c2, .int .i64 (-1), .int .i64 (0), .bool p], u9]) (by simp [results, Try.results34, go_sem, r0_9, r1_9, r2_9, r3_9, r4_9, rl9, xl9]) rfl
              ⟨_, u9, by rw [HLL.out, HeH.out, HeT.out], (by rw [HLL.out]; exact ho10.lower (by omega)), hi10.lower (by omega), set5B (belSet (belSet (HB9.out) (Nat.le_refl _) 2 (.int .i64 (-1))) (Nat.le_refl _) 3 (.int .i64 0)) (by omega) _ _ _ _ _⟩
        · have hz1 : (kn == 0) = false := by simpa using hz
          have hreg : regB L (N : Int) = true := by simp [regB, Hkn.out, hz]
          have HeH : Hid (remH L (N : Int) t = (N : Int)) := Lib.hid (by unfold remH; rw [Hres.out, hreg]; rfl)
          have HeT : Hid (remT L (N : Int) t = t) := Lib.hid (by unfold remT; rw [Hres.out, hreg]; rfl)
          clear hz hreg
          go_wp2
          have ho10 := (HO9.out).set5 (b := w.heap.size + 2) (by omega) (.int .u32 g) (.slice A2 L.length c2) (.int .i64 ((N : Int))) (.int .i64 (t)) (.bool p)
          have hi10 := (HI9.out).set5 (b := w.heap.size + 2) (by omega) (.int .u32 g) (.slice A2 L.length c2) (.int .i64 ((N : Int))) (.int .i64 (t)) (.bool p)
          exact bodyPost_ret (v := .tuple #[.agg #[.int .u32 g, .slice A2 L.length c2, .int .i64 ((N : Int)), .int .i64 (t), .bool p], u9]) (by simp [results, Try.results34, go_sem, r0_9, r1_9, r2_9, r3_9, r4_9, rl9, xl9]) rfl
            ⟨_, u9, by rw [HLL.out, HeH.out, HeT.out], (by rw [HLL.out]; exact ho10.lower (by omega)), hi10.lower (by omega), set5B (HB9.out) (by omega) _ _ _ _ _⟩
end
end Go.Proofs.Ytkpogmigfjmacaa
