/-
  The reference's Encode.
-/
import Derived.Test.YtakejggofghblaaPdRFour
set_option linter.unusedSimpArgs false
set_option linter.unusedVariables false
namespace Go.Proofs.Ytakejggofghblaa
open Go.RowKit Sh Cr Pd

theorem rmay_v {w : World} {p : P} {cs : Array Value} (hk : p.Ok) (hv : PduV w p cs) : Calls Try.prog 14 #[.agg cs] w (SayPost (mayB p) w) := by
  have hl := hv.le
  obtain ⟨ap, ac, dp, dc, rfl, _⟩ := hv
  exact rmay_any p ap dp ac dc hl.1 hl.2 hk w
def FourP (w : World) (l : List UInt8) (e : Ending) (w' : World) : Prop := ∃ bp cap, e = .returned (.slice bp 4 cap) ∧ Bytes w'.heap.size w' bp 4 cap l ∧ Below w.heap.size w w'
theorem FourP.of {w w' : World} {l : List UInt8} {e : Ending} (hl : l.length = 4) (h : OwnP w l e w') : FourP w l e w' := by
  obtain ⟨v, rfl, hO⟩ := h
  obtain ⟨bp, cap, rfl, hB⟩ := hO.bytes
  rw [hl] at hB ⊢
  exact ⟨bp, cap, rfl, hB, hO.below⟩
theorem four_z (z : Int) (x : Nat) (hz : z = (x : Int)) (hx : x < 4294967296) (w : World) : Calls Try.prog 25 #[.int .u32 z] w (FourP w (toBe 4 x)) := by
  subst hz
  exact (four_any x hx w).mono fun e w' h => FourP.of (toBe_length _ _) h
theorem rsum_b (bp : Option Addr) (len cap N : Nat) (bs : List UInt8) (w : World) (hB : Bytes N w bp len cap bs) :
    Calls Try.prog 26 #[.slice bp len cap] w (FourP w (le4 (Cr.sum bs))) :=
  (rsum_any bp len cap N bs w hB).mono fun e w' h => FourP.of rfl h
set_option maxRecDepth 100000 in
set_option maxHeartbeats 4000000 in
theorem renc_no (p : P) (hm : mayB p = false) (hk : p.Ok) (cs : Array Value) (h d : Bool) (w : World) (hv : PduV w p cs) :
    Calls Try.prog 12 #[.agg cs, .bool h, .bool d] w (OwnP w (encB p h d)) := by
  have hz := hv.size
  have hb0 : Below w.heap.size w (w.alloc (.cells cs 28)) := (Below.refl _ w).alloc (Nat.le_refl _) _
  have HLD := Lib.hid (load_pdu (w := w.alloc (.cells cs 28)) (g := w.heap.size) (heap_alloc_new w _) hz)
  have HM := Lib.hid (rmay_v hk (hv.below hb0))
  rw [hm] at HM
  have HB0 := Lib.hid hb0
  clear hb0
  go_enter Try.func12, Try.ntmps12
  go_wp2_with (first
    | (refine wpList_val (by rfl) (exec_load _ _ 28 _ rfl w.heap.size 0 rfl cs HLD.out) ?_; clear HLD)
    | (go_at_call 14; refine HM.out.mono ?_; rintro e w2 ⟨rfl, hb2⟩; have HB2 := Lib.hid hb2; clear hb2 HM))
  go_ret
  refine ⟨_, rfl, ?_⟩
  have e : encB p h d = [] := by unfold encB; rw [hm]; rfl
  rw [e]
  exact Own.start (addb HB0.out HB2.out)
theorem toBe8 (L : Nat) : toBe 4 (L / 4294967296) ++ toBe 4 (L % 4294967296) = toBe 8 L := by
  simp only [toBe, List.nil_append, List.cons_append]
  simp only [List.cons.injEq, and_true]
  refine ⟨?_, ?_, ?_, ?_, ?_, ?_, ?_, ?_⟩ <;> (congr 1; omega)
def q0 (q : Nat) (im : Bool) : Nat := q + if im then 64 else 0
set_option maxRecDepth 100000 in
set_option maxHeartbeats 16000000 in
theorem renc_yes (p : P) (hm : mayB p = true) (hk : p.Ok) (cs : Array Value) (h d : Bool) (w : World) (hv : PduV w p cs) :
    Calls Try.prog 12 #[.agg cs, .bool h, .bool d] w (OwnP w (encB p h d)) := by
  obtain ⟨o1, o2, a1, a2, d1⟩ := (mayB_iff p).1 hm
  obtain ⟨q, hq⟩ : ∃ q : Nat, p.op = (q : Int) := ⟨p.op.toNat, by omega⟩
  have hz := hv.size
  have hb0 : Below w.heap.size w (w.alloc (.cells cs 28)) := (Below.refl _ w).alloc (Nat.le_refl _) _
  have HLD := Lib.hid (load_pdu (w := w.alloc (.cells cs 28)) (g := w.heap.size) (heap_alloc_new w _) hz)
  have HM := Lib.hid (rmay_v hk (hv.below hb0))
  rw [hm] at HM
  have HB0 := Lib.hid hb0
  have HX0 : Hid ((w.alloc (.cells cs 28)).heap[w.heap.size]? = some (.cells cs 28 (0, 0))) := Lib.hid (heap_alloc_new w _)
  have HV0 := Lib.hid (hv.below hb0)
  have HE := Lib.hid (enc_eq hm h d)
  clear hb0 hv
  go_enter Try.func12, Try.ntmps12
  go_upto_region 3 with (first
    | (refine wpList_val (by rfl) (exec_load _ _ 28 _ rfl w.heap.size 0 rfl cs HLD.out) ?_; clear HLD)
    | (go_at_call 14; refine HM.out.mono ?_; rintro e w1 ⟨rfl, hb2⟩; have HB1 := Lib.hid (addb HB0.out hb2); have HV1 := Lib.hid (HV0.out.below hb2); have HX1 := Lib.hid ((hb2.block _ (Array.getElem?_eq_some_iff.1 HX0.out).1).trans HX0.out); clear hb2 HM))
  clear HB0 HX0 HV0
  generalize w.heap.size = x at HX1 ⊢
  have HC : Hid (∀ W, Below w1.heap.size w1 W → ∀ (i : Nat) (v : Value), cs[i]? = some v → W.cell? ⟨x, i, none⟩ = some v) := Lib.hid (fun W hW i v hi => by
    rw [cell_of_row _ _ _ _ _ _ ((hW.block _ (Array.getElem?_eq_some_iff.1 HX1.out).1).trans HX1.out)]; exact hi)
  obtain ⟨ap, ac, dp, dc, hcs, hA, hD⟩ := HV1.out
  have HA := Lib.hid hA; have HD := Lib.hid hD
  clear hA hD HX1 HV1
  obtain ⟨al, hal⟩ : ∃ al, Hid (p.ahs.length = al) := ⟨_, Lib.hid rfl⟩
  obtain ⟨dl, hdl⟩ : ∃ dl, Hid (p.data.length = dl) := ⟨_, Lib.hid rfl⟩
  rw [hal.out] at HA a1 a2
  rw [hdl.out] at HD d1
  obtain ⟨im, him⟩ : ∃ b, Hid (p.imm = b) := ⟨_, Lib.hid rfl⟩
  have HCS := Lib.hid hcs
  have q63 : q ≤ 63 := by omega
  have c0 : w1.cell? ⟨x, 0, none⟩ = some (.int .i64 (q : Int)) := HC.out _ (Below.refl _ _) 0 _ (by rw [hcs, ← hq]; rfl)
  have c1 : w1.cell? ⟨x, 1, none⟩ = some (.bool im) := HC.out _ (Below.refl _ _) 1 _ (by rw [hcs, ← him.out]; rfl)
  have c2 : w1.cell? ⟨x, 2, none⟩ = some (.int .u8 (bz p.fl)) := HC.out _ (Below.refl _ _) 2 _ (by rw [hcs]; rfl)
  have c3 : w1.cell? ⟨x, 3, none⟩ = some (.int .u8 (bz p.s0)) := HC.out _ (Below.refl _ _) 3 _ (by rw [hcs]; rfl)
  have c4 : w1.cell? ⟨x, 4, none⟩ = some (.int .u8 (bz p.s1)) := HC.out _ (Below.refl _ _) 4 _ (by rw [hcs]; rfl)
  have c5 : w1.cell? ⟨x, 5, none⟩ = some (.slice ap al ac) := HC.out _ (Below.refl _ _) 5 _ (by rw [hcs, ← hal.out]; rfl)
  have c15 : w1.cell? ⟨x, 15, none⟩ = some (.slice dp dl dc) := HC.out _ (Below.refl _ _) 15 _ (by rw [hcs, ← hdl.out]; rfl)
  clear hcs
  have HQ := Lib.hid hq
  clear hq
  go_upto_if 18 with (fail)
  go_cut [7] (fun s7 wd => s7 = .int .u8 ((q0 q im : Nat) : Int) ∧ w1 = wd)
  case first =>
    cases im
    all_goals
      go_wp2
      go_meet
      exact ⟨by unfold q0; first | rfl | (congr 1; simp; try omega), rfl⟩
  case rest =>
    obtain ⟨rfl, rfl⟩ := hcut
    go_upto_region 7 with (fail)
    have e8 : (#[.int .u8 ((q0 q im : Nat) : Int), .int .u8 (bz p.fl), .int .u8 (bz p.s0), .int .u8 (bz p.s1), .int .u8 ((al : Int) / 4), .int .u8 0, .int .u8 ((dl : Int) / 256), .int .u8 ((dl : Int) % 256)] : Array Value) = ((p5 p ++ toBe 3 dl).map cu8).toArray := by
      have hq := HQ.out
      unfold p5
      rw [hal.out, him.out, hq, Int.toNat_natCast]
      simp only [toBe, List.nil_append, List.cons_append, List.map_cons, List.map_nil, cu8, bz_eq, UInt8.toNat_ofNat']
      congr 1
      simp only [List.cons.injEq, Value.int.injEq, true_and, and_true]
      refine ⟨?_, ?_, ?_, ?_, ?_⟩
      · unfold q0; split <;> omega
      all_goals omega
    rw [e8]
    have HO2 : Hid (Own w1 (.slice (some ⟨w1.heap.size, 0, none⟩) 8 8) 8 (p5 p ++ toBe 3 dl) (w1.alloc (.cells ((p5 p ++ toBe 3 dl).map cu8).toArray 5))) := Lib.hid (Own.of_cells (w := w1) (l := p5 p ++ toBe 3 dl) (by show 8 ≤ maxLen; unfold maxLen; omega))
    clear c0 c1 c2 c3 c4 c5 c15 e8
    generalize w1.alloc (.cells ((p5 p ++ toBe 3 dl).map cu8).toArray 5) = w2 at HO2 ⊢
    generalize (Value.slice (some ⟨w1.heap.size, 0, none⟩) 8 8) = v2 at HO2 ⊢
    obtain ⟨L, hL⟩ : ∃ L, Hid (p.lun = L) := ⟨_, Lib.hid rfl⟩
    have hlu := hk.hl
    rw [hL.out] at hlu
    have c6 : w2.cell? ⟨x, 6, none⟩ = some (.int .u64 (L : Int)) := HC.out _ HO2.out.below 6 _ (by rw [HCS.out, ← hL.out]; rfl)
    go_upto_region 8 with (first
      | (go_at_call 25; refine (four_z _ (L / 4294967296) (by omega) (by omega) w2).mono ?_; rintro e wf ⟨bp, cp, rfl, hB, hb⟩; have HBf := Lib.hid hB; have HOf := Lib.hid (HO2.out.keep hb); clear hB hb HO2)
      | (refine wpList_join w1 wf rfl _ _ rfl _ 8 _ rfl HOf.out _ bp 4 cp (toBe 4 (L / 4294967296)) rfl HBf.out 12 rfl (by omega) ?_; intro v3 w3 hO' _; have HO3 := Lib.hid hO'; clear hO' HOf HBf))
    clear c6
    have c6 : w3.cell? ⟨x, 6, none⟩ = some (.int .u64 (L : Int)) := HC.out _ HO3.out.below 6 _ (by rw [HCS.out, ← hL.out]; rfl)
    go_upto_region 9 with (first
      | (go_at_call 25; refine (four_z _ (L % 4294967296) (by omega) (by omega) w3).mono ?_; rintro e wf ⟨bp, cp, rfl, hB, hb⟩; have HBf := Lib.hid hB; have HOf := Lib.hid (HO3.out.keep hb); clear hB hb HO3)
      | (refine wpList_join w1 wf rfl _ _ rfl _ 12 _ rfl HOf.out _ bp 4 cp (toBe 4 (L % 4294967296)) rfl HBf.out 16 rfl (by omega) ?_; intro v4 w4 hO' _; have HO4 := Lib.hid hO'; clear hO' HOf HBf))
    clear c6
    obtain ⟨G, hG⟩ : ∃ G, Hid (p.tag = G) := ⟨_, Lib.hid rfl⟩
    have htg := hk.ht
    rw [hG.out] at htg
    have c7 : w4.cell? ⟨x, 7, none⟩ = some (.int .u32 (G : Int)) := HC.out _ HO4.out.below 7 _ (by rw [HCS.out, ← hG.out]; rfl)
    go_upto_region 10 with (first
      | (go_at_call 25; refine (four_z _ (G) (by omega) (by omega) w4).mono ?_; rintro e wf ⟨bp, cp, rfl, hB, hb⟩; have HBf := Lib.hid hB; have HOf := Lib.hid (HO4.out.keep hb); clear hB hb HO4)
      | (refine wpList_join w1 wf rfl _ _ rfl _ 16 _ rfl HOf.out _ bp 4 cp (toBe 4 (G)) rfl HBf.out 20 rfl (by omega) ?_; intro v5 w5 hO' _; have HO5 := Lib.hid hO'; clear hO' HOf HBf))
    clear c7
    have epre : p5 p ++ toBe 3 dl ++ toBe 4 (L / 4294967296) ++ toBe 4 (L % 4294967296) ++ toBe 4 G = pre20 p := by
      rw [List.append_assoc (p5 p ++ toBe 3 dl) (toBe 4 _) (toBe 4 _), toBe8]
      unfold pre20 p5
      rw [hdl.out, hL.out, hG.out]
    rw [epre] at HO5
    go_upto_region 10 with (fail)
    go_wp2
    go_loopg [8, 9] 7 (fun m b i wr => ∃ k : Nat, k ≤ 7 ∧ m = 7 - k ∧ i = .int .i64 (k : Int) ∧ Hid (Own w1 b (20 + 4 * k) (pre20 p ++ wsL p k) wr))
    case atStart => exact ⟨0, by omega, rfl, rfl, by have e0 : pre20 p ++ wsL p 0 = pre20 p := List.append_nil _; rw [e0]; exact HO5⟩
    case round =>
      clear HO5
      obtain ⟨k, hk7, rfl, rfl, HOk⟩ := hrel
      by_cases hlt : k < 7
      · have hlt' : (k : Int) < 7 := by omega
        have hwk := hk.hw k
        have HS := Lib.hid (wsL_succ p k)
        obtain ⟨y, hy⟩ : ∃ y, Hid (p.w k = y) := ⟨_, Lib.hid rfl⟩
        rw [hy.out] at hwk HS
        have ck : wr.cell? ⟨x, 8 + k, none⟩ = some (.int .u32 (y : Int)) := HC.out _ HOk.out.below (8 + k) _ (by
          rw [HCS.out, ← hy.out]
          rcases (by omega : k = 0 ∨ k = 1 ∨ k = 2 ∨ k = 3 ∨ k = 4 ∨ k = 5 ∨ k = 6) with rfl | rfl | rfl | rfl | rfl | rfl | rfl <;> rfl)
        go_wp2_with (first
          | (go_at_call 25; refine (four_z _ y (by omega) (by omega) wr).mono ?_; rintro e wf ⟨bp, cp, rfl, hB, hb⟩; have HBf := Lib.hid hB; have HOf := Lib.hid (HOk.out.keep hb); clear hB hb HOk)
          | (refine wpList_join w1 wf rfl _ _ rfl _ (20 + 4 * k) _ rfl HOf.out _ bp 4 cp (toBe 4 y) rfl HBf.out (20 + 4 * (k + 1)) (by omega) (by omega) ?_; intro vn wn hO' _; have HOn := Lib.hid hO'; clear hO' HOf HBf))
        go_roundg (7 - (k + 1))
        case measure => omega
        case rel => exact ⟨k + 1, by omega, rfl, by go_num, by rw [HS.out, ← List.append_assoc]; exact HOn⟩
      · obtain rfl : k = 7 := by omega
        have hlt' : ¬ ((7 : Int) < 7) := by omega
        have eh : pre20 p ++ wsL p 7 = hdr p := hdr_parts p
        rw [eh] at HOk
        go_upto_region 14 with (fail)
        clear hlt hlt'
        have c5 : wr.cell? ⟨x, 5, none⟩ = some (.slice ap al ac) := HC.out _ HOk.out.below 5 _ (by rw [HCS.out, ← hal.out]; rfl)
        have HAk := Lib.hid (HA.out.below HOk.out.below)
        go_upto_region 15 with (refine wpList_join w1 wr rfl _ _ rfl _ (20 + 4 * 7) _ rfl HOk.out _ ap al ac p.ahs rfl HAk.out (48 + al) (by omega) (by omega) ?_; intro v6 w6 hO' _; have HO6 := Lib.hid hO'; clear hO' HOk)
        clear c5 HAk
        obtain ⟨b6, p6, hv6, HB6⟩ := HO6.out.bytes
        subst hv6
        have HB6 := Lib.hid HB6
        go_upto_if 78 with (fail)
        go_cut [8] (fun s8 wd => Hid (Own w1 s8 (48 + al + bN h 4) (headB p h) wd))
        case first =>
          cases h
          · go_wp2
            go_meet
            exact HO6
          · have HSU := Lib.hid (rsum_b _ _ _ _ _ w6 HB6.out)
            go_wp2_with (first
              | (go_at_call 26; refine HSU.out.mono ?_; rintro e wf ⟨bp, cp, rfl, hB, hb⟩; have HBf := Lib.hid hB; have HOf := Lib.hid (HO6.out.keep hb); clear hB hb)
              | (refine wpList_join w1 wf rfl _ _ rfl _ (48 + al) _ rfl HOf.out _ bp 4 cp (le4 (Cr.sum (hdr p ++ p.ahs))) rfl HBf.out (48 + al + 4) rfl (by omega) ?_; intro vn wn hO' _; have HOn := Lib.hid hO'; clear hO' HOf HBf))
            go_meet
            exact HOn
        case rest =>
          clear HO6 HB6
          have HO7 := hcut
          clear hcut
          rename World => wb
          have c15 : wb.cell? ⟨x, 15, none⟩ = some (.slice dp dl dc) := HC.out _ HO7.out.below 15 _ (by rw [HCS.out, ← hdl.out]; rfl)
          rcases Nat.eq_zero_or_pos dl with h0 | h0
          · have hn0 : p.data = [] := List.length_eq_zero_iff.1 (by rw [hdl.out]; exact h0)
            subst h0
            go_wp2
            go_ret
            refine ⟨_, rfl, ?_⟩
            have el : (encB p h d).length = 48 + al + bN h 4 := by rw [enc_size hm, hal.out, hdl.out]; simp
            have ee : encB p h d = headB p h := by rw [HE.out]; unfold bodyB; rw [hn0]; simp [padN, closed]
            rw [el, ee]
            exact HO7.out.rebase HB1.out
          · have h0' : ¬ ((dl : Int) = 0) := by omega
            have HDb := Lib.hid (HD.out.below HO7.out.below)
            go_upto_block 2 with (refine wpList_join wb wb rfl _ _ rfl _ 0 [] rfl (Own.start (Below.refl _ _)) _ dp dl dc p.data rfl HDb.out dl (by omega) (by omega) ?_; intro v8 w8 hO' _; have HO8 := Lib.hid hO'; clear hO')
            rw [List.nil_append] at HO8
            obtain ⟨kz, hkz⟩ : ∃ kz, Hid (padN dl = kz) := ⟨_, Lib.hid rfl⟩
            have hk4 : kz < 4 := by rw [← hkz.out]; exact padN_lt _
            have hkm : (dl + kz) % 4 = 0 := by rw [← hkz.out]; unfold padN; omega
            have HKN := Lib.hid (fun k (hk : k < kz) => show (dl + k) % 4 ≠ 0 by rw [← hkz.out] at hk; unfold padN at hk; omega)
            go_wp2
            go_loopg [10] kz (fun m vd wr => ∃ k : Nat, k ≤ kz ∧ m = kz - k ∧ Hid (Own wb vd (dl + k) (p.data ++ List.replicate k 0) wr))
            case atStart => exact ⟨0, by omega, rfl, by rw [List.replicate_zero, List.append_nil]; exact HO8⟩
            case round =>
              clear HO8
              obtain ⟨k, hkk, rfl, HOk⟩ := hrel
              obtain ⟨bd, cd, rfl, HBd⟩ := HOk.out.bytes
              have HBd := Lib.hid HBd
              obtain ⟨z, hzz⟩ : ∃ z, Hid (dl + k = z) := ⟨_, Lib.hid rfl⟩
              rw [hzz.out] at HOk HBd ⊢
              by_cases hlt : k < kz
              · have hgt : (0 : Int) < (z : Int) % 4 := by have := HKN.out k hlt; rw [hzz.out] at this; omega
                have hb1 : Below wr.heap.size wr (wr.alloc (.cells #[.int .u8 0] 5)) := (Below.refl _ _).alloc (Nat.le_refl _) _
                have HO1 := Lib.hid (HOk.out.keep hb1)
                have HBz : Hid (Bytes (wr.alloc (.cells #[.int .u8 0] 5)).heap.size (wr.alloc (.cells #[.int .u8 0] 5)) (some ⟨wr.heap.size, 0, none⟩) 1 1 [0]) := Lib.hid (row_bytes (l := [0]) (t := 5) (heap_alloc_new wr (.cells #[.int .u8 0] 5)) (by unfold maxLen; decide))
                clear hb1
                go_wp2_with (refine wpList_join wb (wr.alloc (.cells #[.int .u8 0] 5)) rfl _ _ rfl _ z _ rfl HO1.out _ (some ⟨wr.heap.size, 0, none⟩) 1 1 [0] rfl HBz.out (dl + (k + 1)) (by have := hzz.out; omega) (by omega) ?_; intro vn wn hO' _; have HOn := Lib.hid hO'; clear hO' HO1 HBz)
                go_roundg (kz - (k + 1))
                case measure => omega
                case rel => exact ⟨k + 1, by omega, rfl, by rw [List.replicate_succ', ← List.append_assoc]; exact HOn⟩
              · have hgt : ¬ (0 : Int) < (z : Int) % 4 := by
                  obtain rfl : k = kz := by omega
                  rw [hzz.out] at hkm
                  omega
                obtain rfl : k = kz := by omega
                obtain ⟨dd, hdd⟩ : ∃ D, Hid (p.data ++ List.replicate k (0 : UInt8) = D) := ⟨_, Lib.hid rfl⟩
                rw [hdd.out] at HOk HBd
                have hz4 : z ≤ 300 := by have := hzz.out; omega
                go_upto_if 98 with (fail)
                go_cut [10] (fun s10 wd => Hid (Own wb s10 (z + bN d 4) (closed d dd) wd))
                case first =>
                  cases d
                  · go_wp2
                    go_meet
                    exact HOk
                  · have HSU := Lib.hid (rsum_b _ _ _ _ _ wr HBd.out)
                    go_wp2_with (first
                      | (go_at_call 26; refine HSU.out.mono ?_; rintro e wf ⟨bp, cp, rfl, hB, hb⟩; have HBf := Lib.hid hB; have HOf := Lib.hid (HOk.out.keep hb); clear hB hb)
                      | (refine wpList_join wb wf rfl _ _ rfl _ z _ rfl HOf.out _ bp 4 cp (le4 (Cr.sum dd)) rfl HBf.out (z + 4) rfl (by omega) ?_; intro vn wn hO' _; have HOn := Lib.hid hO'; clear hO' HOf HBf))
                    go_meet
                    exact HOn
                case rest =>
                  clear HOk HBd hgt
                  obtain ⟨be, ce, rfl, HBe⟩ := hcut.out.bytes
                  have HBe := Lib.hid HBe
                  have HOb := Lib.hid (HO7.out.keep hcut.out.below)
                  have hb4 : bN h 4 ≤ 4 ∧ bN d 4 ≤ 4 := by unfold bN; constructor <;> split <;> omega
                  rename World => we
                  go_wp2_with (refine wpList_join w1 we rfl _ _ rfl _ (48 + al + bN h 4) _ rfl HOb.out _ be (z + bN d 4) ce _ rfl HBe.out (48 + al + bN h 4 + (z + bN d 4)) rfl (by omega) ?_; intro vn wn hO' _; have HOn := Lib.hid hO'; clear hO')
                  go_ret
                  refine ⟨_, rfl, ?_⟩
                  have ee : encB p h d = headB p h ++ closed d dd := by
                    rw [HE.out]; unfold bodyB
                    rw [hdl.out, hkz.out, decide_eq_true h0, Bool.and_true, hdd.out]
                  have el : (encB p h d).length = 48 + al + bN h 4 + (z + bN d 4) := by
                    rw [enc_size hm, hal.out, hdl.out, if_pos h0]
                    have := hzz.out
                    omega
                  rw [el, ee]
                  exact HOn.out.rebase HB1.out
theorem renc_any (p : P) (hk : p.Ok) (cs : Array Value) (h d : Bool) (w : World) (hv : PduV w p cs) :
    Calls Try.prog 12 #[.agg cs, .bool h, .bool d] w (OwnP w (encB p h d)) := by
  cases hm : mayB p
  · exact renc_no p hm hk cs h d w hv
  · exact renc_yes p hm hk cs h d w hv
end Go.Proofs.Ytakejggofghblaa
