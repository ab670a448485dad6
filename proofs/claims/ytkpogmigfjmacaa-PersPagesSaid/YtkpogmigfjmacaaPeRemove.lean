/-
  pers.remove, whatever the closure.
-/
import Derived.Test.YtkpogmigfjmacaaPeClo
import Derived.Lib.Walk
import Derived.Shelf.Abstract
import Derived.RegionTactic
import Derived.Deep.RegionWith
set_option linter.unusedSimpArgs false
set_option linter.unusedVariables false
namespace Go.Proofs.Ytkpogmigfjmacaa
open Go.RowKit

/-- A table and a list of the call's own. -/
def RemP (w : World) (g : Int) (l : List (Int × Int)) (h t : Int) (p : Bool) (gone : List Int) (e : Ending) (w' : World) : Prop :=
  ∃ v u, e = .returned (.tuple #[.agg #[.int .u32 g, v, .int .i64 h, .int .i64 t, .bool p], u]) ∧ OwnR w.heap.size w' v l ∧ OwnI w.heap.size w' u gone ∧ Below w.heap.size w w'

set_option maxRecDepth 100000 in
set_option maxHeartbeats 4000000 in
theorem remove_any (g h t : Int) (p : Bool) (A : Option Addr) (len cap : Nat) (l : List (Int × Int)) (w : World) (hl : l.length = len) (hm : len ≤ 6) (hR : RgA w.heap.size w A l)
    (fg : Nat) (cb : Array Value) (eg : ∀ args w, (callFunc fg args).run Try.prog w = .ok (.enter fg args) w) (pd : Int × Int → Bool)
    (hC : ∀ W q1 q2, Below w.heap.size w W → Calls Try.prog fg (#[.agg #[.int .i64 q1, .int .u64 q2]] ++ cb) W (Ret (.bool (pd (q1, q2))) W)) :
    Calls Try.prog 51 #[.agg #[.int .u32 g, .slice A len cap, .int .i64 h, .int .i64 t, .bool p], .func (.func fg) #[] cb] w
      (RemP w g (leftOf pd l) (remH (leftOf pd l) h t) (remT (leftOf pd l) h t) p (goneOf pd l)) := by
  have HR := Lib.hid hR; have Hl := Lib.hid hl; have HC := Lib.hid hC
  obtain ⟨i0, hi0, hz0, hz1, hz2⟩ := info_parts infoReg
  obtain ⟨j0, hj0, hy0, hy1, hy2⟩ := info_parts infoInt
  have HI := Lib.hid (And.intro hi0 (And.intro hz0 (And.intro hz1 hz2)))
  have HJ := Lib.hid (And.intro hj0 (And.intro hy0 (And.intro hy1 hy2)))
  clear hR hl hC hi0 hz0 hz1 hz2 hj0 hy0 hy1 hy2
  go_enter Try.func51, Try.ntmps51
  go_wp2
  obtain ⟨W2, HW2⟩ : ∃ W2, Hid (W2 = (w.alloc (.cells #[.int .u32 g, .slice A len cap, .int .i64 h, .int .i64 t, .bool p] 25)).alloc (.cells #[.int .u32 0, .slice none 0 0, .int .i64 0, .int .i64 0, .bool false] 25)) := ⟨_, Lib.hid rfl⟩
  go_loopg [13, 6, 7, 9] len (fun m i v u _ wr => ∃ k : Nat, m = len - k ∧ k ≤ len ∧ i = .int .i64 k ∧ OwnR (w.heap.size + 2) wr v (leftOf pd (l.take k)) ∧ OwnI (w.heap.size + 2) wr u (goneOf pd (l.take k)) ∧ Below (w.heap.size + 2) W2 wr)
  case atStart => exact ⟨0, rfl, by omega, rfl, OwnR.nil _ _, OwnI.nil _ _, by rw [HW2.out]; exact Below.refl _ _⟩
  case round =>
    obtain ⟨k, rfl, hk, rfl, hv, hu, hb⟩ := hrel
    have hbw : Below w.heap.size w wr := (by rw [HW2.out] at hb; exact (bel2 w _ _).trans (hb.mono (by omega)))
    have sz : w.heap.size + 2 ≤ wr.heap.size := by have := hb.size; rw [HW2.out] at this; simp at this; omega
    by_cases hlt : k < len
    · have hltz : (k : Int) < (len : Int) := by omega
      obtain ⟨q, hq⟩ : ∃ q, l[k]? = some q := ⟨_, List.getElem?_eq_getElem (by rw [Hl.out]; exact hlt)⟩
      rcases HR.out.below hbw with h0 | ⟨b, o, rfl, hbN, hc⟩
      · rw [h0] at hq; simp at hq
      obtain ⟨c0, c1⟩ := hc k q hq
      have hcall := HC.out (wr.alloc (.cells #[.int .i64 q.1, .int .u64 q.2] 38)) q.1 q.2 (hbw.alloc (by omega) _)
      have hL := leftOf_take (pd := pd) hq
      have hG := goneOf_take (pd := pd) hq
      have hLl := leftOf_le pd (l.take k)
      have hGl := goneOf_le pd (l.take k)
      have htk : (l.take k).length ≤ k := List.length_take_le _ _
      obtain ⟨q1, q2⟩ := q
      simp only at c0 c1 hcall hL hG
      have HB := Lib.hid hb; have HQ := Lib.hid hq; have HW := Lib.hid hbw
      have HL := Lib.hid hL; have HG := Lib.hid hG; have HV := Lib.hid hv; have HU := Lib.hid hu
      clear hc hb hq hbw hL hG hv hu
      cases hp : pd (q1, q2) with
      | true =>
        rw [hp] at hcall HL HG
        have HCall := Lib.hid hcall
        have HP := Lib.hid hp
        clear hcall hp
        go_wp2_with (first
          | (go_at_fn fg; refine HCall.out.mono ?_; rintro e w3 ⟨rfl, hb3⟩
             obtain ⟨hc3, hf3⟩ := bcell hb3
             have hu3 := (HU.out.alloc (.cells #[.int .i64 q1, .int .u64 q2] 38)).below hb3
             have hv3 := (HV.out.alloc (.cells #[.int .i64 q1, .int .u64 q2] 38)).below hb3
             have hb03 : Below (w.heap.size + 2) W2 w3 := (HB.out.alloc sz (.cells #[.int .i64 q1, .int .u64 q2] 38)).trans (hb3.mono (by simp; omega))
             have sz3 : wr.heap.size + 1 ≤ w3.heap.size := (by have := hb3.size; simp at this; exact this)
             have Hu3 := Lib.hid hu3; have Hv3 := Lib.hid hv3; have Hb03 := Lib.hid hb03; clear hb3 hu3 hv3 hb03)
          | (at_builtin; refine wpList_append_own _ rfl _ _ 31 rfl (w.heap.size + 2) 3 j0 _ 1 8 Try.underlying31 HJ.out.1 HJ.out.2.1 HJ.out.2.2.1 HJ.out.2.2.2 rfl (by omega) _ _ _ rfl (Hu3.out.alloc _) ⟨w3.heap.size, 0, none⟩ 1 1 [.int .i64 q1] rfl rfl (World.news_of_block (cs := #[.int .i64 q1]) (t := 3) (fr := (0, 0)) (heap_alloc_new w3 _)) (by simp [Value.oneCell']) (by unfold maxLen; omega) (by omega) (by simp; omega) ?_))
        intro u4 w4 hu4 hg4 _
        have hv4 : OwnR (w.heap.size + 2) w4 _ _ := (Hv3.out.alloc (.cells #[.int .i64 q1] 3)).grown (Hu3.out.alloc _) hg4
        have hb4 : Below (w.heap.size + 2) W2 w4 := below_grown (Hb03.out.alloc (by omega) _) (Hu3.out.alloc _) hg4 (by simp; omega)
        have hu4' : OwnI (w.heap.size + 2) w4 u4 (goneOf pd (l.take (k + 1))) := by
          rw [HG.out]; unfold OwnI intsV; simpa [intsV] using hu4
        have HV4 := Lib.hid hv4; have HB4 := Lib.hid hb4; have HU4 := Lib.hid hu4'
        clear hu4 hg4 hv4 hb4 hu4' hc3 hf3
        go_wp2
        go_roundg (len - (k + 1))
        case measure => omega
        case rel => exact ⟨k + 1, rfl, by omega, by go_num, by rw [HL.out]; simpa using HV4.out, HU4.out, HB4.out⟩
      | false =>
        rw [hp] at hcall HL HG
        have HCall := Lib.hid hcall
        have HP := Lib.hid hp
        clear hcall hp
        go_wp2_with (first
          | (go_at_fn fg; refine HCall.out.mono ?_; rintro e w3 ⟨rfl, hb3⟩
             obtain ⟨hc3, hf3⟩ := bcell hb3
             have hu3 := (HU.out.alloc (.cells #[.int .i64 q1, .int .u64 q2] 38)).below hb3
             have hv3 := (HV.out.alloc (.cells #[.int .i64 q1, .int .u64 q2] 38)).below hb3
             have hb03 : Below (w.heap.size + 2) W2 w3 := (HB.out.alloc sz (.cells #[.int .i64 q1, .int .u64 q2] 38)).trans (hb3.mono (by simp; omega))
             have sz3 : wr.heap.size + 1 ≤ w3.heap.size := (by have := hb3.size; simp at this; exact this)
             have Hu3 := Lib.hid hu3; have Hv3 := Lib.hid hv3; have Hb03 := Lib.hid hb03; clear hb3 hu3 hv3 hb03)
          | (at_builtin; refine wpList_append_own _ rfl _ _ 23 rfl (w.heap.size + 2) 38 i0 _ 2 16 Try.underlying23 HI.out.1 HI.out.2.1 HI.out.2.2.1 HI.out.2.2.2 rfl (by omega) _ _ _ rfl (Hv3.out.alloc _) ⟨w3.heap.size, 0, none⟩ 1 1 [.int .i64 q1, .int .u64 q2] rfl rfl (World.news_of_block (cs := #[.int .i64 q1, .int .u64 q2]) (t := 38) (fr := (0, 0)) (heap_alloc_new w3 _)) (by simp [Value.oneCell']) (by unfold maxLen; omega) (by omega) (by simp; omega) ?_))
        intro v4 w4 hv4 hg4 _
        have hu4 : OwnI (w.heap.size + 2) w4 _ _ := (Hu3.out.alloc (.cells #[.int .i64 q1, .int .u64 q2] 38)).grown (Hv3.out.alloc _) hg4
        have hb4 : Below (w.heap.size + 2) W2 w4 := below_grown (Hb03.out.alloc (by omega) _) (Hv3.out.alloc _) hg4 (by simp; omega)
        have hv4' : OwnR (w.heap.size + 2) w4 v4 (leftOf pd (l.take (k + 1))) := by
          rw [HL.out]; unfold OwnR; rw [if_neg (by simp), rowsR_snoc]; simpa using hv4
        have HV4 := Lib.hid hv4'; have HB4 := Lib.hid hb4; have HU4 := Lib.hid hu4
        clear hu4 hg4 hv4 hb4 hv4' hc3 hf3
        go_wp2
        go_roundg (len - (k + 1))
        case measure => omega
        case rel => exact ⟨k + 1, rfl, by omega, by go_num, HV4.out, by rw [HG.out]; simpa using HU4.out, HB4.out⟩
    · obtain rfl : k = len := by omega
      have hltz : ¬ ((k : Int) < (k : Int)) := by omega
      have htk : l.take k = l := List.take_of_length_le (by rw [Hl.out]; exact Nat.le_refl _)
      rw [htk] at hv hu
      have hLl := leftOf_le pd l
      have hlk : (leftOf pd l).length ≤ 6 := by rw [Hl.out] at hLl; omega
      obtain ⟨L, HLL⟩ : ∃ L, Hid (leftOf pd l = L) := ⟨_, Lib.hid rfl⟩
      rw [HLL.out] at hv hlk
      have hx : wr.heap[w.heap.size]? = some (.cells #[.int .u32 g, .slice A k cap, .int .i64 h, .int .i64 t, .bool p] 25 (0, 0)) :=
        (hb.block w.heap.size (by omega)).trans (by rw [HW2.out, Below.heap_alloc _ _ _ (by simp)]; exact heap_alloc_new w _)
      have hy : wr.heap[w.heap.size + 1]? = some (.cells #[.int .u32 0, .slice none 0 0, .int .i64 0, .int .i64 0, .bool false] 25 (0, 0)) :=
        (hb.block (w.heap.size + 1) (by omega)).trans (by rw [HW2.out]; simpa using heap_alloc_new (w.alloc _) (.cells #[.int .u32 0, .slice none 0 0, .int .i64 0, .int .i64 0, .bool false] 25))
      have fx : ∀ j, wr.frozen? ⟨w.heap.size, j, none⟩ = false := fun j => by simp [World.frozen?, hx]
      have fy : ∀ j, wr.frozen? ⟨w.heap.size + 1, j, none⟩ = false := fun j => by simp [World.frozen?, hy]
      have x0 := cell_of_row wr w.heap.size 0 _ _ _ hx
      have x1 := cell_of_row wr w.heap.size 1 _ _ _ hx
      have x2 := cell_of_row wr w.heap.size 2 _ _ _ hx
      have x3 := cell_of_row wr w.heap.size 3 _ _ _ hx
      have x4 := cell_of_row wr w.heap.size 4 _ _ _ hx
      have y0 := cell_of_row wr (w.heap.size + 1) 0 _ _ _ hy
      have y1 := cell_of_row wr (w.heap.size + 1) 1 _ _ _ hy
      have y2 := cell_of_row wr (w.heap.size + 1) 2 _ _ _ hy
      have y3 := cell_of_row wr (w.heap.size + 1) 3 _ _ _ hy
      have y4 := cell_of_row wr (w.heap.size + 1) 4 _ _ _ hy
      simp only [List.getElem?_toArray, List.getElem?_cons_succ, List.getElem?_cons_zero] at x0 x1 x2 x3 x4 y0 y1 y2 y3 y4
      obtain ⟨A2, cap2, rfl, hR2⟩ := hv.form
      have hvs := hv.set (p := ⟨w.heap.size, 1, none⟩) (by show w.heap.size < _; omega) (.slice A2 L.length cap2)
      have hus := hu.set (p := ⟨w.heap.size, 1, none⟩) (by show w.heap.size < _; omega) (.slice A2 L.length cap2)
      have hbs : Below w.heap.size w (wr.setCell ⟨w.heap.size, 1, none⟩ (.slice A2 L.length cap2)) := hbw.setCell (Nat.le_refl _) _
      have HVs := Lib.hid hvs; have HUs := Lib.hid hus; have HBs := Lib.hid hbs
      clear hvs hus hbs hR2 hb hbw hx hy hv hu htk hLl
      obtain ⟨rb, Hrb⟩ : ∃ rb, Hid (resB t = rb) := ⟨_, Lib.hid rfl⟩
      obtain ⟨gb, Hgb⟩ : ∃ gb, Hid (regB L h = gb) := ⟨_, Lib.hid rfl⟩
      obtain ⟨ab, Hab⟩ : ∃ ab, Hid (ofAllB t = ab) := ⟨_, Lib.hid rfl⟩
      have K1 : Hid (∀ S W, Calls Try.prog 36 #[.agg #[.int .u32 g, S, .int .i64 h, .int .i64 t, .bool p]] W (Ret (.bool rb) W)) := Lib.hid fun S W => by rw [← Hrb.out]; exact reserved_any g h t p W S
      have K2 : Hid (∀ W, OwnR (w.heap.size + 2) W (.slice A2 L.length cap2) L → Calls Try.prog 26 #[.agg #[.int .u32 g, .slice A2 L.length cap2, .int .i64 h, .int .i64 t, .bool p], .int .i64 h] W (Ret (.bool gb) W)) :=
        Lib.hid fun W hW => by
          rw [← Hgb.out]
          obtain ⟨A3, cap3, he, hR3⟩ := hW.form
          cases he
          exact registered_any g h t p A2 L.length cap2 L W h rfl (by omega) hR3
      have K3 : Hid (∀ W, Calls Try.prog 37 #[.int .i64 t] W (fun e w' => e = .returned (.bool ab) ∧ W = w')) := Lib.hid fun W => by rw [← Hab.out]; exact ofAll_any t W
      have sz1 : w.heap.size < wr.heap.size := by omega
      have sz2 : w.heap.size + 1 < wr.heap.size := by omega
      cases rb with
      | false =>
        have eH : remH L h t = h := by unfold remH; rw [Hrb.out]; rfl
        have eT : remT L h t = t := by unfold remT; rw [Hrb.out]; rfl
        have HeH := Lib.hid eH; have HeT := Lib.hid eT
        clear eH eT
        go_wp2_with (first
          | (go_at_call 36; refine (K1.out _ _).mono ?_; rintro e w5 ⟨rfl, hb5⟩; obtain ⟨hc5, hf5⟩ := bcell hb5; have z5 : w.heap.size < w5.heap.size := (by have := hb5.size; simp at this; omega); have z5' : w.heap.size + 1 < w5.heap.size := (by have := hb5.size; simp at this; omega); have Hv5 := Lib.hid (HVs.out.below hb5); have Hu5 := Lib.hid (HUs.out.below hb5); have Hb5 := Lib.hid (stepB HBs.out hb5); clear hb5)
          | (go_at_call 26; refine (K2.out _ Hv5.out).mono ?_; rintro e w6 ⟨rfl, hb6⟩; obtain ⟨hc6, hf6⟩ := bcell hb6; have z6 : w.heap.size < w6.heap.size := (by have := hb6.size; omega); have z6' : w.heap.size + 1 < w6.heap.size := (by have := hb6.size; omega); have Hv6 := Lib.hid (Hv5.out.below hb6); have Hu6 := Lib.hid (Hu5.out.below hb6); have Hb6 := Lib.hid (stepB Hb5.out hb6); clear hb6)
          | (go_at_call 37; refine (K3.out _).mono ?_; rintro e w' ⟨rfl, rfl⟩)
          | (go_at_call 55; refine (dropped_any g h t p A2 L.length cap2 _).mono ?_; rintro e w7 ⟨rfl, hb7⟩; obtain ⟨hc7, hf7⟩ := bcell hb7; have Hv7 := Lib.hid (Hv6.out.below hb7); have Hu7 := Lib.hid (Hu6.out.below hb7); have Hb7 := Lib.hid (stepB Hb6.out hb7); have z7 : w.heap.size + 1 < w7.heap.size := (by have := hb7.size; omega); clear hb7))
        have eH := HeH.out; have eT := HeT.out
        exact bodyPost_ret (v := .tuple #[.agg #[.int .u32 g, .slice A2 L.length cap2, .int .i64 (h), .int .i64 (t), .bool p], u7]) (by simp [results, Try.results51, go_sem, hc5, z5, z5', y0, y1, y2, y3, y4, sz2]) rfl ⟨_, _, by rw [HLL.out, eH, eT], by rw [HLL.out]; exact (Hv5.out.set5 (b := w.heap.size + 1) (by omega) _ _ _ _ _).lower (by omega), (Hu5.out.set5 (b := w.heap.size + 1) (by omega) _ _ _ _ _).lower (by omega), set5B Hb5.out (by omega) _ _ _ _ _⟩
      | true =>
        cases gb with
        | true =>
          have eH : remH L h t = h := by unfold remH; rw [Hrb.out, Hgb.out]; rfl
          have eT : remT L h t = t := by unfold remT; rw [Hrb.out, Hgb.out]; rfl
          have HeH := Lib.hid eH; have HeT := Lib.hid eT
          clear eH eT
          go_wp2_with (first
          | (go_at_call 36; refine (K1.out _ _).mono ?_; rintro e w5 ⟨rfl, hb5⟩; obtain ⟨hc5, hf5⟩ := bcell hb5; have z5 : w.heap.size < w5.heap.size := (by have := hb5.size; simp at this; omega); have z5' : w.heap.size + 1 < w5.heap.size := (by have := hb5.size; simp at this; omega); have Hv5 := Lib.hid (HVs.out.below hb5); have Hu5 := Lib.hid (HUs.out.below hb5); have Hb5 := Lib.hid (stepB HBs.out hb5); clear hb5)
          | (go_at_call 26; refine (K2.out _ Hv5.out).mono ?_; rintro e w6 ⟨rfl, hb6⟩; obtain ⟨hc6, hf6⟩ := bcell hb6; have z6 : w.heap.size < w6.heap.size := (by have := hb6.size; omega); have z6' : w.heap.size + 1 < w6.heap.size := (by have := hb6.size; omega); have Hv6 := Lib.hid (Hv5.out.below hb6); have Hu6 := Lib.hid (Hu5.out.below hb6); have Hb6 := Lib.hid (stepB Hb5.out hb6); clear hb6)
          | (go_at_call 37; refine (K3.out _).mono ?_; rintro e w' ⟨rfl, rfl⟩)
          | (go_at_call 55; refine (dropped_any g h t p A2 L.length cap2 _).mono ?_; rintro e w7 ⟨rfl, hb7⟩; obtain ⟨hc7, hf7⟩ := bcell hb7; have Hv7 := Lib.hid (Hv6.out.below hb7); have Hu7 := Lib.hid (Hu6.out.below hb7); have Hb7 := Lib.hid (stepB Hb6.out hb7); have z7 : w.heap.size + 1 < w7.heap.size := (by have := hb7.size; omega); clear hb7))
          have eH := HeH.out; have eT := HeT.out
          exact bodyPost_ret (v := .tuple #[.agg #[.int .u32 g, .slice A2 L.length cap2, .int .i64 (h), .int .i64 (t), .bool p], u7]) (by simp [results, Try.results51, go_sem, hc6, hc5, z5, z5', z6, z6', y0, y1, y2, y3, y4, sz2]) rfl ⟨_, _, by rw [HLL.out, eH, eT], by rw [HLL.out]; exact (Hv6.out.set5 (b := w.heap.size + 1) (by omega) _ _ _ _ _).lower (by omega), (Hu6.out.set5 (b := w.heap.size + 1) (by omega) _ _ _ _ _).lower (by omega), set5B Hb6.out (by omega) _ _ _ _ _⟩
        | false =>
          cases ab with
          | false =>
            have eH : remH L h t = -1 := by unfold remH; rw [Hrb.out, Hgb.out]; cases L <;> simp [Hab.out]
            have eT : remT L h t = 0 := by unfold remT; rw [Hrb.out, Hgb.out]; cases L <;> simp [Hab.out]
            have HeH := Lib.hid eH; have HeT := Lib.hid eT
            clear eH eT
            go_wp2_with (first
          | (go_at_call 36; refine (K1.out _ _).mono ?_; rintro e w5 ⟨rfl, hb5⟩; obtain ⟨hc5, hf5⟩ := bcell hb5; have z5 : w.heap.size < w5.heap.size := (by have := hb5.size; simp at this; omega); have z5' : w.heap.size + 1 < w5.heap.size := (by have := hb5.size; simp at this; omega); have Hv5 := Lib.hid (HVs.out.below hb5); have Hu5 := Lib.hid (HUs.out.below hb5); have Hb5 := Lib.hid (stepB HBs.out hb5); clear hb5)
          | (go_at_call 26; refine (K2.out _ Hv5.out).mono ?_; rintro e w6 ⟨rfl, hb6⟩; obtain ⟨hc6, hf6⟩ := bcell hb6; have z6 : w.heap.size < w6.heap.size := (by have := hb6.size; omega); have z6' : w.heap.size + 1 < w6.heap.size := (by have := hb6.size; omega); have Hv6 := Lib.hid (Hv5.out.below hb6); have Hu6 := Lib.hid (Hu5.out.below hb6); have Hb6 := Lib.hid (stepB Hb5.out hb6); clear hb6)
          | (go_at_call 37; refine (K3.out _).mono ?_; rintro e w' ⟨rfl, rfl⟩)
          | (go_at_call 55; refine (dropped_any g h t p A2 L.length cap2 _).mono ?_; rintro e w7 ⟨rfl, hb7⟩; obtain ⟨hc7, hf7⟩ := bcell hb7; have Hv7 := Lib.hid (Hv6.out.below hb7); have Hu7 := Lib.hid (Hu6.out.below hb7); have Hb7 := Lib.hid (stepB Hb6.out hb7); have z7 : w.heap.size + 1 < w7.heap.size := (by have := hb7.size; omega); clear hb7))
            have eH := HeH.out; have eT := HeT.out
            exact bodyPost_ret (v := .tuple #[.agg #[.int .u32 g, .slice A2 L.length cap2, .int .i64 (-1), .int .i64 (0), .bool p], u7]) (by simp [results, Try.results51, go_sem, hc7, hc6, hc5, z5, z5', z6, z6', z7, y0, y1, y2, y3, y4, sz2]) rfl ⟨_, _, by rw [HLL.out, eH, eT], by rw [HLL.out]; exact (Hv7.out.set5 (b := w.heap.size + 1) (by omega) _ _ _ _ _).lower (by omega), (Hu7.out.set5 (b := w.heap.size + 1) (by omega) _ _ _ _ _).lower (by omega), set5B Hb7.out (by omega) _ _ _ _ _⟩
          | true =>
            by_cases hLc : L = []
            · have HLc := Lib.hid hLc
              have hl0 : ¬ (0 : Int) < (L.length : Int) := by rw [hLc]; simp
              clear hLc
              have eH : remH L h t = -1 := by unfold remH; rw [Hrb.out, Hgb.out, HLc.out]; rfl
              have eT : remT L h t = 0 := by unfold remT; rw [Hrb.out, Hgb.out, HLc.out]; rfl
              have HeH := Lib.hid eH; have HeT := Lib.hid eT
              clear eH eT
              go_wp2_with (first
          | (go_at_call 36; refine (K1.out _ _).mono ?_; rintro e w5 ⟨rfl, hb5⟩; obtain ⟨hc5, hf5⟩ := bcell hb5; have z5 : w.heap.size < w5.heap.size := (by have := hb5.size; simp at this; omega); have z5' : w.heap.size + 1 < w5.heap.size := (by have := hb5.size; simp at this; omega); have Hv5 := Lib.hid (HVs.out.below hb5); have Hu5 := Lib.hid (HUs.out.below hb5); have Hb5 := Lib.hid (stepB HBs.out hb5); clear hb5)
          | (go_at_call 26; refine (K2.out _ Hv5.out).mono ?_; rintro e w6 ⟨rfl, hb6⟩; obtain ⟨hc6, hf6⟩ := bcell hb6; have z6 : w.heap.size < w6.heap.size := (by have := hb6.size; omega); have z6' : w.heap.size + 1 < w6.heap.size := (by have := hb6.size; omega); have Hv6 := Lib.hid (Hv5.out.below hb6); have Hu6 := Lib.hid (Hu5.out.below hb6); have Hb6 := Lib.hid (stepB Hb5.out hb6); clear hb6)
          | (go_at_call 37; refine (K3.out _).mono ?_; rintro e w' ⟨rfl, rfl⟩)
          | (go_at_call 55; refine (dropped_any g h t p A2 L.length cap2 _).mono ?_; rintro e w7 ⟨rfl, hb7⟩; obtain ⟨hc7, hf7⟩ := bcell hb7; have Hv7 := Lib.hid (Hv6.out.below hb7); have Hu7 := Lib.hid (Hu6.out.below hb7); have Hb7 := Lib.hid (stepB Hb6.out hb7); have z7 : w.heap.size + 1 < w7.heap.size := (by have := hb7.size; omega); clear hb7))
              have eH := HeH.out; have eT := HeT.out
              exact bodyPost_ret (v := .tuple #[.agg #[.int .u32 g, .slice A2 L.length cap2, .int .i64 (-1), .int .i64 (0), .bool p], u7]) (by simp [results, Try.results51, go_sem, hc7, hc6, hc5, z5, z5', z6, z6', z7, y0, y1, y2, y3, y4, sz2]) rfl ⟨_, _, by rw [HLL.out, eH, eT], by rw [HLL.out]; exact (Hv7.out.set5 (b := w.heap.size + 1) (by omega) _ _ _ _ _).lower (by omega), (Hu7.out.set5 (b := w.heap.size + 1) (by omega) _ _ _ _ _).lower (by omega), set5B Hb7.out (by omega) _ _ _ _ _⟩
            · obtain ⟨r, L', hLc⟩ := List.exists_cons_of_ne_nil hLc
              have HLc := Lib.hid hLc
              have hl0 : (0 : Int) < (L.length : Int) := by rw [hLc]; simp
              clear hLc
              have eH : remH L h t = r.1 := by unfold remH; rw [Hrb.out, Hgb.out, HLc.out]; simp [Hab.out]
              have eT : remT L h t = t := by unfold remT; rw [Hrb.out, Hgb.out, HLc.out]; simp [Hab.out]
              have HeH := Lib.hid eH; have HeT := Lib.hid eT
              clear eH eT
              go_wp2_with (first
          | (go_at_call 36; refine (K1.out _ _).mono ?_; rintro e w5 ⟨rfl, hb5⟩; obtain ⟨hc5, hf5⟩ := bcell hb5; have z5 : w.heap.size < w5.heap.size := (by have := hb5.size; simp at this; omega); have z5' : w.heap.size + 1 < w5.heap.size := (by have := hb5.size; simp at this; omega); have Hv5 := Lib.hid (HVs.out.below hb5); have Hu5 := Lib.hid (HUs.out.below hb5); have Hb5 := Lib.hid (stepB HBs.out hb5); clear hb5)
          | (go_at_call 26; refine (K2.out _ Hv5.out).mono ?_; rintro e w6 ⟨rfl, hb6⟩; obtain ⟨hc6, hf6⟩ := bcell hb6; have z6 : w.heap.size < w6.heap.size := (by have := hb6.size; omega); have z6' : w.heap.size + 1 < w6.heap.size := (by have := hb6.size; omega); have Hv6 := Lib.hid (Hv5.out.below hb6); have Hu6 := Lib.hid (Hu5.out.below hb6); have Hb6 := Lib.hid (stepB Hb5.out hb6); clear hb6)
          | (go_at_call 37; refine (K3.out _).mono ?_; rintro e w' ⟨rfl, rfl⟩)
          | (go_at_call 55; refine (dropped_any g h t p A2 L.length cap2 _).mono ?_; rintro e w7 ⟨rfl, hb7⟩; obtain ⟨hc7, hf7⟩ := bcell hb7; have Hv7 := Lib.hid (Hv6.out.below hb7); have Hu7 := Lib.hid (Hu6.out.below hb7); have Hb7 := Lib.hid (stepB Hb6.out hb7); have z7 : w.heap.size + 1 < w7.heap.size := (by have := hb7.size; omega); clear hb7))
              obtain ⟨g2, cap', he, hlt6, hc0⟩ := OwnR.head (by rw [← HLc.out]; exact Hv6.out)
              injection he with he1 he2 he3
              subst he1
              clear he2 he3
              go_region_with ((go_at_call 54; refine (held_any g h t p (some ⟨g2, 0, none⟩) L.length cap2 _ r.1 t).mono ?_; rintro e w8 ⟨rfl, hb8⟩; replace hb8 := undrew hb8; obtain ⟨hc8, hf8⟩ := bcell hb8; have Hv8 := Lib.hid (Hv6.out.below hb8); have Hu8 := Lib.hid (Hu6.out.below hb8); have Hb8 := Lib.hid (stepB Hb6.out hb8); have z8 : w.heap.size + 1 < w8.heap.size := (by have := hb8.size; omega); clear hb8))
              all_goals
                go_wp2
                have eH := HeH.out; have eT := HeT.out
                exact bodyPost_ret (v := .tuple #[.agg #[.int .u32 g, (.slice (some ⟨g2, 0, none⟩) L.length cap2), .int .i64 r.1, .int .i64 t, .bool p], u7]) (by simp [results, Try.results51, go_sem, hc8, hc6, hc5, z5, z5', z6, z6', z8, y0, y1, y2, y3, y4, sz2]) rfl ⟨_, _, by rw [HLL.out, eH, eT], by rw [HLL.out]; exact (Hv8.out.set5 (b := w.heap.size + 1) (by omega) _ _ _ _ _).lower (by omega), (Hu8.out.set5 (b := w.heap.size + 1) (by omega) _ _ _ _ _).lower (by omega), set5B Hb8.out (by omega) _ _ _ _ _⟩
end Go.Proofs.Ytkpogmigfjmacaa
