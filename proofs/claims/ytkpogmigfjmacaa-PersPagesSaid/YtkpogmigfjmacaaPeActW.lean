/-
  pers.Act, of a table that can be and a nexus.
-/
import Derived.Test.YtkpogmigfjmacaaPeAct
set_option linter.unusedSimpArgs false
set_option linter.unusedVariables false
namespace Go.Proofs.Ytkpogmigfjmacaa
open Go.RowKit

def AcP (w : World) (n : Int) (R : Res) (e : Ending) (w' : World) : Prop :=
  ∃ A len cap u, e = .returned (.tuple #[.agg #[.int .u32 R.1.g, .slice A len cap, .int .i64 R.1.h, .int .i64 R.1.t, .bool R.1.p], .int .i64 R.2.1, u]) ∧ OwnR w.heap.size w' (.slice A len cap) R.1.l ∧ OwnI w.heap.size w' u (keepN n R.2.2) ∧ Below w.heap.size w w'
theorem own_other {B size n g : Nat} {e T : TypeId} {w : World} {v : Value} {xs : List Value} {cs : Array Value} (h : w.ownsRow B e size v n xs) (hg : w.heap[g]? = some (.cells cs T (0, 0))) (hne : e ≠ T) : some g ≠ v.ownBlock := by
  rcases h.2 with ⟨rfl, _⟩ | ⟨g', cap, cur, rfl, _, hh, _⟩
  · simp [Value.ownBlock]
  · intro he
    have : g = g' := by simpa [Value.ownBlock] using he
    subst this
    rw [hg] at hh
    injection hh with hh
    injection hh with _ ht
    exact hne ht.symm
section
variable (T : Tb) (A : Option Addr) (len cap : Nat) (w : World)
set_option maxRecDepth 100000 in
set_option maxHeartbeats 8000000 in
theorem actw_any (hS : SlR w A len cap T.l) (hm : len ≤ 6) (hso : soundB T.l T.h T.t = true) (n a ty key other : Int) (hn0 : 0 ≤ n) (hn8 : n < 8) (ap : Bool) (hR6 : (actL T n a ty key other ap).1.l.length ≤ 6) (hG6 : (actL T n a ty key other ap).2.2.length ≤ 6) :
    Calls Try.prog 13 #[.agg #[.int .u32 T.g, .slice A len cap, .int .i64 T.h, .int .i64 T.t, .bool T.p], .int .i64 n, .agg #[.int .i64 a, .int .i64 ty, .int .u64 key, .int .u64 other, .bool ap]] w (AcP w n (actL T n a ty key other ap)) := by
  have Ka : Hid (∀ W, Below w.heap.size w W → Calls Try.prog 29 #[.agg #[.int .u32 T.g, .slice A len cap, .int .i64 T.h, .int .i64 T.t, .bool T.p], .int .i64 n, .agg #[.int .i64 a, .int .i64 ty, .int .u64 key, .int .u64 other, .bool ap]] W (ActP W A len cap T.l (actL T n a ty key other ap))) :=
    Lib.hid fun W hb => act_any T A len cap W (hS.below hb) hm hso n a ty key other hn0 hn8 ap
  generalize actL T n a ty key other ap = R at Ka hR6 hG6 ⊢
  obtain ⟨g, l, h, t, p⟩ := T
  obtain ⟨⟨g8, l8, h8, t8, p8⟩, st8, gn8⟩ := R
  simp only at hS hR6 hG6 Ka ⊢
  have HS := Lib.hid hS
  clear hS hso
  go_enter Try.func13, Try.ntmps13
  go_upto_region 1 with (fail)
  have hX := Bx.start w #[.int .u32 g, .slice A len cap, .int .i64 h, .int .i64 t, .bool p] #[.int .i64 n] #[.int .i64 a, .int .i64 ty, .int .u64 key, .int .u64 other, .bool ap] #[.int .u32 0, .slice none 0 0, .int .i64 0, .int .i64 0, .bool false]
  have hb0 := bel4 w (.cells #[.int .u32 g, .slice A len cap, .int .i64 h, .int .i64 t, .bool p] 25) (.cells #[.int .i64 n] 3) (.cells #[.int .i64 a, .int .i64 ty, .int .u64 key, .int .u64 other, .bool ap] 28) (.cells #[.int .u32 0, .slice none 0 0, .int .i64 0, .int .i64 0, .bool false] 25)
  try simp only [World.size_alloc]
  generalize (((w.alloc (.cells #[.int .u32 g, .slice A len cap, .int .i64 h, .int .i64 t, .bool p] 25)).alloc (.cells #[.int .i64 n] 3)).alloc (.cells #[.int .i64 a, .int .i64 ty, .int .u64 key, .int .u64 other, .bool ap] 28)).alloc (.cells #[.int .u32 0, .slice none 0 0, .int .i64 0, .int .i64 0, .bool false] 25) = w0 at hX hb0 ⊢
  obtain ⟨xl0, x0_0, x1_0, x2_0, x3_0, x4_0, xf0⟩ := box5 hX.1
  obtain ⟨nl0, n0_0, nf0⟩ := box1 hX.2.1
  obtain ⟨ol0, o0_0, o1_0, o2_0, o3_0, o4_0, of0⟩ := box5 hX.2.2.1
  obtain ⟨rl0, r0_0, r1_0, r2_0, r3_0, r4_0, rf0⟩ := box5 hX.2.2.2
  have HX := Lib.hid hX; have HB0 := Lib.hid hb0
  clear hX hb0
  go_upto_region 2 with (go_at_call 29; refine (Ka.out _ HB0.out).mono ?_; rintro e w8 ⟨A2, n2, c2, u, rfl, hk8, hi8, hb8⟩; have HK8 := Lib.hid hk8; have HI8 := Lib.hid hi8; have HB8 := Lib.hid hb8; clear hk8 hi8 hb8)
  clear x0_0 x1_0 x2_0 x3_0 x4_0 xl0 xf0 nl0 n0_0 nf0 ol0 of0 o0_0 o1_0 o2_0 o3_0 o4_0 rl0 rf0 r0_0 r1_0 r2_0 r3_0 r4_0
  have hs8 := HK8.out.sl (HS.out.below HB0.out) HB8.out
  have hq9 := heap_alloc_new w8 (.cells #[.int .u32 g8, .slice A2 n2 c2, .int .i64 h8, .int .i64 t8, .bool p8] 25)
  have hb9 := bel1 w8 (.cells #[.int .u32 g8, .slice A2 n2 c2, .int .i64 h8, .int .i64 t8, .bool p8] 25)
  have hs9 := hs8.below hb9
  have hi9 := HI8.out.below hb9
  have hX9 := HX.out.below (stepB HB8.out hb9)
  have hB9 := stepB HB8.out hb9
  have hz9 : w0.heap.size ≤ w8.heap.size := HB8.out.size
  obtain ⟨q, Hq⟩ : ∃ q, Hid (w8.heap.size = q) := ⟨_, Lib.hid rfl⟩
  rw [Hq.out] at hq9 hz9
  generalize w8.alloc (.cells #[.int .u32 g8, .slice A2 n2 c2, .int .i64 h8, .int .i64 t8, .bool p8] 25) = w9 at hq9 hb9 hs9 hi9 hX9 hB9 ⊢
  rw [Hq.out]
  obtain ⟨ql9, q0_9, q1_9, q2_9, q3_9, q4_9, qf9⟩ := box5 hq9
  have hl8 : l8.length = n2 := hs9.1
  have hcl := clone_any A2 n2 c2 l8 w9 hl8 (by omega) hs9.2.2.2
  have Hcl := Lib.hid hcl; have HX9 := Lib.hid hX9; have HI9 := Lib.hid hi9; have HB9 := Lib.hid hB9; have HQ9 := Lib.hid hq9
  clear hcl hX9 hi9 hB9 hq9 hs8 hs9 hb9 Hq HI8 HK8 HB8 hl8
  go_upto_region 3 with (go_at_call 30; refine Hcl.out.mono ?_; rintro e w10 ⟨v, rfl, ho10, hb10⟩; have hq10 := (hb10.block q ql9).trans HQ9.out; obtain ⟨ql10, q0_10, q1_10, q2_10, q3_10, q4_10, qf10⟩ := box5 hq10; obtain ⟨A3, c3, rfl, hs10⟩ := ho10.sl)
  have hX11 := (HX9.out.below hb10)
  have hB11 := stepB HB9.out hb10
  have hi11 := HI9.out.below hb10
  have ho11 := ho10
  have hq11 : (w10.setCell ⟨q, 1, none⟩ (.slice A3 l8.length c3)).heap[q]? = some (.cells #[.int .u32 g8, .slice A3 l8.length c3, .int .i64 h8, .int .i64 t8, .bool p8] 25 (0, 0)) := (heap_setCell_same w10 q 1 _ 25 (.slice A3 l8.length c3) hq10).trans rfl
  have hset : ∀ j, j ≠ q → (w10.setCell ⟨q, 1, none⟩ (.slice A3 l8.length c3)).heap[j]? = w10.heap[j]? := fun j hj => Below.heap_setCell w10 ⟨q, 1, none⟩ _ j hj
  have hq0 : w0.heap.size ≤ q := hz9
  have hX12 : Bx (w10.setCell ⟨q, 1, none⟩ (.slice A3 l8.length c3)) w.heap.size #[.int .u32 g, .slice A len cap, .int .i64 h, .int .i64 t, .bool p] #[.int .i64 n] #[.int .i64 a, .int .i64 ty, .int .u64 key, .int .u64 other, .bool ap] #[.int .u32 0, .slice none 0 0, .int .i64 0, .int .i64 0, .bool false] := by
    have := HX.out.lt
    exact ⟨(hset _ (by omega)).trans hX11.1, (hset _ (by omega)).trans hX11.2.1, (hset _ (by omega)).trans hX11.2.2.1, (hset _ (by omega)).trans hX11.2.2.2⟩
  have hB12 : Below w0.heap.size w0 (w10.setCell ⟨q, 1, none⟩ (.slice A3 l8.length c3)) := hB11.setCell (p := ⟨q, 1, none⟩) hz9 _
  have ho12 : OwnR w0.heap.size (w10.setCell ⟨q, 1, none⟩ (.slice A3 l8.length c3)) (.slice A3 l8.length c3) l8 := (ho10.set (p := ⟨q, 1, none⟩) (by show q < w9.heap.size; omega) _).lower (by omega)
  have hi12 : OwnI w0.heap.size (w10.setCell ⟨q, 1, none⟩ (.slice A3 l8.length c3)) u gn8 := by
    have hne := own_other hi11 hq10 (by decide)
    refine ⟨hi11.1, hi11.2.imp id fun ⟨g, cap, cur, h1, h2, h3, h4⟩ => ⟨g, cap, cur, h1, h2, ?_, h4⟩⟩
    subst h1
    exact (hset g (fun e => hne (by rw [e]; rfl))).trans h3
  generalize w10.setCell ⟨q, 1, none⟩ (.slice A3 l8.length c3) = w12 at hq11 hset hX12 hB12 ho12 hi12 ⊢
  clear hset hX11 hB11 hi11 ho11 hq10 ql10 q0_10 q1_10 q2_10 q3_10 q4_10 qf10 ql9 q0_9 q1_9 q2_9 q3_9 q4_9 qf9 ho10 hb10 hs10 HX9 HI9 HB9 HQ9 Hcl
  obtain ⟨xl12, x0_12, x1_12, x2_12, x3_12, x4_12, xf12⟩ := box5 hX12.1
  obtain ⟨nl12, n0_12, nf12⟩ := box1 hX12.2.1
  obtain ⟨ol12, o0_12, o1_12, o2_12, o3_12, o4_12, of12⟩ := box5 hX12.2.2.1
  obtain ⟨rl12, r0_12, r1_12, r2_12, r3_12, r4_12, rf12⟩ := box5 hX12.2.2.2
  have hl0 := HX.out.lt
  have hdl := del_any u gn8 w12 w0.heap.size hi12 hG6 n (w.heap.size + 1) n0_12 (by omega)
  have Hdl := Lib.hid hdl; have HX12 := Lib.hid hX12; have HB12 := Lib.hid hB12; have HO12 := Lib.hid ho12; have HI12 := Lib.hid hi12; have HQ12 := Lib.hid hq11
  clear hdl hX12 hB12 ho12 hi12 hq11
  go_upto_region 4 with (go_at_call 31; refine Hdl.out.mono ?_; rintro e w13 ⟨v13, rfl, hi13, hg13⟩)
  have hq13 := (hg13.block q (Array.getElem?_eq_some_iff.1 HQ12.out).1 (own_other HI12.out HQ12.out (by decide))).trans HQ12.out
  have ho13 := HO12.out.grown HI12.out hg13
  have hB13 := below_grown HB12.out HI12.out hg13 HB12.out.size
  have hX13 : Bx w13 w.heap.size #[.int .u32 g, .slice A len cap, .int .i64 h, .int .i64 t, .bool p] #[.int .i64 n] #[.int .i64 a, .int .i64 ty, .int .u64 key, .int .u64 other, .bool ap] #[.int .u32 0, .slice none 0 0, .int .i64 0, .int .i64 0, .bool false] := by
    have hb := below_grown (Below.refl w0.heap.size w12) HI12.out hg13 HB12.out.size
    have h := HX12.out
    exact ⟨(hb.block _ (by omega)).trans h.1, (hb.block _ (by omega)).trans h.2.1, (hb.block _ (by omega)).trans h.2.2.1, (hb.block _ (by omega)).trans h.2.2.2⟩
  clear x0_12 x1_12 x2_12 x3_12 x4_12 xl12 xf12 nl12 n0_12 nf12 ol12 of12 o0_12 o1_12 o2_12 o3_12 o4_12 rl12 rf12 r0_12 r1_12 r2_12 r3_12 r4_12 hg13
  obtain ⟨xl13, x0_13, x1_13, x2_13, x3_13, x4_13, xf13⟩ := box5 hX13.1
  obtain ⟨nl13, n0_13, nf13⟩ := box1 hX13.2.1
  obtain ⟨ol13, o0_13, o1_13, o2_13, o3_13, o4_13, of13⟩ := box5 hX13.2.2.1
  obtain ⟨rl13, r0_13, r1_13, r2_13, r3_13, r4_13, rf13⟩ := box5 hX13.2.2.2
  obtain ⟨ql13, q0_13, q1_13, q2_13, q3_13, q4_13, qf13⟩ := box5 hq13
  have HO13 := Lib.hid ho13; have HB13 := Lib.hid (stepB HB0.out hB13); have HI13 := Lib.hid hi13
  clear ho13 hB13 hi13 hX13 hq13 HX12 HB12 HO12 HI12 HQ12 Hdl
  have hws : w.heap.size ≤ w0.heap.size := by omega
  have hqr : w.heap.size + 3 < q := by omega
  go_wp2
  exact bodyPost_ret (v := .tuple #[.agg #[.int .u32 g8, .slice A3 l8.length c3, .int .i64 h8, .int .i64 t8, .bool p8], .int .i64 st8, v13]) (by simp [results, Try.results13, go_sem, r0_13, r1_13, r2_13, r3_13, r4_13, rl13]) rfl
    ⟨A3, _, c3, v13, rfl, (HO13.out.set5 (b := w.heap.size + 3) (by omega) _ _ _ _ _).lower (by omega), (HI13.out.set5 (b := w.heap.size + 3) (by omega) _ _ _ _ _).lower hws, set5B HB13.out (by omega) _ _ _ _ _⟩
end
end Go.Proofs.Ytkpogmigfjmacaa
