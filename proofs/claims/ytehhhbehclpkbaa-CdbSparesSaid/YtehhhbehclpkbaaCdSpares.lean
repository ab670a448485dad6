/-
  the law CdbSpares.
-/
import Derived.Test.YtehhhbehclpkbaaCdSparesW
set_option linter.unusedSimpArgs false
set_option linter.unusedVariables false
namespace Go.Proofs.Ytehhhbehclpkbaa
open Go.RowKit Sh Cd

open Go.Maps
theorem MapOk.lt {w : World} {mb : Nat} {L : List (Nat × Nat × List Nat)} (h : MapOk w mb L) : mb < w.heap.size := by
  obtain ⟨es, clock, h1, _⟩ := h
  exact (Array.getElem?_eq_some_iff.1 h1).1
theorem wpList_ins {ops : Array Oper} {rest : List Oper} {o : Oper} {a : Act} {Q : Exit → Act → World → Prop} (hg : o.guard = none) (m key v : Operand) (ho : o.op = .insert 39 m key v) (mb k q : Nat) (ns : List Nat) (L : List (Nat × Nat × List Nat)) (w : World)
    (hm : a.eval m = .map (some mb)) (hk : a.eval key = .int .u8 (k : Nat)) (hv : a.eval v = .slice (some ⟨q, 0, none⟩) ns.length ns.length) (H : MapOk w mb L) (hlt : k < 256) (hf : ∀ p ∈ L, p.1 ≠ k) (hq : q ≠ mb) (hc : w.heap[q]? = some (.cells (ns.map fun n => Value.int .i64 (n : Nat)).toArray 3 (0, 0)))
    (h : ∀ w', Hid (MapOk w' mb (L ++ [(k, q, ns)])) → Hid (w.grownBy w' (some mb)) → wpList Try.prog ops Q rest (a.put o.dst undef) w') : wpList Try.prog ops Q (o :: rest) a w := by
  refine wpList_plain hg fun K' hK' => ?_
  obtain ⟨w', hrun, r1, r2⟩ := H.ins hlt hf hq hc
  unfold Oper.wp
  simp [execOp, ho, hm, hk, hv, hrun, Result.andThen]
  exact hK' _ _ (h w' (Lib.hid r1) (Lib.hid r2))
theorem below_ins {B mb : Nat} {w w1 w2 : World} {o : Obj} (h : Below B w w1) (hB : B ≤ w1.heap.size) (hg : (w1.alloc o).grownBy w2 (some mb)) (hm : B ≤ mb) : Below B w w2 :=
  (h.alloc hB o).grown hg (by simp; omega) (fun k e => by simp at e; omega)
set_option maxRecDepth 100000 in
set_option maxHeartbeats 4000000 in
theorem cdbSpares_any (B : List UInt8) (hB : B.length = 16) (S : List UInt8) (hS : S.length = 16) (w : World) :
    Calls Try.prog 5 #[.agg (B.map cu8).toArray, .agg (S.map cu8).toArray] w (TrueP w) := by
  have HKS := Lib.hid stands_any
  have HB := Lib.hid hB; have HS := Lib.hid hS
  obtain ⟨av, Hav⟩ : ∃ av : Array Value, Hid (av = (B.map cu8).toArray) := ⟨_, Lib.hid rfl⟩
  obtain ⟨sv, Hsv⟩ : ∃ av : Array Value, Hid (av = (S.map cu8).toArray) := ⟨_, Lib.hid rfl⟩
  have hai : Hid ((Try.prog.info? 34).map (·.size) = some av.size) := Lib.hid (by rw [Hav.out, List.size_toArray, List.length_map, hB]; exact infoB16)
  have hsi : Hid ((Try.prog.info? 34).map (·.size) = some sv.size) := Lib.hid (by rw [Hsv.out, List.size_toArray, List.length_map, hS]; exact infoB16)
  have hs1 : Hid (sv.all (·.oneCell') = true) := Lib.hid (by
    rw [Hsv.out, Array.all_eq_true']
    intro v hv
    obtain ⟨c, _, rfl⟩ := List.mem_map.1 (by simpa using hv : v ∈ S.map cu8)
    rfl)
  rw [← Hav.out, ← Hsv.out]
  have hmm := @run_makeMap Try.prog
  have x0 : ((w.alloc (.cells av 34)).alloc (.cells sv 34)).heap[w.heap.size]? = some (.cells av 34 (0, 0)) := by
    rw [Below.heap_alloc _ _ _ (by simp)]; exact heap_alloc_new w _
  have y0 : ((w.alloc (.cells av 34)).alloc (.cells sv 34)).heap[w.heap.size + 1]? = some (.cells sv 34 (0, 0)) := by simpa using heap_alloc_new (w.alloc (.cells av 34)) _
  have b0 : Below w.heap.size w ((w.alloc (.cells av 34)).alloc (.cells sv 34)) := ((Below.refl _ _).alloc (Nat.le_refl _) _).alloc (by simp) _
  clear hB hS
  go_enter Try.func5, Try.ntmps5
  go_upto_region 1 with (fail)
  generalize (w.alloc (.cells av 34)).alloc (.cells sv 34) = W0 at x0 y0 b0 ⊢
  have X0 := Lib.hid x0; have Y0 := Lib.hid y0; have B0 := Lib.hid b0
  clear x0 y0 b0
  go_upto_region 3 with (go_at_call 7; refine (HKS.out _).mono ?_; rintro e w1 ⟨rfl, hb1⟩; have Hb1 := Lib.hid hb1; clear hb1)
  go_cut [5] (fun s5 wd => s5 = .map (some w1.heap.size) ∧ Hid (∃ L, MapOk wd w1.heap.size L ∧ ∀ p ∈ L, (p.1, p.2.2) ∈ namedL) ∧ Hid (Below W0.heap.size W0 wd))
  case first =>
    have HM := Lib.hid (MapOk.nil w1)
    have HB := Lib.hid (Hb1.out.alloc Hb1.out.size (.map #[] 0))
    go_wp2_with (first
      | (refine wpList_ins rfl _ _ _ rfl w1.heap.size 0 _ [0] _ _ rfl rfl rfl (MapOk.alloc HM.out _) (by decide) (by simp) (by have := MapOk.lt HM.out; first | omega | (simp at this; omega) | simp) (by first | exact heap_alloc_new _ _ | simpa using heap_alloc_new (w1.alloc (.map #[] 0)) _) ?_; intro w9 HM2 hg2; have HB9 := Lib.hid (below_ins HB.out HB.out.size hg2.out Hb1.out.size); clear HM HB; have HM := HM2; have HB := HB9; clear HM2 HB9 hg2)
      | (refine wpList_ins rfl _ _ _ rfl w1.heap.size 18 _ [0, 1, 2, 3, 4] _ _ rfl rfl rfl (MapOk.alloc HM.out _) (by decide) (by simp) (by have := MapOk.lt HM.out; first | omega | (simp at this; omega) | simp) (by first | exact heap_alloc_new _ _ | simpa using heap_alloc_new (w1.alloc (.map #[] 0)) _) ?_; intro w9 HM2 hg2; have HB9 := Lib.hid (below_ins HB.out HB.out.size hg2.out Hb1.out.size); clear HM HB; have HM := HM2; have HB := HB9; clear HM2 HB9 hg2)
      | (refine wpList_ins rfl _ _ _ rfl w1.heap.size 37 _ [0] _ _ rfl rfl rfl (MapOk.alloc HM.out _) (by decide) (by simp) (by have := MapOk.lt HM.out; first | omega | (simp at this; omega) | simp) (by first | exact heap_alloc_new _ _ | simpa using heap_alloc_new (w1.alloc (.map #[] 0)) _) ?_; intro w9 HM2 hg2; have HB9 := Lib.hid (below_ins HB.out HB.out.size hg2.out Hb1.out.size); clear HM HB; have HM := HM2; have HB := HB9; clear HM2 HB9 hg2)
      | (refine wpList_ins rfl _ _ _ rfl w1.heap.size 158 _ [0, 1, 10, 11, 12, 13] _ _ rfl rfl rfl (MapOk.alloc HM.out _) (by decide) (by simp) (by have := MapOk.lt HM.out; first | omega | (simp at this; omega) | simp) (by first | exact heap_alloc_new _ _ | simpa using heap_alloc_new (w1.alloc (.map #[] 0)) _) ?_; intro w9 HM2 hg2; have HB9 := Lib.hid (below_ins HB.out HB.out.size hg2.out Hb1.out.size); clear HM HB; have HM := HM2; have HB := HB9; clear HM2 HB9 hg2)
      | (refine wpList_ins rfl _ _ _ rfl w1.heap.size 160 _ [0, 2, 6, 7, 8, 9] _ _ rfl rfl rfl (MapOk.alloc HM.out _) (by decide) (by simp) (by have := MapOk.lt HM.out; first | omega | (simp at this; omega) | simp) (by first | exact heap_alloc_new _ _ | simpa using heap_alloc_new (w1.alloc (.map #[] 0)) _) ?_; intro w9 HM2 hg2; have HB9 := Lib.hid (below_ins HB.out HB.out.size hg2.out Hb1.out.size); clear HM HB; have HM := HM2; have HB := HB9; clear HM2 HB9 hg2)
      | (refine wpList_ins rfl _ _ _ rfl w1.heap.size 94 _ [0, 1, 7, 8] _ _ rfl rfl rfl (MapOk.alloc HM.out _) (by decide) (by simp) (by have := MapOk.lt HM.out; first | omega | (simp at this; omega) | simp) (by first | exact heap_alloc_new _ _ | simpa using heap_alloc_new (w1.alloc (.map #[] 0)) _) ?_; intro w9 HM2 hg2; have HB9 := Lib.hid (below_ins HB.out HB.out.size hg2.out Hb1.out.size); clear HM HB; have HM := HM2; have HB := HB9; clear HM2 HB9 hg2)
      | (refine wpList_ins rfl _ _ _ rfl w1.heap.size 95 _ [0, 1, 2, 5, 6, 7, 8] _ _ rfl rfl rfl (MapOk.alloc HM.out _) (by decide) (by simp) (by have := MapOk.lt HM.out; first | omega | (simp at this; omega) | simp) (by first | exact heap_alloc_new _ _ | simpa using heap_alloc_new (w1.alloc (.map #[] 0)) _) ?_; intro w9 HM2 hg2; have HB9 := Lib.hid (below_ins HB.out HB.out.size hg2.out Hb1.out.size); clear HM HB; have HM := HM2; have HB := HB9; clear HM2 HB9 hg2)
      | (refine wpList_ins rfl _ _ _ rfl w1.heap.size 66 _ [0, 7, 8] _ _ rfl rfl rfl (MapOk.alloc HM.out _) (by decide) (by simp) (by have := MapOk.lt HM.out; first | omega | (simp at this; omega) | simp) (by first | exact heap_alloc_new _ _ | simpa using heap_alloc_new (w1.alloc (.map #[] 0)) _) ?_; intro w9 HM2 hg2; have HB9 := Lib.hid (below_ins HB.out HB.out.size hg2.out Hb1.out.size); clear HM HB; have HM := HM2; have HB := HB9; clear HM2 HB9 hg2))
    go_meet
    refine ⟨rfl, Lib.hid ⟨_, HM.out, ?_⟩, HB⟩
    intro p hp
    simp only [List.nil_append, List.cons_append, List.mem_cons, List.not_mem_nil, or_false] at hp
    rcases hp with rfl | rfl | rfl | rfl | rfl | rfl | rfl | rfl <;> simp [namedL]
  case rest =>
    obtain ⟨rfl, HL, HB2⟩ := hcut
    obtain ⟨L, hM, hN⟩ := HL.out
    obtain ⟨b0, hb0⟩ : ∃ x, b8 B 0 = x := ⟨_, rfl⟩
    have l0 : b0 < 256 := by rw [← hb0]; exact b8_lt B 0
    have hlt0 := (Array.getElem?_eq_some_iff.1 X0.out).1
    have hlt1 := (Array.getElem?_eq_some_iff.1 Y0.out).1
    have X2 := Lib.hid ((HB2.out.block _ hlt0).trans X0.out)
    have Y2 := Lib.hid ((HB2.out.block _ hlt1).trans Y0.out)
    have cx0 : wc.cell? ⟨w.heap.size, 0, none⟩ = some (.int .u8 (b0 : Nat)) := by
      have hbx : BoxB B w.heap.size wc := by unfold BoxB; rw [← Hav.out]; exact X2.out
      rw [hbx.cell HB.out 0 (by omega), hb0]
    have Hb0 := Lib.hid hb0; have HN := Lib.hid hN
    have hlk := hM.look l0
    clear hN hb0 hM HL Hb1 hlt0 hlt1
    rcases hlk with ⟨q, ns, hmem, hrun, hq⟩ | hrun
    · have Hmem := Lib.hid hmem; have Hq := Lib.hid hq
      clear hmem hq
      go_upto_region 7 with (fail)
      have HB3 := Lib.hid (B0.out.trans (HB2.out.mono B0.out.size))
      have hsz : Hid ((#[.int .u8 0, .int .u8 0, .int .u8 0, .int .u8 0, .int .u8 0, .int .u8 0, .int .u8 0, .int .u8 0, .int .u8 0, .int .u8 0, .int .u8 0, .int .u8 0, .int .u8 0, .int .u8 0, .int .u8 0, .int .u8 0] : Array Value).size = sv.size) := Lib.hid (by
        have h16 : (S.map cu8).toArray.size = 16 := by rw [List.size_toArray, List.length_map, HS.out]
        rw [Hsv.out, h16]; rfl)
      have hw8 : W0.heap.size ≤ wc.heap.size := HB2.out.size
      clear cx0 hrun
      go_upto_region 8 with (first
        | (refine wpList_load_row rfl 34 _ rfl (w.heap.size + 1) rfl 34 sv (0, 0) _ Y2.out Try.underlying34 rfl hsi.out ?_)
        | (refine wpList_store_new rfl 34 _ _ rfl wc.heap.size rfl sv rfl rfl 34 #[.int .u8 0, .int .u8 0, .int .u8 0, .int .u8 0, .int .u8 0, .int .u8 0, .int .u8 0, .int .u8 0, .int .u8 0, .int .u8 0, .int .u8 0, .int .u8 0, .int .u8 0, .int .u8 0, .int .u8 0, .int .u8 0] hsi.out hsz.out hs1.out ?_))
      have x6 : (wc.alloc (.cells sv 34)).heap[w.heap.size]? = some (.cells av 34 (0, 0)) := by rw [Below.heap_alloc _ _ _ (Array.getElem?_eq_some_iff.1 X2.out).1]; exact X2.out
      have q6 : (wc.alloc (.cells sv 34)).heap[q]? = some (.cells (ns.map fun n => Value.int .i64 (n : Nat)).toArray 3 (0, 0)) := by rw [Below.heap_alloc _ _ _ (Array.getElem?_eq_some_iff.1 Hq.out).1]; exact Hq.out
      have c6 : (wc.alloc (.cells sv 34)).heap[wc.heap.size]? = some (.cells ((overN B S (ns.take 0)).map cu8).toArray 34 (0, 0)) := by
        rw [List.take_zero, show overN B S [] = S from rfl, ← Hsv.out]; exact heap_alloc_new wc _
      have b6 : Below w.heap.size w (wc.alloc (.cells sv 34)) := HB3.out.alloc HB3.out.size _
      have nx : w.heap.size ≠ wc.heap.size := Nat.ne_of_lt (Array.getElem?_eq_some_iff.1 X2.out).1
      have nq : q ≠ wc.heap.size := Nat.ne_of_lt (Array.getElem?_eq_some_iff.1 Hq.out).1
      have hwb : w.heap.size ≤ wc.heap.size := HB3.out.size
      obtain ⟨g8, hg8⟩ : ∃ g, wc.heap.size = g := ⟨_, rfl⟩
      rw [hg8] at c6 nx nq hwb
      generalize wc.alloc (.cells sv 34) = w6 at x6 q6 c6 b6 ⊢
      rw [hg8]
      obtain ⟨n, hn⟩ : ∃ n, ns.length = n := ⟨_, rfl⟩
      have hn7 : n ≤ 7 := by
        have := HN.out _ Hmem.out
        simp only [namedL, List.mem_cons, List.not_mem_nil, or_false, Prod.mk.injEq] at this
        rw [← hn]
        rcases this with ⟨_, h⟩ | ⟨_, h⟩ | ⟨_, h⟩ | ⟨_, h⟩ | ⟨_, h⟩ | ⟨_, h⟩ | ⟨_, h⟩ | ⟨_, h⟩ <;> rw [h] <;> simp
      have hns : Hid (∀ e ∈ ns, e < 16) := Lib.hid (by
        have := HN.out _ Hmem.out
        simp only [namedL, List.mem_cons, List.not_mem_nil, or_false, Prod.mk.injEq] at this
        rcases this with ⟨_, h⟩ | ⟨_, h⟩ | ⟨_, h⟩ | ⟨_, h⟩ | ⟨_, h⟩ | ⟨_, h⟩ | ⟨_, h⟩ | ⟨_, h⟩ <;> rw [h] <;> simp)
      rw [hn]
      have Hn := Lib.hid hn; have Nx := Lib.hid nx; have Nq := Lib.hid nq
      have X6 := Lib.hid x6; have Q6 := Lib.hid q6; have C6 := Lib.hid c6; have B6 := Lib.hid b6; have Hwb := Lib.hid hwb
      clear hn nx nq x6 q6 c6 b6 hg8 X2 Y2 Hq HB3 hsz hw8 hwb
      go_wp2
      go_loopg [39] n (fun gg i wr => ∃ j : Nat, j ≤ n ∧ gg = n - j ∧ i = .int .i64 j ∧ Hid (wr.heap[g8]? = some (.cells ((overN B S (ns.take j)).map cu8).toArray 34 (0, 0))) ∧ Hid (w6.grownBy wr (some g8)))
      case atStart => exact ⟨0, by omega, rfl, rfl, C6, Lib.hid ⟨rfl, rfl, rfl, Nat.le_refl _, fun _ _ _ => rfl⟩⟩
      case round =>
        obtain ⟨j, hj, rfl, rfl, HC, HG⟩ := hrel
        have xr := (HG.out.block w.heap.size (Array.getElem?_eq_some_iff.1 X6.out).1 (by have := Nx.out; simpa using this)).trans X6.out
        have qr := (HG.out.block q (Array.getElem?_eq_some_iff.1 Q6.out).1 (by have := Nq.out; simpa using this)).trans Q6.out
        by_cases hlt : j < n
        · have hlt' : (j : Int) < (n : Int) := by omega
          have hjl : j < ns.length := by rw [Hn.out]; exact hlt
          obtain ⟨e, he⟩ : ∃ e, ns[j]? = some e := ⟨_, List.getElem?_eq_getElem hjl⟩
          have he16 : e < 16 := hns.out e (List.mem_of_getElem? he)
          have ce : wr.cell? ⟨q, 0 + j, none⟩ = some (.int .i64 (e : Nat)) := by
            rw [cell_of_row wr q _ _ _ _ qr, List.getElem?_toArray, List.getElem?_map, Nat.zero_add, he]; rfl
          have ce2 : wr.cell? ⟨q, j, none⟩ = some (.int .i64 (e : Nat)) := by rw [Nat.zero_add] at ce; exact ce
          have hbx : BoxB B w.heap.size wr := by unfold BoxB; rw [← Hav.out]; exact xr
          have cb : wr.cell? ⟨w.heap.size, e, none⟩ = some (.int .u8 (b8 B e : Nat)) := hbx.cell HB.out e he16
          have hcl : (overN B S (ns.take j)).length = 16 := by rw [overN_len, HS.out]
          have cg : ∃ v, wr.cell? ⟨g8, e, none⟩ = some v := by
            rw [cell_of_row wr g8 e _ _ _ HC.out, List.getElem?_toArray]
            exact ⟨_, List.getElem?_eq_getElem (by rw [List.length_map, hcl]; exact he16)⟩
          obtain ⟨old, cg⟩ := cg
          have fg : wr.frozen? ⟨g8, e, none⟩ = false := by simp [World.frozen?, HC.out]
          have e0 : (0 : Int) ≤ (e : Int) := by omega
          have e1 : (e : Int) < 16 := by omega
          have hset : (wr.setCell ⟨g8, e, none⟩ (.int .u8 (b8 B e : Nat))).heap[g8]? = some (.cells ((overN B S (ns.take (j + 1))).map cu8).toArray 34 (0, 0)) := by
            rw [List.take_add_one, he, Option.toList_some, overN_snoc, List.map_set]
            simp [World.setCell, Array.getElem?_modify, HC.out]
            rfl
          have hgr : w6.grownBy (wr.setCell ⟨g8, e, none⟩ (.int .u8 (b8 B e : Nat))) (some g8) :=
            ⟨HG.out.os, HG.out.tape, HG.out.output, by simpa [World.setCell] using HG.out.size, fun i hi hne => by
              rw [Below.heap_setCell wr ⟨g8, e, none⟩ _ i (by first | exact fun h => hne (by rw [h]) | exact fun h => hne (by rw [← h]))]
              exact HG.out.block i hi hne⟩
          have HSet := Lib.hid hset; have HGr := Lib.hid hgr
          clear hset hgr ce hcl hbx xr qr HC HG he
          go_wp2
          go_roundg (n - (j + 1))
          case measure => omega
          case rel => exact ⟨j + 1, by omega, rfl, by go_num, HSet, HGr⟩
        · obtain rfl : j = n := by omega
          have hb7 : Below w.heap.size w wr := B6.out.grown HG.out B6.out.size (fun k e => by simp at e; have := Hwb.out; omega)
          have htk : ns.take j = ns := List.take_of_length_le (by rw [Hn.out]; exact Nat.le_refl _)
          rw [htk] at HC
          obtain ⟨C, hC⟩ : ∃ C, overN B S ns = C := ⟨_, rfl⟩
          have hCl : C.length = 16 := by rw [← hC, overN_len, HS.out]
          have hsame := spares_plain HB.out hCl b0 ns Hb0.out (HN.out _ Hmem.out) (fun i hi => by rw [← hC, overN_at B i ns S (by rw [HS.out]; exact hns.out i hi) hi])
          rw [hC] at HC
          obtain ⟨c, hcc⟩ : ∃ c, rowC B = c := ⟨_, rfl⟩
          obtain ⟨D, hDD⟩ : ∃ D, decT B = D := ⟨_, rfl⟩
          have KB : Hid (∀ W, Calls Try.prog 10 #[.agg av] W (TkP D c W)) := Lib.hid fun W => by
            have := Decode_any B HB.out W
            rw [hDD, hcc, ← Hav.out] at this
            exact this
          obtain ⟨cv, Hcv⟩ : ∃ cv : Array Value, Hid (cv = (C.map cu8).toArray) := ⟨_, Lib.hid rfl⟩
          have KC : Hid (∀ W, Calls Try.prog 10 #[.agg cv] W (TkP D c W)) := Lib.hid fun W => by
            have := Decode_any C hCl W
            rw [← hsame.2, ← hsame.1, hDD, hcc, ← Hcv.out] at this
            exact this
          obtain ⟨o, l, k, f, u, a, s, ty, al, ln, pg, v⟩ := D
          have KB : Hid (∀ W, Calls Try.prog 10 #[.agg av] W (TkG #[.int .i64 (o : Nat), .int .u64 (l : Nat), .int .u64 (k : Nat), .bool f, .bool u, .int .i64 (a : Nat), .int .i64 (s : Nat), .int .i64 (ty : Nat), .int .i64 (al : Nat), .int .i64 (ln : Nat), .int .i64 (pg : Nat), .bool v] (c : Nat) W)) := KB
          have KC : Hid (∀ W, Calls Try.prog 10 #[.agg cv] W (TkG #[.int .i64 (o : Nat), .int .u64 (l : Nat), .int .u64 (k : Nat), .bool f, .bool u, .int .i64 (a : Nat), .int .i64 (s : Nat), .int .i64 (ty : Nat), .int .i64 (al : Nat), .int .i64 (ln : Nat), .int .i64 (pg : Nat), .bool v] (c : Nat) W)) := KC
          have hvi : Hid ((Try.prog.info? 34).map (·.size) = some cv.size) := Lib.hid (by rw [Hcv.out, List.size_toArray, List.length_map, hCl]; exact infoB16)
          rw [← Hcv.out] at HC
          obtain ⟨cs, Hcs⟩ : ∃ cs : Array Value, Hid (cs = #[.int .i64 (o : Nat), .int .u64 (l : Nat), .int .u64 (k : Nat), .bool f, .bool u, .int .i64 (a : Nat), .int .i64 (s : Nat), .int .i64 (ty : Nat), .int .i64 (al : Nat), .int .i64 (ln : Nat), .int .i64 (pg : Nat), .bool v]) := ⟨_, Lib.hid rfl⟩
          have hci : Hid ((Try.prog.info? 25).map (·.size) = some cs.size) := Lib.hid (by rw [Hcs.out]; exact infoTk)
          have Heq : Hid (∀ W, (binOp .eql 25 (.agg cs) (.agg cs)).run Try.prog W = .ok (.bool true) W) := Lib.hid (task_refl cs ⟨o, l, k, f, u, a, s, ty, al, ln, pg, v⟩ Hcs.out)
          have Xr := Lib.hid xr; have Hb7 := Lib.hid hb7
          have hlx := (Array.getElem?_eq_some_iff.1 HC.out).1
          have Hlx := Lib.hid hlx
          clear xr qr hb7 htk hC hCl hsame hcc hDD hlx hlt hn7
          go_upto_region 14 with (first
            | (refine wpList_load_row rfl 34 _ rfl w.heap.size rfl 34 av (0, 0) _ Xr.out Try.underlying34 rfl hai.out ?_)
            | (go_at_call 10; refine (KB.out _).mono ?_; rintro e w7 ⟨rfl, hb⟩; have Hb8 := Lib.hid (stepB Hb7.out hb); have HC2 := Lib.hid ((hb.block _ Hlx.out).trans HC.out); clear hb))
          have Hy1 : Hid ((w7.alloc (.cells #[.int .i64 (o : Nat), .int .u64 (l : Nat), .int .u64 (k : Nat), .bool f, .bool u, .int .i64 (a : Nat), .int .i64 (s : Nat), .int .i64 (ty : Nat), .int .i64 (al : Nat), .int .i64 (ln : Nat), .int .i64 (pg : Nat), .bool v] 25)).heap[w7.heap.size]? = some (.cells cs 25 (0, 0))) := Lib.hid (by rw [Hcs.out]; exact heap_alloc_new w7 _)
          have He4 : Hid ((w7.alloc (.cells #[.int .i64 (o : Nat), .int .u64 (l : Nat), .int .u64 (k : Nat), .bool f, .bool u, .int .i64 (a : Nat), .int .i64 (s : Nat), .int .i64 (ty : Nat), .int .i64 (al : Nat), .int .i64 (ln : Nat), .int .i64 (pg : Nat), .bool v] 25)).heap[g8]? = some (.cells cv 34 (0, 0))) := Lib.hid (by rw [Below.heap_alloc _ _ _ (Array.getElem?_eq_some_iff.1 HC2.out).1]; exact HC2.out)
          have Hb4 : Hid (Below w.heap.size w (w7.alloc (.cells #[.int .i64 (o : Nat), .int .u64 (l : Nat), .int .u64 (k : Nat), .bool f, .bool u, .int .i64 (a : Nat), .int .i64 (s : Nat), .int .i64 (ty : Nat), .int .i64 (al : Nat), .int .i64 (ln : Nat), .int .i64 (pg : Nat), .bool v] 25))) := Lib.hid (Hb8.out.alloc Hb8.out.size _)
          generalize w7.alloc (.cells #[.int .i64 (o : Nat), .int .u64 (l : Nat), .int .u64 (k : Nat), .bool f, .bool u, .int .i64 (a : Nat), .int .i64 (s : Nat), .int .i64 (ty : Nat), .int .i64 (al : Nat), .int .i64 (ln : Nat), .int .i64 (pg : Nat), .bool v] 25) = w3 at Hy1 He4 Hb4 ⊢
          go_upto_region 15 with (first
            | (refine wpList_load_row rfl 34 _ rfl g8 rfl 34 cv (0, 0) _ He4.out Try.underlying34 rfl hvi.out ?_)
            | (go_at_call 10; refine (KC.out _).mono ?_; rintro e w4 ⟨rfl, hb4⟩; have Hb5 := Lib.hid (stepB Hb4.out hb4); have Hy2 := Lib.hid ((hb4.block _ (Array.getElem?_eq_some_iff.1 Hy1.out).1).trans Hy1.out); clear hb4))
          have Hz1 : Hid ((w4.alloc (.cells #[.int .i64 (o : Nat), .int .u64 (l : Nat), .int .u64 (k : Nat), .bool f, .bool u, .int .i64 (a : Nat), .int .i64 (s : Nat), .int .i64 (ty : Nat), .int .i64 (al : Nat), .int .i64 (ln : Nat), .int .i64 (pg : Nat), .bool v] 25)).heap[w4.heap.size]? = some (.cells cs 25 (0, 0))) := Lib.hid (by rw [Hcs.out]; exact heap_alloc_new w4 _)
          have Hy3 : Hid ((w4.alloc (.cells #[.int .i64 (o : Nat), .int .u64 (l : Nat), .int .u64 (k : Nat), .bool f, .bool u, .int .i64 (a : Nat), .int .i64 (s : Nat), .int .i64 (ty : Nat), .int .i64 (al : Nat), .int .i64 (ln : Nat), .int .i64 (pg : Nat), .bool v] 25)).heap[w7.heap.size]? = some (.cells cs 25 (0, 0))) := Lib.hid (by rw [Below.heap_alloc _ _ _ (Array.getElem?_eq_some_iff.1 Hy2.out).1]; exact Hy2.out)
          have Hb6 : Hid (Below w.heap.size w (w4.alloc (.cells #[.int .i64 (o : Nat), .int .u64 (l : Nat), .int .u64 (k : Nat), .bool f, .bool u, .int .i64 (a : Nat), .int .i64 (s : Nat), .int .i64 (ty : Nat), .int .i64 (al : Nat), .int .i64 (ln : Nat), .int .i64 (pg : Nat), .bool v] 25))) := Lib.hid (Hb5.out.alloc Hb5.out.size _)
          generalize w4.alloc (.cells #[.int .i64 (o : Nat), .int .u64 (l : Nat), .int .u64 (k : Nat), .bool f, .bool u, .int .i64 (a : Nat), .int .i64 (s : Nat), .int .i64 (ty : Nat), .int .i64 (al : Nat), .int .i64 (ln : Nat), .int .i64 (pg : Nat), .bool v] 25) = w5 at Hz1 Hy3 Hb6 ⊢
          have heq := Heq.out
          clear KB KC
          go_step
          refine wpList_load_row rfl 25 _ rfl w7.heap.size rfl 25 cs (0, 0) _ Hy3.out Try.underlying25 rfl hci.out ?_
          refine wpList_load_row rfl 25 _ rfl w4.heap.size rfl 25 cs (0, 0) _ Hz1.out Try.underlying25 rfl hci.out ?_
          go_wp2_with (fail)
          go_ret
          exact ⟨rfl, Hb6.out⟩
    · go_wp2
      go_ret
      exact ⟨rfl, B0.out.trans (HB2.out.mono B0.out.size)⟩
end Go.Proofs.Ytehhhbehclpkbaa
