/-
  The reference's Add.
-/
import Derived.Test.YtegdlpllljccgaaDoorRrSect
import Derived.Test.YtegdlpllljccgaaDoorRrBad
import Derived.Test.YtegdlpllljccgaaDoorPrAdd
set_option linter.unusedSimpArgs false
set_option linter.unusedVariables false
namespace Go.Proofs.YtegdlpllljccgaaDoor
open Go.RowKit Sh Go.Extern.Stop Go.Stop Go.Extern

theorem RgAt.mark {g gd first n used : Nat} {m : Mk} {w : World} (h : RgAt g gd first n m used w) : w.rangeAt g 3 (markCells m) := fun j v hj => by
  have hl := h.last
  have hj34 : j < 34 := by have := (List.getElem?_eq_some_iff.1 hj).1; simpa [markCells, hl] using this
  rw [h.cell]
  unfold ringCells
  rw [List.getElem?_toArray, Nat.add_comm 3 j]
  simp only [List.getElem?_cons_succ]
  unfold markCells at hj
  rw [← hj, ← List.cons_append, ← List.cons_append, List.getElem?_append_left (by simp [hl]; omega)]
def RAddP (g gd first n : Nat) (m : Mk) (used : Nat) (m2 : Mk) (used2 : Nat) (r : St × Int) (F : Nat → Prop) (w : World) (e : Ending) (w' : World) : Prop :=
  ∃ G, e = .returned (.int .i64 r.2) ∧ RD r.1 G gd w' ∧ ((r.2 = 0 ∧ RgAt g gd first n m2 used2 w') ∨ (r.2 ≠ 0 ∧ RgAt g gd first n m used w')) ∧ Only (fun j => j = g ∨ F j) w w' ∧ ∀ j, G j → F j ∨ w.heap.size ≤ j
structure RaW (g gd first n : Nat) (m : Mk) (used : Nat) (b y : Nat) (dv : List Value) (pgs : List (List UInt8)) (S0 : St) (k : Nat) (F : Nat → Prop) (S : St) (G : Nat → Prop) (w1 wr : World) : Prop where
  ring : RgAt g gd first n m used wr
  out : ImgAt b pgs wr
  sum : wr.heap[y]? = some (.cells dv.toArray 23 (0, 0))
  disk : RD S G gd wr
  good : Good S
  firm : S.firm.length = S0.firm.length
  cnt : S.ats.length ≤ S0.ats.length + k
  new : ∀ j, G j → F j ∨ w1.heap.size ≤ j
  only : Only F w1 wr
  eqn : writesOf first n S0 m.place pgs = writesOf first n S (m.place + k) (pgs.drop k)
section
variable {g gd first n used : Nat} {m : Mk} {S : St} {F : Nat → Prop} {w : World}
set_option maxRecDepth 100000 in
set_option maxHeartbeats 8000000 in
theorem radd_no (h : RgAt g gd first n m used w) (hn1 : n ≤ 4096) (hu : used ≤ n) (bp : Option Addr) (L cap : Nat) (hno : ¬ (1 ≤ L ∧ L ≤ 60 ∧ takes L ≤ n - used)) (hL2 : L ≤ 9223372036854775807) :
    Calls Tryd.prog 23 #[.pointer (some ⟨g, 0, none⟩), .slice bp L cap] w fun e w' => e = .returned (.int .i64 (if 1 ≤ L ∧ L ≤ 60 then 20 else 11)) ∧ Below w.heap.size w w' := by
  obtain ⟨E, hE⟩ : ∃ E : Int, (if 1 ≤ L ∧ L ≤ 60 then 20 else 11) = E := ⟨_, rfl⟩
  rw [hE]
  obtain ⟨_, _, cN, _, _⟩ := h.cells
  have c37 := h.cell37
  obtain ⟨free, hfree⟩ : ∃ free, n - used = free := ⟨_, rfl⟩
  have wS : IntKind.i64.wrap ((n : Int) - (used : Int)) = (free : Int) := by rw [IntWalk.i64_in _ (by omega)]; omega
  have wSb : IntKind.i64.wrap (free : Int) = (free : Int) := IntWalk.i64_in _ (by omega)
  by_cases h1 : L < 1
  · have g1 : (L : Int) < 1 := by omega
    obtain rfl : E = 11 := by rw [← hE, if_neg (by omega)]
    clear hE h
    go_enter Tryd.func23, Tryd.ntmps23
    go_wp2
    go_ret
    exact ⟨rfl, Below.refl _ _⟩
  · have g1 : ¬ (L : Int) < 1 := by omega
    by_cases h2 : 60 < L
    · have g2 : (60 : Int) < L := by omega
      obtain rfl : E = 11 := by rw [← hE, if_neg (by omega)]
      clear hE h
      go_enter Tryd.func23, Tryd.ntmps23
      go_wp2
      go_ret
      exact ⟨rfl, Below.refl _ _⟩
    · have g2 : ¬ (60 : Int) < L := by omega
      obtain rfl : E = 20 := by rw [← hE, if_pos (by omega)]
      obtain ⟨T, hT⟩ : ∃ T, takes L = T := ⟨_, rfl⟩
      have htk : ∀ W, Calls Tryd.prog 21 #[.int .i64 L] W fun e w' => e = .returned (.int .i64 T) ∧ w' = W := fun W => by rw [← hT]; exact rtakes_any L (by omega) W
      have g3 : (free : Int) < T := by omega
      have Htk := Lib.hid htk
      clear hE h hT htk
      go_enter Tryd.func23, Tryd.ntmps23
      go_upto_region 3 with (fail)
      go_quiet ((go_at_call 21; exact Calls.quiet_of_same (Htk.out _)))
      go_wp2
      go_ret
      exact ⟨rfl, below_drewN _ _ _⟩
set_option maxRecDepth 100000 in
set_option maxHeartbeats 8000000 in
/-- Add. -/
theorem radd_any (h : RgAt g gd first n m used w) (hn0 : 0 < n) (hn1 : n ≤ 4096) (hf : first ≤ 4096) (hpl : m.place < n) (hnum : m.num < 18446744073709551616) (hu : used ≤ n) (hD : RD S F gd w) (hgF : ¬ F g) (hG : Good S) (hcnt : S.ats.length ≤ 1000000)
    (l : List Chg) (bp : Option Addr) (cap : Nat) (hl : Fit l) (hC : Chgs w.heap.size w bp l) (hfit : takes l.length ≤ n - used) :
    Calls Tryd.prog 23 #[.pointer (some ⟨g, 0, none⟩), .slice bp l.length cap] w
      (RAddP g gd first n m used (endM n m l) (used + takes l.length) (writesOf first n S m.place (sectors m l)) F w) := by
  obtain ⟨L, hL⟩ : ∃ L, l.length = L := ⟨_, rfl⟩
  obtain ⟨T, hT⟩ : ∃ T, takes L = T := ⟨_, rfl⟩
  have hL1 : 1 ≤ L := by rw [← hL]; exact hl.one
  have hL60 : L ≤ 60 := by rw [← hL]; exact hl.le
  have hT65 : 3 ≤ T ∧ T ≤ 65 := by rw [← hT]; unfold takes; omega
  have hlast := h.last
  have hsect := fun (W : World) (hW : Below w.heap.size w W) => rsectors_any (w := W) m hlast hnum l hl bp cap ((hC.below hW).mono hW.size)
  obtain ⟨pgs, Hpgs⟩ : ∃ pgs, Hid (pgs = sectors m l) := ⟨_, rfl⟩
  have hpl2 : pgs.length = T := by rw [Hpgs.out, sectors_length, hL, hT]
  obtain ⟨dgl, Hdg⟩ : ∃ dgl, Hid (dgl = dig (textOf m l)) := ⟨_, rfl⟩
  have hdgl : dgl.length = 32 := by rw [Hdg.out]; exact dig_len _
  have hem : endM n m l = behind n m L dgl := by unfold endM; rw [hL, Hdg.out]
  unfold RSectP at hsect
  rw [← Hpgs.out, hem]
  simp only [← Hpgs.out, ← Hdg.out, hL, hT] at hsect ⊢
  rw [hL, hT] at hfit
  obtain ⟨mv, Hmv⟩ : ∃ mv : List Value, Hid (mv = markCells m) := ⟨_, rfl⟩
  have hmr := h.mark
  rw [← Hmv.out] at hmr
  have hmi : Hid ((Tryd.prog.info? 46).map (·.size) = some mv.length) := by rw [Hmv.out]; simp only [markCells, List.length_cons, List.length_map, hlast]; exact infoRMark
  obtain ⟨_, _, cN, _, _⟩ := h.cells
  have c37 := h.cell37
  obtain ⟨free, hfree⟩ : ∃ free, n - used = free := ⟨_, rfl⟩
  have wS : IntKind.i64.wrap ((n : Int) - (used : Int)) = (free : Int) := by rw [IntWalk.i64_in _ (by omega)]; omega
  have wSb : IntKind.i64.wrap (free : Int) = (free : Int) := IntWalk.i64_in _ (by omega)
  have g1 : ¬ (L : Int) < 1 := by omega
  have g2 : ¬ (60 : Int) < L := by omega
  have g3 : ¬ (free : Int) < T := by omega
  have htk : ∀ W, Calls Tryd.prog 21 #[.int .i64 L] W fun e w' => e = .returned (.int .i64 T) ∧ w' = W := fun W => by rw [← hT]; exact rtakes_any L (by omega) W
  have hrow := fun (W : World) (hW : Below w.heap.size w W) => h.below hW
  have hdisk := fun (W : World) (hW : Below w.heap.size w W) => hD.below hW
  have hFlt : ∀ j, F j → j < w.heap.size := fun j hj => hD.lt hj
  have hglt := h.lt
  have Htk := Lib.hid htk; have Hsect := Lib.hid hsect; have HT := Lib.hid hT; have HL := Lib.hid hL; have Hrow := Lib.hid hrow; have Hdisk := Lib.hid hdisk; have Hpl := Lib.hid hpl2; have HG := Lib.hid hG
  clear htk hsect hT hL hrow hdisk hpl2 hem hC hD h hG
  go_enter Tryd.func23, Tryd.ntmps23
  go_upto_region 3 with (fail)
  go_quiet ((go_at_call 21; exact Calls.quiet_of_same (Htk.out _)))
  have hb1 : Below w.heap.size w (w.drewN nq) := below_drewN w nq _
  have hmr1 : (w.drewN nq).rangeAt g 3 mv := hmr
  generalize w.drewN nq = w1 at hb1 hmr1 ⊢
  clear wS wSb cN c37 hmr g1 g2 g3
  go_wp2_with (first
    | (refine wpList_load_mid rfl 46 _ rfl g 3 rfl mv _ hmr1 Tryd.underlying46 rfl hmi.out ?_)
    | (go_at_call 34; rw [Hmv.out]; refine (Hsect.out w1 hb1).mono ?_))
  rintro e w2 ⟨b, cb, rfl, hbw, himg, hb2⟩
  obtain ⟨dv, Hdv⟩ : ∃ dv : List Value, Hid (dv = dgl.map cu8) := ⟨_, rfl⟩
  rw [← Hdv.out]
  have hdvl : dv.length = 32 := by rw [Hdv.out, List.length_map, hdgl]
  have hdi : Hid ((Tryd.prog.info? 23).map (·.size) = some dv.toArray.size) := by rw [List.size_toArray, hdvl]; exact (by kernel_rfl : (Tryd.prog.info? 23).map (·.size) = some 32)
  have hdz : Hid (z32.toArray.size = dv.toArray.size) := by rw [show dv.toArray.size = 32 from by rw [List.size_toArray, hdvl]]; exact (rfl : z32.toArray.size = 32)
  have hd1 : Hid (dv.toArray.all (·.oneCell') = true) := by rw [Hdv.out]; exact bytes_one _
  have hb02 := hb1.trans (hb2.mono hb1.size)
  have hb1s := hb1.size
  clear hdvl hmr1 hb2 hb1
  go_upto_region 7 with (first
    | (refine wpList_alloc_arr rfl 23 rfl _ alloc32 ?_)
    | (refine wpList_store_new rfl 23 _ _ rfl w2.heap.size rfl dv.toArray rfl rfl 23 _ hdi.out hdz.out hd1.out ?_))
  have hb3 : Below w2.heap.size w2 (w2.alloc (.cells dv.toArray 23)) := (Below.refl _ _).alloc (Nat.le_refl _) _
  have hy3 : (w2.alloc (.cells dv.toArray 23)).heap[w2.heap.size]? = some (.cells dv.toArray 23 (0, 0)) := heap_alloc_new w2 _
  have himg3 := himg.below hb3
  have hb03 := hb02.trans (hb3.mono hb02.size)
  have hby : b < w2.heap.size := himg.1
  generalize w2.alloc (.cells dv.toArray 23) = w3 at hb3 hy3 himg3 hb03 ⊢
  obtain ⟨y, hy⟩ : ∃ y, w2.heap.size = y := ⟨_, rfl⟩
  rw [hy] at hy3 hby ⊢
  have hwy : w.heap.size ≤ y := by rw [← hy]; exact hb02.size
  have hyw3 : y < w3.heap.size := (Array.getElem?_eq_some_iff.1 hy3).1
  have hW0 : RaW g gd first n m used b y dv pgs S 0 F S F w3 w3 := ⟨Hrow.out w3 hb03, himg3, hy3, Hdisk.out w3 hb03, HG.out, rfl, by omega, fun j hj => .inl hj, Only.refl _ _, by rw [Nat.add_zero, List.drop_zero]⟩
  have hwb : w.heap.size ≤ b := Nat.le_trans hb1s hbw
  have HW0 := Lib.hid hW0; have Hb03 := Lib.hid hb03
  have hbw3 : b < w3.heap.size := by omega
  clear hW0 hy hb3 hy3 himg3 himg hb03 hb02 hdz hd1 Hrow Hdisk Hsect
  go_loopg [7, 8] T (fun gg i ev wr => ∃ (c : Nat) (Sk : St) (Gk : Nat → Prop), c ≤ T ∧ gg = T - c ∧ i = .int .i64 c ∧ RaW g gd first n m used b y dv pgs S c F Sk Gk w3 wr)
  case atStart => exact ⟨0, S, F, by omega, by omega, rfl, HW0.out⟩
  case round =>
    clear HW0
    obtain ⟨c, Sk, Gk, hc, rfl, rfl, hW⟩ := hrel
    by_cases hlt : c < T
    · have hlt' : (c : Int) < (T : Int) := by omega
      obtain ⟨q, hq⟩ : ∃ q, pgs[c]? = some q := ⟨_, List.getElem?_eq_getElem (by rw [Hpl.out]; exact hlt)⟩
      obtain ⟨hq64, hrq⟩ := hW.out.2 c q hq
      obtain ⟨qv, Hqv⟩ : ∃ qv : List Value, Hid (qv = q.map cu8) := ⟨_, rfl⟩
      rw [← Hqv.out] at hrq
      have hqvl : qv.length = 64 := by rw [Hqv.out, List.length_map, hq64]
      have hqi : Hid ((Tryd.prog.info? 63).map (·.size) = some qv.length) := by rw [hqvl]; exact info64
      have hqp : IsPage qv := by rw [Hqv.out]; exact bytes_page hq64
      have hdrop : pgs.drop c = q :: pgs.drop (c + 1) := by
        obtain ⟨hcl, hcq⟩ := List.getElem?_eq_some_iff.1 hq
        rw [List.drop_eq_getElem_cons hcl, hcq]
      have heqn := hW.eqn
      rw [hdrop] at heqn
      unfold writesOf at heqn
      obtain ⟨Q, hQ⟩ : ∃ Q : Nat, first + (m.place + c) % n = Q := ⟨_, rfl⟩
      rw [hQ, ← Hqv.out] at heqn
      have Heqn : Hid (writesOf first n S m.place pgs = if (writeOf Sk (Q : Int) qv).2 = 0 then writesOf first n (writeOf Sk (Q : Int) qv).1 (m.place + c + 1) (pgs.drop (c + 1)) else writeOf Sk (Q : Int) qv) := by
        rw [← heqn]; cases pgs <;> rfl
      obtain ⟨s, hs⟩ : ∃ s, m.place + c = s := ⟨_, rfl⟩
      obtain ⟨r, hr⟩ : ∃ r, s % n = r := ⟨_, rfl⟩
      have hrn : r < n := by rw [← hr]; exact Nat.mod_lt _ hn0
      have hQ2 : first + r = Q := by rw [← hr, ← hs]; exact hQ
      have w1' : IntKind.i64.wrap ((m.place : Int) + (c : Int)) = (s : Int) := by rw [IntWalk.i64_in _ (by omega)]; omega
      have w1b : IntKind.i64.wrap (s : Int) = (s : Int) := IntWalk.i64_in _ (by omega)
      have wv4 : (s : Int) % (n : Int) = (r : Int) := by omega
      have wv5 : (s : Int).tmod (n : Int) = (r : Int) := by rw [Int.tmod_eq_emod_of_nonneg (by omega), wv4]
      have wv5b : IntKind.i64.wrap (r : Int) = (r : Int) := IntWalk.i64_in _ (by omega)
      have wv6 : IntKind.i64.wrap ((first : Int) + (r : Int)) = (Q : Int) := by rw [IntWalk.i64_in _ (by omega)]; omega
      have wv6b : IntKind.i64.wrap (Q : Int) = (Q : Int) := IntWalk.i64_in _ (by omega)
      have hnz : ¬ (n : Int) = 0 := by omega
      have hnz2 : ¬ n = 0 := by omega
      go_upto_region 9 with (fail)
      refine wp_region_up 25 (fun w' => Below wr.heap.size wr w') (by kernel_rfl) ?_
      have hb2 : Below wr.heap.size wr { wr with drawn := wr.drawn + 1 } := ⟨rfl, rfl, rfl, Nat.le_refl _, fun _ _ => rfl⟩
      obtain ⟨wd, hdr⟩ : ∃ wd : World, ({ wr with drawn := wr.drawn + 1 } : World) = wd := ⟨_, rfl⟩
      rw [hdr] at hb2 ⊢
      clear hdr
      have HS := Lib.hid (fun W (hW2 : Below wr.heap.size wr W) => hW.ring.below hW2)
      have hgood := hW.good
      have hcount := hW.cnt
      have Hwr := Lib.hid (fun W (hW2 : Below wr.heap.size wr W) => rd_write (hW.disk.below hW2) hgood (by omega) (Q : Int) qv hqp)
      have HLd := Lib.hid (fun W (hW2 : Below wr.heap.size wr W) => run_loadAt_mid (P := Tryd.prog) W b (c * 64) 63 qv _ (range_keep hrq (hW2.block b hW.out.1)) Tryd.underlying63 rfl hqi.out)
      have HW := Lib.hid hW
      clear heqn hdrop hW hs hr hQ hQ2 hrq
      refine up_take (i := 0) (v := .pointer (some ⟨g, 0, none⟩)) rfl (by kernel_rfl) (by kernel_rfl) (fun _ _ _ h => h) (Or.inl ⟨by rfl, ?_⟩) hb2 ?_
      · intro w' _; go_simp
      try simp only [List.getElem_toArray, List.getElem_cons_succ, List.getElem_cons_zero, Act.put, List.setIfInBounds_toArray, List.set]
      refine up_take (i := 1) (v := .pointer (some ⟨g, 0, none⟩)) rfl (by kernel_rfl) (by kernel_rfl) (fun _ _ _ h => h) (Or.inl ⟨by rfl, ?_⟩) hb2 ?_
      · intro w' _; go_simp
      try simp only [List.getElem_toArray, List.getElem_cons_succ, List.getElem_cons_zero, Act.put, List.setIfInBounds_toArray, List.set]
      refine up_take (i := 2) (v := .pointer (some ⟨g, 0, none⟩)) rfl (by kernel_rfl) (by kernel_rfl) (fun _ _ _ h => h) (Or.inl ⟨by rfl, ?_⟩) hb2 ?_
      · intro w' _; go_simp
      try simp only [List.getElem_toArray, List.getElem_cons_succ, List.getElem_cons_zero, Act.put, List.setIfInBounds_toArray, List.set]
      refine up_take (i := 3) (v := .pointer (some ⟨gd, 0, none⟩)) rfl (by kernel_rfl) (by kernel_rfl) (fun _ _ _ h => h) (Or.inl ⟨by rfl, ?_⟩) hb2 ?_
      · intro w' hS'
        obtain ⟨c0, c1, c2, c3, c4⟩ := RgAt.cells (HS.out w' hS')
        clear hS'
        go_simp
      try simp only [List.getElem_toArray, List.getElem_cons_succ, List.getElem_cons_zero, Act.put, List.setIfInBounds_toArray, List.set]
      refine up_take (i := 4) (v := .pointer (some ⟨g, 0, none⟩)) rfl (by kernel_rfl) (by kernel_rfl) (fun _ _ _ h => h) (Or.inl ⟨by rfl, ?_⟩) hb2 ?_
      · intro w' _; go_simp
      try simp only [List.getElem_toArray, List.getElem_cons_succ, List.getElem_cons_zero, Act.put, List.setIfInBounds_toArray, List.set]
      refine up_take (i := 5) (v := .pointer (some ⟨g, 0, none⟩)) rfl (by kernel_rfl) (by kernel_rfl) (fun _ _ _ h => h) (Or.inl ⟨by rfl, ?_⟩) hb2 ?_
      · intro w' _; go_simp
      try simp only [List.getElem_toArray, List.getElem_cons_succ, List.getElem_cons_zero, Act.put, List.setIfInBounds_toArray, List.set]
      refine up_take (i := 6) (v := .pointer (some ⟨g, 1, none⟩)) rfl (by kernel_rfl) (by kernel_rfl) (fun _ _ _ h => h) (Or.inl ⟨by rfl, ?_⟩) hb2 ?_
      · intro w' _; go_simp
      try simp only [List.getElem_toArray, List.getElem_cons_succ, List.getElem_cons_zero, Act.put, List.setIfInBounds_toArray, List.set]
      refine up_take (i := 7) (v := .int .i64 first) rfl (by kernel_rfl) (by kernel_rfl) (fun _ _ _ h => h) (Or.inl ⟨by rfl, ?_⟩) hb2 ?_
      · intro w' hS'
        obtain ⟨c0, c1, c2, c3, c4⟩ := RgAt.cells (HS.out w' hS')
        clear hS'
        go_simp
      try simp only [List.getElem_toArray, List.getElem_cons_succ, List.getElem_cons_zero, Act.put, List.setIfInBounds_toArray, List.set]
      refine up_take (i := 8) (v := .pointer (some ⟨g, 0, none⟩)) rfl (by kernel_rfl) (by kernel_rfl) (fun _ _ _ h => h) (Or.inl ⟨by rfl, ?_⟩) hb2 ?_
      · intro w' _; go_simp
      try simp only [List.getElem_toArray, List.getElem_cons_succ, List.getElem_cons_zero, Act.put, List.setIfInBounds_toArray, List.set]
      refine up_take (i := 9) (v := .pointer (some ⟨g, 0, none⟩)) rfl (by kernel_rfl) (by kernel_rfl) (fun _ _ _ h => h) (Or.inl ⟨by rfl, ?_⟩) hb2 ?_
      · intro w' _; go_simp
      try simp only [List.getElem_toArray, List.getElem_cons_succ, List.getElem_cons_zero, Act.put, List.setIfInBounds_toArray, List.set]
      refine up_take (i := 10) (v := .pointer (some ⟨g, 3, none⟩)) rfl (by kernel_rfl) (by kernel_rfl) (fun _ _ _ h => h) (Or.inl ⟨by rfl, ?_⟩) hb2 ?_
      · intro w' _; go_simp
      try simp only [List.getElem_toArray, List.getElem_cons_succ, List.getElem_cons_zero, Act.put, List.setIfInBounds_toArray, List.set]
      refine up_take (i := 11) (v := .pointer (some ⟨g, 3, none⟩)) rfl (by kernel_rfl) (by kernel_rfl) (fun _ _ _ h => h) (Or.inl ⟨by rfl, ?_⟩) hb2 ?_
      · intro w' _; go_simp
      try simp only [List.getElem_toArray, List.getElem_cons_succ, List.getElem_cons_zero, Act.put, List.setIfInBounds_toArray, List.set]
      refine up_take (i := 12) (v := .int .i64 m.place) rfl (by kernel_rfl) (by kernel_rfl) (fun _ _ _ h => h) (Or.inl ⟨by rfl, ?_⟩) hb2 ?_
      · intro w' hS'
        obtain ⟨c0, c1, c2, c3, c4⟩ := RgAt.cells (HS.out w' hS')
        clear hS'
        go_simp
      try simp only [List.getElem_toArray, List.getElem_cons_succ, List.getElem_cons_zero, Act.put, List.setIfInBounds_toArray, List.set]
      refine up_take (i := 13) (v := .int .i64 c) rfl (by kernel_rfl) (by kernel_rfl) (fun _ _ _ h => h) (Or.inl ⟨by rfl, ?_⟩) hb2 ?_
      · intro w' _; go_simp
      try simp only [List.getElem_toArray, List.getElem_cons_succ, List.getElem_cons_zero, Act.put, List.setIfInBounds_toArray, List.set]
      refine up_take (i := 14) (v := .int .i64 s) rfl (by kernel_rfl) (by kernel_rfl) (fun _ _ _ h => h) (Or.inl ⟨by rfl, ?_⟩) hb2 ?_
      · intro w' _; go_simp
      try simp only [List.getElem_toArray, List.getElem_cons_succ, List.getElem_cons_zero, Act.put, List.setIfInBounds_toArray, List.set]
      refine up_take (i := 15) (v := .pointer (some ⟨g, 0, none⟩)) rfl (by kernel_rfl) (by kernel_rfl) (fun _ _ _ h => h) (Or.inl ⟨by rfl, ?_⟩) hb2 ?_
      · intro w' _; go_simp
      try simp only [List.getElem_toArray, List.getElem_cons_succ, List.getElem_cons_zero, Act.put, List.setIfInBounds_toArray, List.set]
      refine up_take (i := 16) (v := .pointer (some ⟨g, 0, none⟩)) rfl (by kernel_rfl) (by kernel_rfl) (fun _ _ _ h => h) (Or.inl ⟨by rfl, ?_⟩) hb2 ?_
      · intro w' _; go_simp
      try simp only [List.getElem_toArray, List.getElem_cons_succ, List.getElem_cons_zero, Act.put, List.setIfInBounds_toArray, List.set]
      refine up_take (i := 17) (v := .pointer (some ⟨g, 2, none⟩)) rfl (by kernel_rfl) (by kernel_rfl) (fun _ _ _ h => h) (Or.inl ⟨by rfl, ?_⟩) hb2 ?_
      · intro w' _; go_simp
      try simp only [List.getElem_toArray, List.getElem_cons_succ, List.getElem_cons_zero, Act.put, List.setIfInBounds_toArray, List.set]
      refine up_take (i := 18) (v := .int .i64 n) rfl (by kernel_rfl) (by kernel_rfl) (fun _ _ _ h => h) (Or.inl ⟨by rfl, ?_⟩) hb2 ?_
      · intro w' hS'
        obtain ⟨c0, c1, c2, c3, c4⟩ := RgAt.cells (HS.out w' hS')
        clear hS'
        go_simp
      try simp only [List.getElem_toArray, List.getElem_cons_succ, List.getElem_cons_zero, Act.put, List.setIfInBounds_toArray, List.set]
      refine up_take (i := 19) (v := .int .i64 r) rfl (by kernel_rfl) (by kernel_rfl) (fun _ _ _ h => h) (Or.inl ⟨by rfl, ?_⟩) hb2 ?_
      · intro w' _; go_simp
      try simp only [List.getElem_toArray, List.getElem_cons_succ, List.getElem_cons_zero, Act.put, List.setIfInBounds_toArray, List.set]
      refine up_take (i := 20) (v := .int .i64 Q) rfl (by kernel_rfl) (by kernel_rfl) (fun _ _ _ h => h) (Or.inl ⟨by rfl, ?_⟩) hb2 ?_
      · intro w' _; go_simp
      try simp only [List.getElem_toArray, List.getElem_cons_succ, List.getElem_cons_zero, Act.put, List.setIfInBounds_toArray, List.set]
      refine up_take (i := 21) (v := .slice (some ⟨b, 0, none⟩) T cb) rfl (by kernel_rfl) (by kernel_rfl) (fun _ _ _ h => h) (Or.inl ⟨by rfl, ?_⟩) hb2 ?_
      · intro w' _; go_simp
      try simp only [List.getElem_toArray, List.getElem_cons_succ, List.getElem_cons_zero, Act.put, List.setIfInBounds_toArray, List.set]
      refine up_take (i := 22) (v := .int .i64 c) rfl (by kernel_rfl) (by kernel_rfl) (fun _ _ _ h => h) (Or.inl ⟨by rfl, ?_⟩) hb2 ?_
      · intro w' _; go_simp
      try simp only [List.getElem_toArray, List.getElem_cons_succ, List.getElem_cons_zero, Act.put, List.setIfInBounds_toArray, List.set]
      refine up_take (i := 23) (v := .pointer (some ⟨b, c * 64, none⟩)) rfl (by kernel_rfl) (by kernel_rfl) (fun _ _ _ h => h) (Or.inl ⟨by rfl, ?_⟩) hb2 ?_
      · intro w' _; go_simp
      try simp only [List.getElem_toArray, List.getElem_cons_succ, List.getElem_cons_zero, Act.put, List.setIfInBounds_toArray, List.set]
      refine up_take (i := 24) (v := .agg qv.toArray) rfl (by kernel_rfl) (by kernel_rfl) (fun _ _ _ h => h) (Or.inl ⟨by rfl, ?_⟩) hb2 ?_
      · intro w' hS'; exact exec_load _ _ 63 _ rfl b (c * 64) rfl _ (HLd.out w' hS')
      try simp only [List.getElem_toArray, List.getElem_cons_succ, List.getElem_cons_zero, Act.put, List.setIfInBounds_toArray, List.set]
      refine up_tail ?_
      refine up_last 25 _ rfl (by kernel_rfl) (by decide) (by rfl) (fun K hK => ?_)
      go_simp
      refine (Hwr.out _ hb2).mono ?_
      rintro e w5 ⟨rfl, G4, hP4, ho4, hn4⟩
      refine hK _ _ ?_
      clear hK K
      try simp only [List.getElem_toArray, List.getElem_cons_succ, List.getElem_cons_zero, Act.put, List.setIfInBounds_toArray, List.set]
      refine up_last 26 _ rfl (by kernel_rfl) (by decide) (by rfl) (fun K hK => ?_)
      go_simp
      refine hK _ _ ?_
      clear hK K
      try simp only [List.getElem_toArray, List.getElem_cons_succ, List.getElem_cons_zero, Act.put, List.setIfInBounds_toArray, List.set]
      refine up_done (by kernel_rfl) ?_ _
      have hba3 : Below wr.heap.size wr wd := hb2
      have hrl := HW.out.ring.lt
      have hol := HW.out.out.1
      have hyl := (Array.getElem?_eq_some_iff.1 HW.out.sum).1
      have hs3 := HW.out.only.size
      have hw3 := Hb03.out.size
      have hds := hb2.size
      have hnb : ¬ Gk b := fun hGb => (HW.out.new b hGb).elim (fun h1 => by have := hFlt b h1; omega) (fun h1 => by omega)
      have hny : ¬ Gk y := fun hGb => (HW.out.new y hGb).elim (fun h1 => by have := hFlt y h1; omega) (fun h1 => by omega)
      have hng : ¬ Gk g := fun hGb => (HW.out.new g hGb).elim hgF (fun h1 => by omega)
      have hring4 : RgAt g gd first n m used w5 := ⟨(ho4.block g (by omega) hng).trans (HW.out.ring.below hb2).at_, HW.out.ring.last⟩
      have hout4 : ImgAt b pgs w5 := ⟨by have := ho4.size; omega, fun i p hi => ⟨(HW.out.out.2 i p hi).1, range_keep ((HW.out.out.below hb2).2 i p hi).2 (ho4.block b (by omega) hnb)⟩⟩
      have hsum4 : w5.heap[y]? = some (.cells dv.toArray 23 (0, 0)) := (ho4.block y (by omega) hny).trans ((hb2.block y hyl).trans HW.out.sum)
      have honly4 : Only F w3 w5 := (HW.out.only.trans (Only.of_below (F := fun _ => False) hb2) (fun j hj => hj.elim)).trans ho4 (fun j hj => HW.out.new j hj)
      have hnew4 : ∀ j, G4 j → F j ∨ w3.heap.size ≤ j := fun j hj => by
        rcases hn4 j hj with h1 | h1
        · exact HW.out.new j h1
        · right; omega
      have hfirm4 : (writeOf Sk (Q : Int) qv).1.firm.length = S.firm.length := by rw [write_firm]; exact HW.out.firm
      have hgood4 := good_write hgood (Q : Int) qv
      have hcnt4 := write_count Sk (Q : Int) qv
      obtain ⟨r4, hr4⟩ : ∃ r4, writeOf Sk (Q : Int) qv = r4 := ⟨_, rfl⟩
      rw [hr4] at Heqn hP4 hfirm4 hgood4 hcnt4 ⊢
      clear HS Hwr HLd hb2 hba3 ho4 hn4 HW hr4 w1' w1b wv4 wv5 wv5b wv6 wv6b
      by_cases hz : r4.2 = 0
      · have heq4 : writesOf first n S m.place pgs = writesOf first n r4.1 (m.place + (c + 1)) (pgs.drop (c + 1)) := by rw [Heqn.out, if_pos hz, ← Nat.add_assoc]
        have hW4 : RaW g gd first n m used b y dv pgs S (c + 1) F r4.1 G4 w3 w5 := ⟨hring4, hout4, hsum4, hP4, hgood4, hfirm4, by omega, hnew4, honly4, heq4⟩
        rw [hz]
        have HW4 := Lib.hid hW4
        clear hz Heqn heq4 hring4 hout4 hsum4 hP4 hgood4 hfirm4 hcnt4 hnew4 honly4 hW4
        go_wp2
        go_roundg (T - (c + 1))
        case measure => omega
        case rel => exact ⟨c + 1, _, _, by omega, rfl, by go_num, HW4.out⟩
      · have heq4 : writesOf first n S m.place pgs = r4 := by rw [Heqn.out, if_neg hz]
        obtain ⟨E, hE⟩ : ∃ E, r4.2 = E := ⟨_, rfl⟩
        have hfin : RAddP g gd first n m used (behind n m L dgl) (used + T) (writesOf first n S m.place pgs) F w (.returned (.int .i64 E)) w5 := by
          rw [heq4, ← hE]
          exact ⟨G4, rfl, hP4, .inr ⟨hz, hring4⟩, (Only.of_below Hb03.out).trans honly4 (fun j hj => .inl (.inr hj)), fun j hj => (hnew4 j hj).imp id (fun h1 => by omega)⟩
        rw [hE] at hz ⊢
        have Hfin := Lib.hid hfin
        clear hfin heq4 Heqn hring4 hout4 hsum4 hP4 hgood4 hfirm4 hcnt4 hnew4 honly4 hE
        go_wp2
        go_ret
        exact Hfin.out
    · obtain rfl : c = T := by omega
      have hlt' : ¬ (c : Int) < (c : Int) := by omega
      have heqn := hW.eqn
      rw [List.drop_of_length_le (by rw [Hpl.out]; exact Nat.le_refl _)] at heqn
      have heqn2 : writesOf first n S m.place pgs = (Sk, 0) := heqn
      have hbeh := rbehind_any hW.ring hn0 hn1 L hL60 (by omega) (by omega) hnum dgl hdgl
      rw [← Hdv.out, HT.out] at hbeh
      have hys := hW.sum
      have Heqn2 := Lib.hid heqn2; have Hbeh := Lib.hid hbeh; have HW := Lib.hid hW
      clear heqn heqn2 hbeh hW
      go_wp2_with (first
        | (refine wpList_load_row rfl 23 _ rfl y rfl 23 dv.toArray (0, 0) _ hys Tryd.underlying23 rfl hdi.out ?_)
        | (go_at_call 42; refine Hbeh.out.mono ?_))
      rintro e w6 rfl hring6 ho6
      have hw3 := Hb03.out.size
      have hdisk6 := HW.out.disk.keep ho6 (fun j hj e => by rw [e] at hj; exact (HW.out.new g hj).elim hgF (fun h1 => by omega))
      have honly6 : Only (fun j => j = g ∨ F j) w w6 := ((Only.of_below Hb03.out).trans HW.out.only (fun j hj => .inl (.inr hj))).trans ho6 (fun j hj => .inl (.inl hj))
      have hnew6 := fun j hj => (HW.out.new j hj).imp id (fun h1 => (by omega : w.heap.size ≤ j))
      clear hlt'
      go_wp2
      go_ret
      rw [Heqn2.out]
      exact ⟨Gk, rfl, hdisk6, .inl ⟨rfl, hring6⟩, honly6, hnew6⟩
end
end Go.Proofs.YtegdlpllljccgaaDoor
