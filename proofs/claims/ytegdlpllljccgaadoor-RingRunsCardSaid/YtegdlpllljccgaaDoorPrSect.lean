/-
  The program's ring: sectors.
-/
import Derived.Test.YtegdlpllljccgaaDoorPrLay
set_option linter.unusedSimpArgs false
set_option linter.unusedVariables false
namespace Go.Proofs.YtegdlpllljccgaaDoor
open Go.RowKit Sh

/-- 'copy' into a row that is known whole. -/
theorem wp_copy_into {P : Program} {o : Oper} {a : Act} {w : World} {K : Act → World → Prop} {Q : Exit → Act → World → Prop} (hgd : o.guard = none) (d s : Operand) (dT sT : TypeId)
    (ho : o.op = .call { callee := .builtin .copy, args := #[d, s], argTypes := #[dT, sT] }) (elem : TypeId) (hu : P.underlying dT = some (.slice elem)) (hsz : (P.info? elem).map (·.size) = some 1)
    (g off dLen dCap : Nat) (ad : Addr) (sLen sCap : Nat) (hd : a.eval d = .slice (some ⟨g, off, none⟩) dLen dCap) (hs : a.eval s = .slice (some ad) sLen sCap)
    (cur : List Value) (t : TypeId) (hg : w.heap[g]? = some (.cells cur.toArray t (0, 0))) (cs : List Value) (hn : cs.length = Nat.min sLen dLen)
    (hsrc : ∀ j v, cs[j]? = some v → w.cell? (ad.add j) = some v) (hfit : off + cs.length ≤ cur.length) (h1 : ∀ v ∈ cs, v.oneCell' = true)
    (h : ∀ w', Hid (w'.heap[g]? = some (.cells (splice cur off cs).toArray t (0, 0))) → Hid (w.grownBy w' (some g)) → K (a.put o.dst (goInt cs.length)) w') : Oper.wp P o a w K Q := by
  have := step_copy_into (P := P) (ops := #[]) (o := o) (a := a) (w := w) (K := K) (Q := Q) (E := True) hgd d s dT sT ho elem hu hsz g off dLen dCap ad sLen sCap hd hs cur t hg cs hn hsrc hfit h1 h
  have hw : Region.wanted o (yielded #[] a.tmps) = true := by simp [Region.wanted, hgd]
  rwa [if_pos hw] at this
structure ScW (b x : Nat) (m : Mk) (pgs : List (List UInt8)) (w wr : World) : Prop where
  rec_ : RecAt b pgs wr
  box : wr.heap[x]? = some (.cells (markCells m).toArray 25 (0, 0))
  bel : Below w.heap.size w wr
def SectP (m : Mk) (l : List Chg) (w : World) (e : Ending) (w' : World) : Prop :=
  ∃ b, w.heap.size ≤ b ∧ e = .returned (.slice (some ⟨b, 0, none⟩) (takes l.length) (takes l.length)) ∧ RecAt b (sectors m l) w' ∧ Below w.heap.size w w'
theorem byte_range {w : World} {g : Nat} {t : TypeId} {bs : List UInt8} (h : w.heap[g]? = some (.cells (bs.map cu8).toArray t (0, 0))) : ∀ (j : Nat) (v : Value), (bs.map cu8)[j]? = some v → w.cell? ((⟨g, 0, none⟩ : Addr).add j) = some v := fun j v hj => by
  have : (⟨g, 0, none⟩ : Addr).add j = ⟨g, 0 + j, none⟩ := by unfold Addr.add; split <;> simp_all
  rw [this, Nat.zero_add, cell_of_row w g j _ _ _ h]; simpa using hj
theorem mark_range {w : World} {x : Nat} {m : Mk} (h : w.heap[x]? = some (.cells (markCells m).toArray 25 (0, 0))) : w.rangeAt x 2 (m.last.map cu8) := fun j v hj => by
  rw [cell_of_row w x _ _ _ _ h, List.getElem?_toArray]
  simp only [markCells]
  rw [Nat.add_comm 2 j, List.getElem?_cons_succ, List.getElem?_cons_succ]
  exact hj
section
variable {w w' : World}
set_option maxRecDepth 100000 in
set_option maxHeartbeats 8000000 in
/-- sectors. -/
theorem sectors_any (m : Mk) (l : List Chg) (bp : Option Addr) (cap : Nat) (hl : Fit l) (hm : m.last.length = 32) (hC : Chgs w.heap.size w bp l) :
    Calls Tryd.prog 65 #[.agg (markCells m).toArray, .slice bp l.length cap] w (SectP m l w) := by
  obtain ⟨bl, rfl, hblN, hrange⟩ : ∃ b, bp = some ⟨b, 0, none⟩ ∧ b < w.heap.size ∧ ∀ i c, l[i]? = some c → w.rangeAt b (i * 65) (chgC c) := by
    rcases hC with h | h
    · have := hl.one; rw [h] at this; simp at this
    · exact h
  clear hC
  obtain ⟨k, hk⟩ : ∃ k, l.length = k := ⟨_, rfl⟩
  obtain ⟨T, hT⟩ : ∃ T, takes l.length = T := ⟨_, rfl⟩
  have hk1 : 1 ≤ k := by rw [← hk]; exact hl.one
  have hk60 : k ≤ 60 := by rw [← hk]; exact hl.le
  have hT2 : 1 + (k + 15) / 16 + k = T := by rw [← hT, hk]; rfl
  have hsz := psize_any k (by omega)
  rw [show takes k = T from by rw [← hk]; exact hT] at hsz
  obtain ⟨J, hJ⟩ : ∃ J, (k + 15) / 16 = J := ⟨_, rfl⟩
  rw [hJ] at hT2
  have hls := plists_any k (by omega)
  rw [hJ] at hls
  have hop := opened_any m.num k
  obtain ⟨mv, Hmv⟩ : ∃ mv : List Value, Hid (mv = markCells m) := ⟨_, rfl⟩
  have hmk := make_pages T (by omega)
  have hz0 : (List.replicate T zeroPage).flatten = ((List.replicate T z64).flatten).map cu8 := by
    rw [List.map_flatten, List.map_replicate]; rfl
  rw [hz0] at hmk
  obtain ⟨cs0, Hcs0⟩ : ∃ cs0, Hid (cs0 = ((List.replicate T z64).flatten).map cu8) := ⟨_, rfl⟩
  rw [← Hcs0.out] at hmk
  unfold SectP
  rw [hT]
  rw [hk, ← Hmv.out]
  have HT := Lib.hid hT; have Hk := Lib.hid hk; have HJ := Lib.hid hJ
  have Hrange := Lib.hid hrange
  clear hT hk hrange hz0
  -- the box, the row of pages
  have hbA := ((Below.refl w.heap.size w).alloc (Nat.le_refl _) (.cells mv.toArray 25))
  have hxA : (w.alloc (.cells mv.toArray 25)).heap[w.heap.size]? = some (.cells mv.toArray 25 (0, 0)) := heap_alloc_new w _
  have hbB := hbA.alloc hbA.size (.cells cs0.toArray 63)
  have hrB : ((w.alloc (.cells mv.toArray 25)).alloc (.cells cs0.toArray 63)).heap[w.heap.size + 1]? = some (.cells cs0.toArray 63 (0, 0)) := by
    have := heap_alloc_new (w.alloc (.cells mv.toArray 25)) (.cells cs0.toArray 63)
    simpa using this
  have hxB : ((w.alloc (.cells mv.toArray 25)).alloc (.cells cs0.toArray 63)).heap[w.heap.size]? = some (.cells mv.toArray 25 (0, 0)) := by
    rw [Below.heap_alloc _ _ _ (by simp)]; exact hxA
  go_enter Tryd.func65, Tryd.ntmps65
  go_upto_region 3 with (go_at_call 44; refine (hsz _).mono ?_; rintro e w' ⟨rfl, rfl⟩)
  try simp only [World.size_alloc]
  clear hsz hmk hbA hxA
  generalize (w.alloc (.cells mv.toArray 25)).alloc (.cells cs0.toArray 63) = wa at hbB hrB hxB ⊢
  obtain ⟨b, hb⟩ : ∃ b, w.heap.size + 1 = b := ⟨_, rfl⟩
  obtain ⟨x, hx⟩ : ∃ x, w.heap.size = x := ⟨_, rfl⟩
  rw [hb] at hrB ⊢
  rw [hx] at hxB ⊢
  have hxb : x + 1 = b := by omega
  have Hx := Lib.hid hx
  clear hb hx
  rw [Hcs0.out] at hrB
  rw [Hmv.out] at hxB
  have hW0 : ScW b x m (List.replicate T z64) w wa := ⟨⟨hrB, fun p hp => by rw [(List.mem_replicate.1 hp).2]; exact z64_len⟩, hxB, hbB⟩
  have hblx : bl < x := by rw [← Hx.out]; exact hblN
  -- the opening
  have cN : wa.cell? ⟨x, 1, none⟩ = some (.int .u64 m.num) := by rw [cell_of_row wa x 1 _ _ _ hxB]; rfl
  clear hrB hxB hbB
  go_wp2_with (go_at_call 72; refine (hop _).mono ?_)
  rintro e w2 ⟨hv, Hv, rfl, hb2⟩
  clear cN hop
  have hW2 : ScW b x m (List.replicate T z64) w w2 := ⟨hW0.rec_.below hb2, (hb2.block x (Array.getElem?_eq_some_iff.1 hW0.box).1).trans hW0.box, hW0.bel.trans (hb2.mono hW0.bel.size)⟩
  have hvn : hv.size = 10 := by rw [Hv.out, List.size_toArray, List.length_map]; exact head10_length m.num k
  have hv1 : Hid (hv.all (·.oneCell') = true) := by rw [Hv.out]; exact bytes_one _
  have hi10 : Hid ((Tryd.prog.info? 153).map (·.size) = some hv.size) := by rw [hvn]; exact (by kernel_rfl : (Tryd.prog.info? 153).map (·.size) = some 10)
  have hz10 : Hid (z10.toArray.size = hv.size) := by rw [hvn]; exact (rfl : z10.toArray.size = 10)
  clear hW0 hb2 hvn
  go_upto_region 4 with (first
    | (refine wpList_alloc_arr rfl 153 rfl _ alloc10 ?_)
    | (refine wpList_store_new rfl 153 _ _ rfl w2.heap.size rfl hv rfl rfl 153 _ hi10.out hz10.out hv1.out ?_))
  have hb3 : Below w2.heap.size w2 (w2.alloc (.cells hv 153)) := (Below.refl _ _).alloc (Nat.le_refl _) _
  have hy3 : (w2.alloc (.cells hv 153)).heap[w2.heap.size]? = some (.cells hv 153 (0, 0)) := heap_alloc_new w2 _
  have hW3 : ScW b x m (List.replicate T z64) w (w2.alloc (.cells hv 153)) := ⟨hW2.rec_.below hb3, (hb3.block x (Array.getElem?_eq_some_iff.1 hW2.box).1).trans hW2.box, hW2.bel.trans (hb3.mono hW2.bel.size)⟩
  have hbl2 := hW2.rec_.lt
  generalize w2.alloc (.cells hv 153) = w3 at hW3 hy3 ⊢
  rw [Hv.out] at hy3
  obtain ⟨y, hy⟩ : ∃ y, w2.heap.size = y := ⟨_, rfl⟩
  rw [hy] at hy3 hbl2 ⊢
  clear hy hb3 hW2 hi10 hz10 hv1 Hv
  -- its copy
  refine wp_region_up 4 (fun w' => Below w3.heap.size w3 w') (by kernel_rfl) ?_
  have hb4 : Below w3.heap.size w3 { w3 with drawn := w3.drawn + 1 } := ⟨rfl, rfl, rfl, Nat.le_refl _, fun _ _ => rfl⟩
  obtain ⟨wd, hdr⟩ : ∃ wd : World, ({ w3 with drawn := w3.drawn + 1 } : World) = wd := ⟨_, rfl⟩
  rw [hdr] at hb4 ⊢
  have hW4 : ScW b x m (List.replicate T z64) w wd := ⟨hW3.rec_.below hb4, (hb4.block x (Array.getElem?_eq_some_iff.1 hW3.box).1).trans hW3.box, hW3.bel.trans (hb4.mono hW3.bel.size)⟩
  have hy4 := (hb4.block y (Array.getElem?_eq_some_iff.1 hy3).1).trans hy3
  have hT1 : 1 ≤ T := by omega
  have hT0 : ¬ T = 0 := by omega
  have hflen : ((List.replicate T z64).flatten.map cu8).length = T * 64 := by rw [List.length_map, flat_len hW4.rec_.len, List.length_replicate]
  clear hdr hW3 hy3
  refine up_take (i := 0) (v := .slice (some ⟨b, 0, none⟩) T T) rfl (by kernel_rfl) (by kernel_rfl) (fun _ _ _ h => h) (Or.inl ⟨by rfl, ?_⟩) hb4 ?_
  · intro w' _; go_simp
  try simp only [List.getElem_toArray, List.getElem_cons_succ, List.getElem_cons_zero, Act.put, List.setIfInBounds_toArray, List.set]
  refine up_take (i := 1) (v := .pointer (some ⟨b, 0, none⟩)) rfl (by kernel_rfl) (by kernel_rfl) (fun _ _ _ h => h) (Or.inl ⟨by rfl, ?_⟩) hb4 ?_
  · intro w' _; go_simp
  try simp only [List.getElem_toArray, List.getElem_cons_succ, List.getElem_cons_zero, Act.put, List.setIfInBounds_toArray, List.set]
  refine up_take (i := 2) (v := .slice (some ⟨b, 0, none⟩) 64 64) rfl (by kernel_rfl) (by kernel_rfl) (fun _ _ _ h => h) (Or.inl ⟨by rfl, ?_⟩) hb4 ?_
  · intro w' _; go_simp
  try simp only [List.getElem_toArray, List.getElem_cons_succ, List.getElem_cons_zero, Act.put, List.setIfInBounds_toArray, List.set]
  refine up_take (i := 3) (v := .slice (some ⟨y, 0, none⟩) 10 10) rfl (by kernel_rfl) (by kernel_rfl) (fun _ _ _ h => h) (Or.inl ⟨by rfl, ?_⟩) hb4 ?_
  · intro w' _; go_simp
  try simp only [List.getElem_toArray, List.getElem_cons_succ, List.getElem_cons_zero, Act.put, List.setIfInBounds_toArray, List.set]
  refine up_tail ?_
  refine up_last 4 _ rfl (by kernel_rfl) (by decide) (by rfl) (fun K hK => ?_)
  refine wp_copy_into rfl _ _ 122 122 rfl 5 Tryd.underlying122 (by kernel_rfl) b 0 64 64 ⟨y, 0, none⟩ 10 10 rfl rfl _ 63 hW4.rec_.at_ ((head10 m.num k).map cu8) (by rw [List.length_map, head10_length]; rfl) (byte_range hy4) (by rw [List.length_map, head10_length, hflen]; omega) (fun v hv => by obtain ⟨q, _, rfl⟩ := List.mem_map.1 hv; rfl) ?_
  intro w5 Hs5 Hg5
  refine hK _ _ ?_
  clear hK K
  try simp only [List.getElem_toArray, List.getElem_cons_succ, List.getElem_cons_zero, Act.put, List.setIfInBounds_toArray, List.set]
  refine up_done (by kernel_rfl) ?_ _
  have hW5 : ScW b x m (recK m l 0) w w5 := by
    refine ⟨⟨?_, recK_pages hl.what 0⟩, (Hg5.out.block x (Array.getElem?_eq_some_iff.1 hW4.box).1 (by simp; omega)).trans hW4.box, below_of_grown hW4.bel Hg5.out hW4.bel.size (by have := Hx.out; omega)⟩
    rw [Hs5.out]
    have e1 : splice ((List.replicate T z64).flatten.map cu8) 0 ((head10 m.num k).map cu8) = ((recK m l 0).flatten).map cu8 := by
      rw [splice_mapB]
      have e2 := splice_in (pgs := List.replicate T z64) hW4.rec_.len 0 (by rw [List.length_replicate]; exact hT1) 0 (head10 m.num k) (by rw [head10_length]; omega)
      rw [Nat.zero_mul, Nat.zero_add] at e2
      rw [e2, recK_zero, HT.out, Hk.out]
      obtain ⟨T', rfl⟩ : ∃ T', T = T' + 1 := ⟨T - 1, by omega⟩
      rw [List.replicate_succ, List.set_cons_zero, Nat.add_sub_cancel]
      congr 3
    rw [e1]
  clear hW4 hy4 hflen Hs5 Hg5 hb4
  go_wp2
  go_loopg [25] k (fun gg i wr => ∃ c : Nat, c ≤ k ∧ gg = k - c ∧ i = .int .i64 c ∧ ScW b x m (recK m l c) w wr)
  case atStart => exact ⟨0, by omega, rfl, rfl, hW5⟩
  case round =>
    clear hW5
    obtain ⟨c, hc, rfl, rfl, hW⟩ := hrel
    by_cases hlt : c < k
    · have hlt' : (c : Int) < k := by omega
      have hcl : c < l.length := by rw [Hk.out]; exact hlt
      obtain ⟨cc, hcc⟩ : ∃ cc, l[c]? = some cc := ⟨_, List.getElem?_eq_getElem hcl⟩
      have hccw : cc.what.length = 64 := hl.what _ (List.mem_of_getElem? hcc)
      have hcca : cc.at_ < 4294967296 := hl.at_ _ (List.mem_of_getElem? hcc)
      have hgc : l[c] = cc := by have := List.getElem?_eq_getElem hcl; rw [this] at hcc; exact Option.some.inj hcc
      have hnum := recK_num (m := m) hcl hl.what
      rw [hgc] at hnum
      have hwd : whatD l c = cc.what := by simp [whatD, hcc]
      have hwhat := recN_what (m := m) (l := l) (i := c)
      rw [hwd, Hk.out, HJ.out] at hwhat
      have hNp := recN_pages (m := m) (l := l) hl.what c
      have hKl := recK_length m l c
      rw [HT.out] at hKl
      have hNl : (recN m l c).length = T := by have := congrArg List.length hwhat; rw [List.length_set, recK_length, HT.out] at this; exact this
      obtain ⟨an, Han⟩ : ∃ an, Hid (cc.at_ = an) := ⟨_, rfl⟩
      rw [Han.out] at hcca hnum
      have hci := Hrange.out c cc hcc
      have Hci := Lib.hid (fun W (hW : Below w.heap.size w W) => fun (j : Nat) (v : Value) (hj : (chgC cc)[j]? = some v) => (hW.cell (p := ⟨bl, c * 65 + j, none⟩) hblN).trans (hci j v hj))
      clear hci hcc hgc hcl
      go_upto_region 8 with (fail)
      -- the number
      refine wp_region_up 9 (fun w' => Below wr.heap.size wr w') (by kernel_rfl) ?_
      have hb2 : Below wr.heap.size wr { wr with drawn := wr.drawn + 1 } := ⟨rfl, rfl, rfl, Nat.le_refl _, fun _ _ => rfl⟩
      obtain ⟨wd, hdr⟩ : ∃ wd : World, ({ wr with drawn := wr.drawn + 1 } : World) = wd := ⟨_, rfl⟩
      rw [hdr] at hb2 ⊢
      have hwdb := hW.bel
      have hWd : ScW b x m (recK m l c) w wd := ⟨hW.rec_.below hb2, (hb2.block x (Array.getElem?_eq_some_iff.1 hW.box).1).trans hW.box, hwdb.trans (hb2.mono hwdb.size)⟩
      have hnr := fun W => pnumber_any (b := b) T T c (by omega) (by omega) W
      have hat : ∀ W, Below wr.heap.size wr W → W.cell? ⟨bl, c * 65, none⟩ = some (.int .i64 an) := fun W hWW => by
        have := Hci.out W (hwdb.trans (hWW.mono hwdb.size)) 0 (.int .i64 cc.at_) rfl
        rw [Nat.add_zero, Han.out] at this; exact this
      have hu : IntKind.u64.wrap (an : Int) = (an : Int) := by rw [IntKind.wrap_u64]; omega
      have hput := put_any (w := wd) (g := b) (o := (1 + c / 16) * 64 + 4 * (c % 16)) (n := 4) (cap := 64 - 4 * (c % 16)) (x := an) hWd.rec_.at_ (by rw [List.length_map, flat_len hWd.rec_.len, hKl]; omega) (by omega)
      rw [splice_mapB, hnum] at hput
      have Hput := Lib.hid hput
      clear hdr hput hnum hW
      refine up_take (i := 0) (v := .slice (some ⟨b, 0, none⟩) T T) rfl (by kernel_rfl) (by kernel_rfl) (fun _ _ _ h => h) (Or.inl ⟨by rfl, ?_⟩) hb2 ?_
      · intro w' _; go_simp
      try simp only [List.getElem_toArray, List.getElem_cons_succ, List.getElem_cons_zero, Act.put, List.setIfInBounds_toArray, List.set]
      refine up_take (i := 1) (v := .int .i64 c) rfl (by kernel_rfl) (by kernel_rfl) (fun _ _ _ h => h) (Or.inl ⟨by rfl, ?_⟩) hb2 ?_
      · intro w' _; go_simp
      try simp only [List.getElem_toArray, List.getElem_cons_succ, List.getElem_cons_zero, Act.put, List.setIfInBounds_toArray, List.set]
      refine up_take (i := 3) (v := .slice (some ⟨bl, 0, none⟩) k cap) rfl (by kernel_rfl) (by kernel_rfl) (fun _ _ _ h => h) (Or.inl ⟨by rfl, ?_⟩) hb2 ?_
      · intro w' _; go_simp
      try simp only [List.getElem_toArray, List.getElem_cons_succ, List.getElem_cons_zero, Act.put, List.setIfInBounds_toArray, List.set]
      refine up_take (i := 4) (v := .int .i64 c) rfl (by kernel_rfl) (by kernel_rfl) (fun _ _ _ h => h) (Or.inl ⟨by rfl, ?_⟩) hb2 ?_
      · intro w' _; go_simp
      try simp only [List.getElem_toArray, List.getElem_cons_succ, List.getElem_cons_zero, Act.put, List.setIfInBounds_toArray, List.set]
      refine up_take (i := 5) (v := .pointer (some ⟨bl, c * 65, none⟩)) rfl (by kernel_rfl) (by kernel_rfl) (fun _ _ _ h => h) (Or.inl ⟨by rfl, ?_⟩) hb2 ?_
      · intro w' _; go_simp
      try simp only [List.getElem_toArray, List.getElem_cons_succ, List.getElem_cons_zero, Act.put, List.setIfInBounds_toArray, List.set]
      refine up_take (i := 6) (v := .pointer (some ⟨bl, c * 65, none⟩)) rfl (by kernel_rfl) (by kernel_rfl) (fun _ _ _ h => h) (Or.inl ⟨by rfl, ?_⟩) hb2 ?_
      · intro w' _; go_simp
      try simp only [List.getElem_toArray, List.getElem_cons_succ, List.getElem_cons_zero, Act.put, List.setIfInBounds_toArray, List.set]
      refine up_take (i := 7) (v := .int .i64 an) rfl (by kernel_rfl) (by kernel_rfl) (fun _ _ _ h => h) (Or.inl ⟨by rfl, ?_⟩) hb2 ?_
      · intro w' hS'
        have ha := hat w' hS'
        clear hS'
        go_simp
      try simp only [List.getElem_toArray, List.getElem_cons_succ, List.getElem_cons_zero, Act.put, List.setIfInBounds_toArray, List.set]
      refine up_take (i := 8) (v := .int .u64 an) rfl (by kernel_rfl) (by kernel_rfl) (fun _ _ _ h => h) (Or.inl ⟨by rfl, ?_⟩) hb2 ?_
      · intro w' _; go_simp
      try simp only [List.getElem_toArray, List.getElem_cons_succ, List.getElem_cons_zero, Act.put, List.setIfInBounds_toArray, List.set]
      refine up_one 2 _ rfl (by kernel_rfl) (by decide) (by rfl) (fun K hK => ?_)
      go_simp
      refine (hnr _).mono ?_
      rintro e w' ⟨rfl, rfl⟩
      refine hK _ _ hb2 ?_
      clear hK K
      try simp only [List.getElem_toArray, List.getElem_cons_succ, List.getElem_cons_zero, Act.put, List.setIfInBounds_toArray, List.set]
      refine up_tail ?_
      refine up_last 9 _ rfl (by kernel_rfl) (by decide) (by rfl) (fun K hK => ?_)
      go_simp
      refine Hput.out.mono ?_
      rintro e w5 ⟨rfl, hp5, hg5⟩
      refine hK _ _ ?_
      clear hK K
      try simp only [List.getElem_toArray, List.getElem_cons_succ, List.getElem_cons_zero, Act.put, List.setIfInBounds_toArray, List.set]
      refine up_done (by kernel_rfl) ?_ _
      have hW5 : ScW b x m (recN m l c) w w5 := ⟨⟨hp5, hNp⟩, (hg5.block x (Array.getElem?_eq_some_iff.1 hWd.box).1 (by simp; omega)).trans hWd.box, below_of_grown hWd.bel hg5 hWd.bel.size (by have := Hx.out; omega)⟩
      clear hp5 hg5 hWd hb2 hat Hput hnr hwdb
      -- the bytes
      go_upto_region 9 with (fail)
      have hwdb := hW5.bel
      refine wp_region_up 12 (fun w' => Below w5.heap.size w5 w') (by kernel_rfl) ?_
      have hb6 : Below w5.heap.size w5 { w5 with drawn := w5.drawn + 1 } := ⟨rfl, rfl, rfl, Nat.le_refl _, fun _ _ => rfl⟩
      obtain ⟨w6, hdr⟩ : ∃ w6 : World, ({ w5 with drawn := w5.drawn + 1 } : World) = w6 := ⟨_, rfl⟩
      rw [hdr] at hb6 ⊢
      have hW6 : ScW b x m (recN m l c) w w6 := ⟨hW5.rec_.below hb6, (hb6.block x (Array.getElem?_eq_some_iff.1 hW5.box).1).trans hW5.box, hwdb.trans (hb6.mono hwdb.size)⟩
      obtain ⟨wv, Hwv⟩ : ∃ wv : List Value, Hid (wv = cc.what.map cu8) := ⟨_, rfl⟩
      have hwvl : wv.length = 64 := by rw [Hwv.out, List.length_map, hccw]
      have hwvi : Hid ((Tryd.prog.info? 63).map (·.size) = some wv.length) := by rw [hwvl]; exact info64
      have hwvi2 : Hid ((Tryd.prog.info? 63).map (·.size) = some wv.toArray.size) := by rw [List.size_toArray, hwvl]; exact info64
      have HLd := Lib.hid (fun W (hWW : Below w5.heap.size w5 W) => run_loadAt_mid (P := Tryd.prog) W bl (c * 65 + 1) 63 wv _ (fun j v hj => by
        have := Hci.out W (hwdb.trans (hWW.mono hwdb.size)) (j + 1) v (by simp only [chgC, List.getElem?_cons_succ]; rw [← Hwv.out]; exact hj)
        rw [show c * 65 + 1 + j = c * 65 + (j + 1) from by omega]; exact this) Tryd.underlying63 rfl hwvi.out)
      have hfit : Hid ((1 + J + c) * 64 + wv.toArray.size ≤ ((recN m l c).flatten.map cu8).length) := by
        show (1 + J + c) * 64 + wv.toArray.size ≤ ((recN m l c).flatten.map cu8).length
        rw [List.length_map, flat_len hNp, hNl, List.size_toArray, hwvl]; omega
      have hone : Hid (∀ v ∈ wv.toArray.toList, v.oneCell' = true) := fun v hv => by rw [Hwv.out] at hv; obtain ⟨q, _, rfl⟩ := List.mem_map.1 (show v ∈ cc.what.map cu8 from hv); rfl
      have hspl : Hid (splice ((recN m l c).flatten.map cu8) ((1 + J + c) * 64) wv.toArray.toList = ((recK m l (c + 1)).flatten).map cu8) := by
        rw [List.toList_toArray, Hwv.out, splice_flat hNp (by rw [hNl]; omega) hccw, hwhat]; exact rfl
      have hiw1 : IntKind.i64.wrap (1 + (J : Int)) = 1 + (J : Int) := IntWalk.i64_in _ (by omega)
      have hiw2 : IntKind.i64.wrap (1 + (J : Int) + (c : Int)) = ((1 + J + c : Nat) : Int) := by rw [IntWalk.i64_in _ (by omega)]; omega
      have hi1 : (0 : Int) ≤ 1 + (J : Int) + (c : Int) := by omega
      have hi2 : 1 + (J : Int) + (c : Int) < (T : Int) := by omega
      have hi3 : (1 + (J : Int) + (c : Int)).toNat = 1 + J + c := by omega
      clear hdr hW5
      refine up_take (i := 0) (v := .slice (some ⟨b, 0, none⟩) T T) rfl (by kernel_rfl) (by kernel_rfl) (fun _ _ _ h => h) (Or.inl ⟨by rfl, ?_⟩) hb6 ?_
      · intro w' _; go_simp
      try simp only [List.getElem_toArray, List.getElem_cons_succ, List.getElem_cons_zero, Act.put, List.setIfInBounds_toArray, List.set]
      refine up_take (i := 1) (v := .int .i64 k) rfl (by kernel_rfl) (by kernel_rfl) (fun _ _ _ h => h) (Or.inl ⟨by rfl, ?_⟩) hb6 ?_
      · intro w' _; go_simp
      try simp only [List.getElem_toArray, List.getElem_cons_succ, List.getElem_cons_zero, Act.put, List.setIfInBounds_toArray, List.set]
      refine up_take (i := 4) (v := .int .i64 c) rfl (by kernel_rfl) (by kernel_rfl) (fun _ _ _ h => h) (Or.inl ⟨by rfl, ?_⟩) hb6 ?_
      · intro w' _; go_simp
      try simp only [List.getElem_toArray, List.getElem_cons_succ, List.getElem_cons_zero, Act.put, List.setIfInBounds_toArray, List.set]
      refine up_take (i := 6) (v := .slice (some ⟨bl, 0, none⟩) k cap) rfl (by kernel_rfl) (by kernel_rfl) (fun _ _ _ h => h) (Or.inl ⟨by rfl, ?_⟩) hb6 ?_
      · intro w' _; go_simp
      try simp only [List.getElem_toArray, List.getElem_cons_succ, List.getElem_cons_zero, Act.put, List.setIfInBounds_toArray, List.set]
      refine up_take (i := 7) (v := .int .i64 c) rfl (by kernel_rfl) (by kernel_rfl) (fun _ _ _ h => h) (Or.inl ⟨by rfl, ?_⟩) hb6 ?_
      · intro w' _; go_simp
      try simp only [List.getElem_toArray, List.getElem_cons_succ, List.getElem_cons_zero, Act.put, List.setIfInBounds_toArray, List.set]
      refine up_take (i := 8) (v := .pointer (some ⟨bl, c * 65, none⟩)) rfl (by kernel_rfl) (by kernel_rfl) (fun _ _ _ h => h) (Or.inl ⟨by rfl, ?_⟩) hb6 ?_
      · intro w' _; go_simp
      try simp only [List.getElem_toArray, List.getElem_cons_succ, List.getElem_cons_zero, Act.put, List.setIfInBounds_toArray, List.set]
      refine up_take (i := 9) (v := .pointer (some ⟨bl, c * 65 + 1, none⟩)) rfl (by kernel_rfl) (by kernel_rfl) (fun _ _ _ h => h) (Or.inl ⟨by rfl, ?_⟩) hb6 ?_
      · intro w' _; go_simp
      try simp only [List.getElem_toArray, List.getElem_cons_succ, List.getElem_cons_zero, Act.put, List.setIfInBounds_toArray, List.set]
      refine up_take (i := 10) (v := .agg wv.toArray) rfl (by kernel_rfl) (by kernel_rfl) (fun _ _ _ h => h) (Or.inl ⟨by rfl, ?_⟩) hb6 ?_
      · intro w' hS'; exact exec_load _ _ 63 _ rfl bl (c * 65 + 1) rfl _ (HLd.out w' hS')
      try simp only [List.getElem_toArray, List.getElem_cons_succ, List.getElem_cons_zero, Act.put, List.setIfInBounds_toArray, List.set]
      refine up_one 2 _ rfl (by kernel_rfl) (by decide) (by rfl) (fun K hK => ?_)
      go_simp
      refine (hls _).mono ?_
      rintro e w' ⟨rfl, rfl⟩
      refine hK _ _ hb6 ?_
      clear hK K
      try simp only [List.getElem_toArray, List.getElem_cons_succ, List.getElem_cons_zero, Act.put, List.setIfInBounds_toArray, List.set]
      refine up_take (i := 3) (v := .int .i64 (1 + (J : Int))) rfl (by kernel_rfl) (by kernel_rfl) (fun _ _ _ h => h) (Or.inl ⟨by rfl, ?_⟩) hb6 ?_
      · intro w' _; go_simp
      try simp only [List.getElem_toArray, List.getElem_cons_succ, List.getElem_cons_zero, Act.put, List.setIfInBounds_toArray, List.set]
      refine up_take (i := 5) (v := .int .i64 ((1 + J + c : Nat) : Int)) rfl (by kernel_rfl) (by kernel_rfl) (fun _ _ _ h => h) (Or.inl ⟨by rfl, ?_⟩) hb6 ?_
      · intro w' _; go_simp
      try simp only [List.getElem_toArray, List.getElem_cons_succ, List.getElem_cons_zero, Act.put, List.setIfInBounds_toArray, List.set]
      refine up_take (i := 11) (v := .pointer (some ⟨b, (1 + J + c) * 64, none⟩)) rfl (by kernel_rfl) (by kernel_rfl) (fun _ _ _ h => h) (Or.inl ⟨by rfl, ?_⟩) hb6 ?_
      · intro w' _; go_simp
      try simp only [List.getElem_toArray, List.getElem_cons_succ, List.getElem_cons_zero, Act.put, List.setIfInBounds_toArray, List.set]
      refine up_tail ?_
      refine up_last 12 _ rfl (by kernel_rfl) (by decide) (by rfl) (fun K hK => ?_)
      refine wp_store_into 63 _ _ rfl b ((1 + J + c) * 64) wv.toArray rfl rfl _ 63 hW6.rec_.at_ hwvi2.out hfit.out hone.out ?_
      intro w9 Hs9 Hg9
      refine hK _ _ ?_
      clear hK K
      try simp only [List.getElem_toArray, List.getElem_cons_succ, List.getElem_cons_zero, Act.put, List.setIfInBounds_toArray, List.set]
      refine up_done (by kernel_rfl) ?_ _
      have hW9 : ScW b x m (recK m l (c + 1)) w w9 := ⟨⟨by have := Hs9; rw [hspl.out] at this; exact this, recK_pages hl.what _⟩, (Hg9.block x (Array.getElem?_eq_some_iff.1 hW6.box).1 (by simp; omega)).trans hW6.box, below_of_grown hW6.bel Hg9 hW6.bel.size (by have := Hx.out; omega)⟩
      clear Hs9 Hg9 hW6 hb6 HLd hfit hone hspl hwdb hwvi hwvi2 hNp hwhat Hci hKl hNl hwd
      go_wp2
      go_roundg (k - (c + 1))
      case measure => omega
      case rel => exact ⟨c + 1, by omega, rfl, by go_num, hW9⟩
    · obtain rfl : c = k := by omega
      have hWr := hW.rec_
      rw [← Hk.out, recK_all] at hWr
      have hlr : (body l).length + 1 = T := by rw [body_length, HT.out]; omega
      have hdg := pdigest_any hWr T T hlr.symm (by omega) (by omega) (Nat.le_refl _) m.last hm
      have htx : m.last ++ ((pad64 (head10 m.num l.length)).take 10 ++ (body l).flatten) = textOf m l := by
        unfold textOf pad64
        rw [List.take_left' (head10_length _ _)]
      rw [htx] at hdg
      have hlr2 := mark_range hW.box
      obtain ⟨lv, Hlv⟩ : ∃ lv : List Value, Hid (lv = m.last.map cu8) := ⟨_, rfl⟩
      rw [← Hlv.out] at hdg hlr2
      have hlv : Hid ((Tryd.prog.info? 23).map (·.size) = some lv.length) := by rw [Hlv.out, List.length_map, hm]; exact (by kernel_rfl : (Tryd.prog.info? 23).map (·.size) = some 32)
      have Hlr2 := Lib.hid hlr2
      clear hlr2 htx
      go_wp2_with (first
        | (refine wpList_load_mid rfl 23 _ rfl x 2 rfl lv _ Hlr2.out Tryd.underlying23 rfl hlv.out ?_)
        | (go_at_call 74; refine hdg.mono ?_))
      rintro e w7 ⟨dv, Hdv, rfl, hb7⟩
      have hW7 : ScW b x m (recK m l l.length) w w7 := ⟨by rw [Hk.out]; exact hW.rec_.below hb7, (hb7.block x (Array.getElem?_eq_some_iff.1 hW.box).1).trans hW.box, hW.bel.trans (hb7.mono hW.bel.size)⟩
      have hdi := Lib.hid (show (Tryd.prog.info? 23).map (·.size) = some dv.size by rw [(dig_size Hdv).out]; kernel_rfl)
      have hdz : Hid (z32.toArray.size = dv.size) := by rw [(dig_size Hdv).out]; exact (rfl : z32.toArray.size = 32)
      clear hdg hW hWr Hlr2 hlv hb7
      go_upto_region 12 with (first
        | (refine wpList_alloc_arr rfl 23 rfl _ alloc32 ?_)
        | (refine wpList_store_new rfl 23 _ _ rfl w7.heap.size rfl dv rfl rfl 23 _ hdi.out hdz.out (dig_one Hdv).out ?_))
      have hb8 : Below w7.heap.size w7 (w7.alloc (.cells dv 23)) := (Below.refl _ _).alloc (Nat.le_refl _) _
      have hy8 : (w7.alloc (.cells dv 23)).heap[w7.heap.size]? = some (.cells dv 23 (0, 0)) := heap_alloc_new w7 _
      have hbl7 := hW7.rec_.lt
      have hW8 : ScW b x m (recK m l l.length) w (w7.alloc (.cells dv 23)) := ⟨hW7.rec_.below hb8, (hb8.block x (Array.getElem?_eq_some_iff.1 hW7.box).1).trans hW7.box, hW7.bel.trans (hb8.mono hW7.bel.size)⟩
      generalize w7.alloc (.cells dv 23) = w8 at hW8 hy8 ⊢
      rw [Hdv.out] at hy8
      obtain ⟨u, hu⟩ : ∃ u, w7.heap.size = u := ⟨_, rfl⟩
      rw [hu] at hy8 hbl7 ⊢
      clear hu hb8 hW7 hdi hdz Hdv
      refine wp_region_up 4 (fun w' => Below w8.heap.size w8 w') (by kernel_rfl) ?_
      have hb9 : Below w8.heap.size w8 { w8 with drawn := w8.drawn + 1 } := ⟨rfl, rfl, rfl, Nat.le_refl _, fun _ _ => rfl⟩
      obtain ⟨wd, hdr⟩ : ∃ wd : World, ({ w8 with drawn := w8.drawn + 1 } : World) = wd := ⟨_, rfl⟩
      rw [hdr] at hb9 ⊢
      have hW9 : ScW b x m (recK m l l.length) w wd := ⟨hW8.rec_.below hb9, (hb9.block x (Array.getElem?_eq_some_iff.1 hW8.box).1).trans hW8.box, hW8.bel.trans (hb9.mono hW8.bel.size)⟩
      have hy9 := (hb9.block u (Array.getElem?_eq_some_iff.1 hy8).1).trans hy8
      have hflen : ((recK m l l.length).flatten.map cu8).length = T * 64 := by rw [List.length_map, flat_len hW9.rec_.len, recK_length, HT.out]
      have hT1 : 1 ≤ T := by omega
      have hT0 : ¬ T = 0 := by omega
      have hdl := dig_len (textOf m l)
      have hdig := Lib.hid (rec_digest (m := m) hl.what)
      have hsl10 := fun W => run_sliceArr (P := Tryd.prog) 63 5 64 Tryd.underlying63 (by kernel_rfl) b 0 10 64 (by omega) (by omega) (by omega) W
      clear hdr hW8 hy8
      refine up_take (i := 0) (v := .slice (some ⟨b, 0, none⟩) T T) rfl (by kernel_rfl) (by kernel_rfl) (fun _ _ _ h => h) (Or.inl ⟨by rfl, ?_⟩) hb9 ?_
      · intro w' _; go_simp
      try simp only [List.getElem_toArray, List.getElem_cons_succ, List.getElem_cons_zero, Act.put, List.setIfInBounds_toArray, List.set]
      refine up_take (i := 1) (v := .pointer (some ⟨b, 0, none⟩)) rfl (by kernel_rfl) (by kernel_rfl) (fun _ _ _ h => h) (Or.inl ⟨by rfl, ?_⟩) hb9 ?_
      · intro w' _; go_simp
      try simp only [List.getElem_toArray, List.getElem_cons_succ, List.getElem_cons_zero, Act.put, List.setIfInBounds_toArray, List.set]
      refine up_take (i := 2) (v := .slice (some ⟨b, 10, none⟩) 54 54) rfl (by kernel_rfl) (by kernel_rfl) (fun _ _ _ h => h) (Or.inl ⟨by rfl, ?_⟩) hb9 ?_
      · intro w' _; go_simp
      try simp only [List.getElem_toArray, List.getElem_cons_succ, List.getElem_cons_zero, Act.put, List.setIfInBounds_toArray, List.set]
      refine up_take (i := 3) (v := .slice (some ⟨u, 0, none⟩) 32 32) rfl (by kernel_rfl) (by kernel_rfl) (fun _ _ _ h => h) (Or.inl ⟨by rfl, ?_⟩) hb9 ?_
      · intro w' _; go_simp
      try simp only [List.getElem_toArray, List.getElem_cons_succ, List.getElem_cons_zero, Act.put, List.setIfInBounds_toArray, List.set]
      refine up_tail ?_
      refine up_last 4 _ rfl (by kernel_rfl) (by decide) (by rfl) (fun K hK => ?_)
      refine wp_copy_into rfl _ _ 122 122 rfl 5 Tryd.underlying122 (by kernel_rfl) b 10 54 54 ⟨u, 0, none⟩ 32 32 rfl rfl _ 63 hW9.rec_.at_ ((dig (textOf m l)).map cu8) (by rw [List.length_map, hdl]; rfl) (byte_range hy9) (by rw [List.length_map, hdl, hflen]; omega) (fun v hv => by obtain ⟨q, _, rfl⟩ := List.mem_map.1 hv; rfl) ?_
      intro w5 Hs5 Hg5
      refine hK _ _ ?_
      clear hK K
      try simp only [List.getElem_toArray, List.getElem_cons_succ, List.getElem_cons_zero, Act.put, List.setIfInBounds_toArray, List.set]
      refine up_done (by kernel_rfl) ?_ _
      have hW5 : RecAt b (sectors m l) w5 := by
        refine ⟨?_, fun p hp => ?_⟩
        · rw [Hs5.out, splice_mapB, hdig.out]
        · rcases List.mem_cons.1 hp with rfl | hp
          · simp [firstOf, head10_length, dig_len]
          · exact body_pages hl p hp
      have hbel5 := below_of_grown hW9.bel Hg5.out hW9.bel.size (by have := Hx.out; omega)
      clear Hs5 Hg5 hW9 hy9 hflen hdig hb9
      go_wp2
      go_ret
      exact ⟨b, by have := Hx.out; omega, rfl, hW5, hbel5⟩
end
end Go.Proofs.YtegdlpllljccgaaDoor
