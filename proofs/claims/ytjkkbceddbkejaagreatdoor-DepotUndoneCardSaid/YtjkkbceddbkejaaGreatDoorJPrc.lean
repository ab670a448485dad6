import Derived.Test.YtjkkbceddbkejaaGreatDoorJPrb
set_option linter.unusedSimpArgs false
set_option linter.unusedVariables false
/-
  A record's pages as they are filled: plain lists.
-/
namespace Go.Proofs.YtjkkbceddbkejaaGreatDoor
open Go.RowKit Sh

def spliceB (p : List UInt8) (r : Nat) (bs : List UInt8) : List UInt8 := p.take r ++ bs ++ p.drop (r + bs.length)
theorem spliceB_length (p : List UInt8) (r : Nat) (bs : List UInt8) (h : r + bs.length ≤ p.length) : (spliceB p r bs).length = p.length := by
  simp only [spliceB, List.length_append, List.length_take, List.length_drop]; omega
theorem splice_mapB (p : List UInt8) (r : Nat) (bs : List UInt8) : splice (p.map cu8) r (bs.map cu8) = (spliceB p r bs).map cu8 := by
  simp [splice, spliceB]
theorem spliceB_append (p q : List UInt8) (r : Nat) (bs : List UInt8) (h : r + bs.length ≤ p.length) : spliceB (p ++ q) r bs = spliceB p r bs ++ q := by
  simp only [spliceB]
  rw [List.take_append_of_le_length (by omega), List.drop_append_of_le_length h]
  simp only [List.append_assoc]
theorem spliceB_skip (p q : List UInt8) (r : Nat) (bs : List UInt8) : spliceB (p ++ q) (p.length + r) bs = p ++ spliceB q r bs := by
  simp only [spliceB]
  rw [List.take_length_add_append, Nat.add_assoc, List.drop_length_add_append]
  simp only [List.append_assoc]
theorem splice_in : ∀ {pgs : List (List UInt8)} (_ : ∀ p ∈ pgs, p.length = 64) (k : Nat) (_ : k < pgs.length) (r : Nat) (bs : List UInt8) (_ : r + bs.length ≤ 64), spliceB pgs.flatten (k * 64 + r) bs = (pgs.set k (spliceB (pgs.getD k []) r bs)).flatten
  | [], _, k, hk, _, _, _ => by simp at hk
  | p :: ps, hP, 0, _, r, bs, hr => by
    rw [List.flatten_cons, Nat.zero_mul, Nat.zero_add, spliceB_append _ _ _ _ (by rw [hP p (by simp)]; exact hr)]
    simp
  | p :: ps, hP, k + 1, hk, r, bs, hr => by
    have ih := splice_in (pgs := ps) (fun q hq => hP q (by simp [hq])) k (by simpa using hk) r bs hr
    have hp := hP p (by simp)
    rw [List.flatten_cons, show (k + 1) * 64 + r = p.length + (k * 64 + r) from by rw [hp]; omega, spliceB_skip, ih]
    simp
def whatD (l : List Chg) (c : Nat) : List UInt8 := (l.map (·.what)).getD c []
def z64 : List UInt8 := List.replicate 64 0
theorem z64_len : z64.length = 64 := List.length_replicate
/-- A record's pages, of which i changes are filled in, and no digest. -/
def recK (m : Mk) (l : List Chg) (i : Nat) : List (List UInt8) :=
  pad64 (head10 m.num l.length) :: ((List.range ((l.length + 15) / 16)).map (numsPage (l.take i)) ++ midL (whatD l) z64 l.length i)
theorem recK_length (m : Mk) (l : List Chg) (i : Nat) : (recK m l i).length = takes l.length := by
  simp only [recK, List.length_cons, List.length_append, List.length_map, List.length_range, midL_length, takes]; omega
theorem pad64_len {p : List UInt8} (h : p.length ≤ 64) : (pad64 p).length = 64 := by simp [pad64]; omega
theorem whatD_len {l : List Chg} (h : ∀ c ∈ l, c.what.length = 64) {c : Nat} (hc : c < l.length) : (whatD l c).length = 64 := by
  simp [whatD, hc]; exact h _ (List.getElem_mem hc)
theorem recK_pages {m : Mk} {l : List Chg} (h : ∀ c ∈ l, c.what.length = 64) (i : Nat) : ∀ p ∈ recK m l i, p.length = 64 := fun p hp => by
  rcases List.mem_cons.1 hp with rfl | hp
  · exact pad64_len (by rw [head10_length]; omega)
  · rcases List.mem_append.1 hp with hp | hp
    · obtain ⟨q, _, rfl⟩ := List.mem_map.1 hp; exact numsPage_length _ _
    · obtain ⟨c, hc, rfl⟩ := List.mem_map.1 hp
      split
      · exact whatD_len h (List.mem_range.1 hc)
      · exact z64_len
theorem recK_zero (m : Mk) (l : List Chg) : recK m l 0 = pad64 (head10 m.num l.length) :: List.replicate (takes l.length - 1) z64 := by
  unfold recK
  rw [midL_zero]
  have e : (List.range ((l.length + 15) / 16)).map (numsPage (l.take 0)) = List.replicate ((l.length + 15) / 16) z64 := by
    apply List.ext_getElem (by simp)
    intro q h1 h2
    rw [List.getElem_map, List.getElem_replicate]
    simp [numsPage, pad64, z64]
  rw [e, List.replicate_append_replicate]
  congr 2
  unfold takes; omega
theorem recK_all (m : Mk) (l : List Chg) : recK m l l.length = pad64 (head10 m.num l.length) :: body l := by
  unfold recK body
  rw [midL_all, List.take_length]
  congr 2
  apply List.ext_getElem (by simp)
  intro c h1 h2
  simp [whatD]
  have : c < l.length := by simpa using h2
  simp [this]
theorem nums_step {l : List Chg} {i : Nat} (hi : i < l.length) : (List.range ((l.length + 15) / 16)).map (numsPage (l.take (i + 1))) =
    ((List.range ((l.length + 15) / 16)).map (numsPage (l.take i))).set (i / 16) (spliceB (numsPage (l.take i) (i / 16)) (4 * (i % 16)) (le4 (l[i]).at_)) := by
  apply List.ext_getElem (by simp)
  intro q h1 h2
  have hq : q < (l.length + 15) / 16 := by simpa using h1
  rw [List.getElem_set, List.getElem_map, List.getElem_map, List.getElem_range]
  have hsn : l.take (i + 1) = l.take i ++ [l[i]] := by rw [List.take_succ_eq_append_getElem hi]
  by_cases e : i / 16 = q
  · rw [if_pos e, ← e]
    have hd : (l.take (i + 1)).drop (16 * (i / 16)) = (l.take i).drop (16 * (i / 16)) ++ [l[i]] := by
      rw [hsn, List.drop_append_of_le_length (by rw [List.length_take]; omega)]
    have hdl : ((l.take i).drop (16 * (i / 16))).length = i % 16 := by rw [List.length_drop, List.length_take]; omega
    have hx1 : ((l.take (i + 1)).drop (16 * (i / 16))).take 16 = (l.take i).drop (16 * (i / 16)) ++ [l[i]] := by
      rw [hd, List.take_of_length_le (by rw [List.length_append, hdl, List.length_singleton]; omega)]
    have hx2 : ((l.take i).drop (16 * (i / 16))).take 16 = (l.take i).drop (16 * (i / 16)) := List.take_of_length_le (by rw [hdl]; omega)
    unfold numsPage
    rw [hx1, hx2, List.flatMap_append]
    have hA := flatMap_le4_length ((l.take i).drop (16 * (i / 16)))
    rw [hdl] at hA
    generalize ((l.take i).drop (16 * (i / 16))).flatMap (fun c => le4 c.at_) = A at hA ⊢
    have h4 : (le4 (l[i]).at_).length = 4 := by simp [le4]
    simp only [List.flatMap_cons, List.flatMap_nil, List.append_nil]
    generalize le4 (l[i]).at_ = B at h4 ⊢
    unfold pad64 spliceB
    rw [← hA, List.take_left' rfl, h4, List.drop_length_add_append, List.drop_replicate, List.length_append, h4]
    congr 2
    try omega
  · rw [if_neg e]
    have hx : ((l.take (i + 1)).drop (16 * q)).take 16 = ((l.take i).drop (16 * q)).take 16 := by
      by_cases hlt : q < i / 16
      · rw [hsn, List.drop_append_of_le_length (by rw [List.length_take]; omega), List.take_append_of_le_length (by rw [List.length_drop, List.length_take]; omega)]
      · rw [List.drop_of_length_le (by rw [List.length_take]; omega), List.drop_of_length_le (by rw [List.length_take]; omega)]
    unfold numsPage
    rw [hx]
/-- The number is put in. -/
def recN (m : Mk) (l : List Chg) (i : Nat) : List (List UInt8) :=
  pad64 (head10 m.num l.length) :: ((List.range ((l.length + 15) / 16)).map (numsPage (l.take (i + 1))) ++ midL (whatD l) z64 l.length i)
theorem recK_num {m : Mk} {l : List Chg} {i : Nat} (hi : i < l.length) (h : ∀ c ∈ l, c.what.length = 64) :
    spliceB (recK m l i).flatten ((1 + i / 16) * 64 + 4 * (i % 16)) (leN 4 (l[i]).at_) = (recN m l i).flatten := by
  rw [splice_in (recK_pages h i) (1 + i / 16) (by rw [recK_length]; unfold takes; omega) _ _ (by rw [leN_length]; omega), ← le4_eq]
  congr 1
  unfold recK recN
  have hq : i / 16 < (List.map (numsPage (l.take i)) (List.range ((l.length + 15) / 16))).length := by simp; omega
  rw [nums_step hi, Nat.add_comm 1, List.set_cons_succ, List.set_append_left _ _ hq]
  congr 3
  have hq2 : i / 16 < (l.length + 15) / 16 := by omega
  rw [List.getD_cons_succ, List.getD_eq_getElem?_getD, List.getElem?_append_left hq]
  simp [hq2]
theorem recN_pages {m : Mk} {l : List Chg} (h : ∀ c ∈ l, c.what.length = 64) (i : Nat) : ∀ p ∈ recN m l i, p.length = 64 := fun p hp => by
  rcases List.mem_cons.1 hp with rfl | hp
  · exact pad64_len (by rw [head10_length]; omega)
  · rcases List.mem_append.1 hp with hp | hp
    · obtain ⟨q, _, rfl⟩ := List.mem_map.1 hp; exact numsPage_length _ _
    · obtain ⟨c, hc, rfl⟩ := List.mem_map.1 hp
      split
      · exact whatD_len h (List.mem_range.1 hc)
      · exact z64_len
theorem recN_what {m : Mk} {l : List Chg} {i : Nat} : (recN m l i).set (1 + (l.length + 15) / 16 + i) (whatD l i) = recK m l (i + 1) := by
  unfold recN recK
  rw [show 1 + (l.length + 15) / 16 + i = ((l.length + 15) / 16 + i) + 1 from by omega, List.set_cons_succ, List.set_append_right _ _ (by simp)]
  simp only [List.length_map, List.length_range, Nat.add_sub_cancel_left]
  rw [midL_set]
/-- The digest is put in. -/
theorem rec_digest {m : Mk} {l : List Chg} (h : ∀ c ∈ l, c.what.length = 64) : spliceB (recK m l l.length).flatten 10 (dig (textOf m l)) = (sectors m l).flatten := by
  have := splice_in (recK_pages (m := m) h l.length) 0 (by rw [recK_length]; exact takes_pos _) 10 (dig (textOf m l)) (by rw [dig_len]; omega)
  rw [Nat.zero_mul, Nat.zero_add] at this
  rw [this, recK_all, List.set_cons_zero]
  unfold sectors firstOf
  congr 2
end Go.Proofs.YtjkkbceddbkejaaGreatDoor

/-
  The program's ring: sectors.
-/
namespace Go.Proofs.YtjkkbceddbkejaaGreatDoor
open Go.RowKit Sh

/-- 'copy' into a row that is known whole. -/
theorem wp_copy_into {P : Program} {o : Oper} {a : Act} {w : World} {K : Act → World → Prop} {Q : Exit → Act → World → Prop} (hgd : o.guard = none) (d s : Operand) (dT sT : TypeId)
    (ho : o.op = .call { callee := .builtin .copy, args := #[d, s], argTypes := #[dT, sT] }) (elem : TypeId) (hu : P.underlying dT = some (.slice elem)) (hsz : (P.info? elem).map (·.size) = some 1)
    (g off dLen dCap : Nat) (ad : Addr) (sLen sCap : Nat) (hd : a.eval d = .slice (some ⟨g, off, none⟩) dLen dCap) (hs : a.eval s = .slice (some ad) sLen sCap)
    (cur : List Value) (t : TypeId) (hg : w.heap[g]? = some (.cells cur.toArray t (0, 0))) (cs : List Value) (hn : cs.length = Nat.min sLen dLen)
    (hsrc : ∀ j v, cs[j]? = some v → w.cell? (ad.add j) = some v) (hfit : off + cs.length ≤ cur.length) (h1 : ∀ v ∈ cs, v.oneCell' = true)
    (h : ∀ w', Hid (w'.heap[g]? = some (.cells (splice cur off cs).toArray t (0, 0))) → Hid (w.grownBy w' (some g)) → K (a.put o.dst (goInt cs.length)) w') : Oper.wp P o a w K Q := by
  have := step_copy_into (P := P) (ops := #[]) (o := o) (a := a) (w := w) (K := K) (Q := Q) (E := True) hgd d s dT sT ho elem hu hsz g off dLen dCap ad sLen sCap hd hs cur t hg cs hn hsrc hfit h1 h
  have hw : Region.wanted o (yielded #[] a.tmps) = true := by simp [Region.wanted, hgd]
  rwa [if_pos hw] at this
structure ScW (b x : Nat) (m : Mk) (pgs : List (List UInt8)) (w wr : World) : Prop where
  rec_ : RecAt b pgs wr
  box : wr.heap[x]? = some (.cells (markCells m).toArray 156 (0, 0))
  bel : Below w.heap.size w wr
def SectP (m : Mk) (l : List Chg) (w : World) (e : Ending) (w' : World) : Prop :=
  ∃ b, w.heap.size ≤ b ∧ e = .returned (.slice (some ⟨b, 0, none⟩) (takes l.length) (takes l.length)) ∧ RecAt b (sectors m l) w' ∧ Below w.heap.size w w'
theorem byte_range {w : World} {g : Nat} {t : TypeId} {bs : List UInt8} (h : w.heap[g]? = some (.cells (bs.map cu8).toArray t (0, 0))) : ∀ (j : Nat) (v : Value), (bs.map cu8)[j]? = some v → w.cell? ((⟨g, 0, none⟩ : Addr).add j) = some v := fun j v hj => by
  have : (⟨g, 0, none⟩ : Addr).add j = ⟨g, 0 + j, none⟩ := by unfold Addr.add; split <;> simp_all
  rw [this, Nat.zero_add, cell_of_row w g j _ _ _ h]; simpa using hj
theorem mark_range {w : World} {x : Nat} {m : Mk} (h : w.heap[x]? = some (.cells (markCells m).toArray 156 (0, 0))) : w.rangeAt x 2 (m.last.map cu8) := fun j v hj => by
  rw [cell_of_row w x _ _ _ _ h, List.getElem?_toArray]
  simp only [markCells]
  rw [Nat.add_comm 2 j, List.getElem?_cons_succ, List.getElem?_cons_succ]
  exact hj
section
variable {w w' : World}
set_option maxRecDepth 100000 in
set_option maxHeartbeats 8000000 in
/-- sectors. -/
theorem sectors_any (m : Mk) (l : List Chg) (bp : Option Addr) (cap : Nat) (hl : Fit l) (hm : m.last.length = 32) (hC : Chgs w.heap.size w bp l) :
    Calls Tryz.prog 167 #[.agg (markCells m).toArray, .slice bp l.length cap] w (SectP m l w) := by
  obtain ⟨bl, rfl, hblN, hrange⟩ : ∃ b, bp = some ⟨b, 0, none⟩ ∧ b < w.heap.size ∧ ∀ i c, l[i]? = some c → w.rangeAt b (i * 65) (chgC c) := by
    rcases hC with h | h
    · have := hl.one; rw [h] at this; simp at this
    · exact h
  clear hC
  obtain ⟨k, hk⟩ : ∃ k, l.length = k := ⟨_, rfl⟩
  obtain ⟨T, hT⟩ : ∃ T, takes l.length = T := ⟨_, rfl⟩
  have hk1 : 1 ≤ k := by rw [← hk]; exact hl.one
  have hk60 : k ≤ 60 := by rw [← hk]; exact hl.le
  have hT2 : 1 + (k + 15) / 16 + k = T := by rw [← hT, hk]; rfl
  have hsz := psize_any k (by omega)
  rw [show takes k = T from by rw [← hk]; exact hT] at hsz
  obtain ⟨J, hJ⟩ : ∃ J, (k + 15) / 16 = J := ⟨_, rfl⟩
  rw [hJ] at hT2
  have hls := plists_any k (by omega)
  rw [hJ] at hls
  have hop := opened_any m.num k
  obtain ⟨mv, Hmv⟩ : ∃ mv : List Value, Hid (mv = markCells m) := ⟨_, rfl⟩
  have hmk := make_pages T (by omega)
  have hz0 : (List.replicate T zeroPage).flatten = ((List.replicate T z64).flatten).map cu8 := by
    rw [List.map_flatten, List.map_replicate]; rfl
  rw [hz0] at hmk
  obtain ⟨cs0, Hcs0⟩ : ∃ cs0, Hid (cs0 = ((List.replicate T z64).flatten).map cu8) := ⟨_, rfl⟩
  rw [← Hcs0.out] at hmk
  unfold SectP
  rw [hT]
  rw [hk, ← Hmv.out]
  have HT := Lib.hid hT; have Hk := Lib.hid hk; have HJ := Lib.hid hJ
  have Hrange := Lib.hid hrange
  clear hT hk hrange hz0
  -- the box, the row of pages
  have hbA := ((Below.refl w.heap.size w).alloc (Nat.le_refl _) (.cells mv.toArray 156))
  have hxA : (w.alloc (.cells mv.toArray 156)).heap[w.heap.size]? = some (.cells mv.toArray 156 (0, 0)) := heap_alloc_new w _
  have hbB := hbA.alloc hbA.size (.cells cs0.toArray 33)
  have hrB : ((w.alloc (.cells mv.toArray 156)).alloc (.cells cs0.toArray 33)).heap[w.heap.size + 1]? = some (.cells cs0.toArray 33 (0, 0)) := by
    have := heap_alloc_new (w.alloc (.cells mv.toArray 156)) (.cells cs0.toArray 33)
    simpa using this
  have hxB : ((w.alloc (.cells mv.toArray 156)).alloc (.cells cs0.toArray 33)).heap[w.heap.size]? = some (.cells mv.toArray 156 (0, 0)) := by
    rw [Below.heap_alloc _ _ _ (by simp)]; exact hxA
  go_enter Tryz.func167, Tryz.ntmps167
  go_upto_region 3 with (go_at_call 141; refine (hsz _).mono ?_; rintro e w' ⟨rfl, rfl⟩)
  try simp only [World.size_alloc]
  clear hsz hmk hbA hxA
  generalize (w.alloc (.cells mv.toArray 156)).alloc (.cells cs0.toArray 33) = wa at hbB hrB hxB ⊢
  obtain ⟨b, hb⟩ : ∃ b, w.heap.size + 1 = b := ⟨_, rfl⟩
  obtain ⟨x, hx⟩ : ∃ x, w.heap.size = x := ⟨_, rfl⟩
  rw [hb] at hrB ⊢
  rw [hx] at hxB ⊢
  have hxb : x + 1 = b := by omega
  have Hx := Lib.hid hx
  clear hb hx
  rw [Hcs0.out] at hrB
  rw [Hmv.out] at hxB
  have hW0 : ScW b x m (List.replicate T z64) w wa := ⟨⟨hrB, fun p hp => by rw [(List.mem_replicate.1 hp).2]; exact z64_len⟩, hxB, hbB⟩
  have hblx : bl < x := by rw [← Hx.out]; exact hblN
  -- the opening
  have cN : wa.cell? ⟨x, 1, none⟩ = some (.int .u64 m.num) := by rw [cell_of_row wa x 1 _ _ _ hxB]; rfl
  clear hrB hxB hbB
  go_wp2_with (go_at_call 147; refine (hop _).mono ?_)
  rintro e w2 ⟨hv, Hv, rfl, hb2⟩
  clear cN hop
  have hW2 : ScW b x m (List.replicate T z64) w w2 := ⟨hW0.rec_.below hb2, (hb2.block x (Array.getElem?_eq_some_iff.1 hW0.box).1).trans hW0.box, hW0.bel.trans (hb2.mono hW0.bel.size)⟩
  have hvn : hv.size = 10 := by rw [Hv.out, List.size_toArray, List.length_map]; exact head10_length m.num k
  have hv1 : Hid (hv.all (·.oneCell') = true) := by rw [Hv.out]; exact bytes_one _
  have hi10 : Hid ((Tryz.prog.info? 220).map (·.size) = some hv.size) := by rw [hvn]; exact (by kernel_rfl : (Tryz.prog.info? 220).map (·.size) = some 10)
  have hz10 : Hid (z10.toArray.size = hv.size) := by rw [hvn]; exact (rfl : z10.toArray.size = 10)
  clear hW0 hb2 hvn
  go_upto_region 4 with (first
    | (refine wpList_alloc_arr rfl 220 rfl _ alloc10 ?_)
    | (refine wpList_store_new rfl 220 _ _ rfl w2.heap.size rfl hv rfl rfl 220 _ hi10.out hz10.out hv1.out ?_))
  have hb3 : Below w2.heap.size w2 (w2.alloc (.cells hv 220)) := (Below.refl _ _).alloc (Nat.le_refl _) _
  have hy3 : (w2.alloc (.cells hv 220)).heap[w2.heap.size]? = some (.cells hv 220 (0, 0)) := heap_alloc_new w2 _
  have hW3 : ScW b x m (List.replicate T z64) w (w2.alloc (.cells hv 220)) := ⟨hW2.rec_.below hb3, (hb3.block x (Array.getElem?_eq_some_iff.1 hW2.box).1).trans hW2.box, hW2.bel.trans (hb3.mono hW2.bel.size)⟩
  have hbl2 := hW2.rec_.lt
  generalize w2.alloc (.cells hv 220) = w3 at hW3 hy3 ⊢
  rw [Hv.out] at hy3
  obtain ⟨y, hy⟩ : ∃ y, w2.heap.size = y := ⟨_, rfl⟩
  rw [hy] at hy3 hbl2 ⊢
  clear hy hb3 hW2 hi10 hz10 hv1 Hv
  -- its copy
  refine wp_region_up 4 (fun w' => Below w3.heap.size w3 w') (by kernel_rfl) ?_
  have hb4 : Below w3.heap.size w3 { w3 with drawn := w3.drawn + 1 } := ⟨rfl, rfl, rfl, Nat.le_refl _, fun _ _ => rfl⟩
  obtain ⟨wd, hdr⟩ : ∃ wd : World, ({ w3 with drawn := w3.drawn + 1 } : World) = wd := ⟨_, rfl⟩
  rw [hdr] at hb4 ⊢
  have hW4 : ScW b x m (List.replicate T z64) w wd := ⟨hW3.rec_.below hb4, (hb4.block x (Array.getElem?_eq_some_iff.1 hW3.box).1).trans hW3.box, hW3.bel.trans (hb4.mono hW3.bel.size)⟩
  have hy4 := (hb4.block y (Array.getElem?_eq_some_iff.1 hy3).1).trans hy3
  have hT1 : 1 ≤ T := by omega
  have hT0 : ¬ T = 0 := by omega
  have hflen : ((List.replicate T z64).flatten.map cu8).length = T * 64 := by rw [List.length_map, flat_len hW4.rec_.len, List.length_replicate]
  clear hdr hW3 hy3
  refine up_take (i := 0) (v := .slice (some ⟨b, 0, none⟩) T T) rfl (by kernel_rfl) (by kernel_rfl) (fun _ _ _ h => h) (Or.inl ⟨by rfl, ?_⟩) hb4 ?_
  · intro w' _; go_simp
  try simp only [List.getElem_toArray, List.getElem_cons_succ, List.getElem_cons_zero, Act.put, List.setIfInBounds_toArray, List.set]
  refine up_take (i := 1) (v := .pointer (some ⟨b, 0, none⟩)) rfl (by kernel_rfl) (by kernel_rfl) (fun _ _ _ h => h) (Or.inl ⟨by rfl, ?_⟩) hb4 ?_
  · intro w' _; go_simp
  try simp only [List.getElem_toArray, List.getElem_cons_succ, List.getElem_cons_zero, Act.put, List.setIfInBounds_toArray, List.set]
  refine up_take (i := 2) (v := .slice (some ⟨b, 0, none⟩) 64 64) rfl (by kernel_rfl) (by kernel_rfl) (fun _ _ _ h => h) (Or.inl ⟨by rfl, ?_⟩) hb4 ?_
  · intro w' _; go_simp
  try simp only [List.getElem_toArray, List.getElem_cons_succ, List.getElem_cons_zero, Act.put, List.setIfInBounds_toArray, List.set]
  refine up_take (i := 3) (v := .slice (some ⟨y, 0, none⟩) 10 10) rfl (by kernel_rfl) (by kernel_rfl) (fun _ _ _ h => h) (Or.inl ⟨by rfl, ?_⟩) hb4 ?_
  · intro w' _; go_simp
  try simp only [List.getElem_toArray, List.getElem_cons_succ, List.getElem_cons_zero, Act.put, List.setIfInBounds_toArray, List.set]
  refine up_tail ?_
  refine up_last 4 _ rfl (by kernel_rfl) (by decide) (by rfl) (fun K hK => ?_)
  refine wp_copy_into rfl _ _ 169 169 rfl 5 Tryz.underlying169 (by kernel_rfl) b 0 64 64 ⟨y, 0, none⟩ 10 10 rfl rfl _ 33 hW4.rec_.at_ ((head10 m.num k).map cu8) (by rw [List.length_map, head10_length]; rfl) (byte_range hy4) (by rw [List.length_map, head10_length, hflen]; omega) (fun v hv => by obtain ⟨q, _, rfl⟩ := List.mem_map.1 hv; rfl) ?_
  intro w5 Hs5 Hg5
  refine hK _ _ ?_
  clear hK K
  try simp only [List.getElem_toArray, List.getElem_cons_succ, List.getElem_cons_zero, Act.put, List.setIfInBounds_toArray, List.set]
  refine up_done (by kernel_rfl) ?_ _
  have hW5 : ScW b x m (recK m l 0) w w5 := by
    refine ⟨⟨?_, recK_pages hl.what 0⟩, (Hg5.out.block x (Array.getElem?_eq_some_iff.1 hW4.box).1 (by simp; omega)).trans hW4.box, below_of_grown hW4.bel Hg5.out hW4.bel.size (by have := Hx.out; omega)⟩
    rw [Hs5.out]
    have e1 : splice ((List.replicate T z64).flatten.map cu8) 0 ((head10 m.num k).map cu8) = ((recK m l 0).flatten).map cu8 := by
      rw [splice_mapB]
      have e2 := splice_in (pgs := List.replicate T z64) hW4.rec_.len 0 (by rw [List.length_replicate]; exact hT1) 0 (head10 m.num k) (by rw [head10_length]; omega)
      rw [Nat.zero_mul, Nat.zero_add] at e2
      rw [e2, recK_zero, HT.out, Hk.out]
      obtain ⟨T', rfl⟩ : ∃ T', T = T' + 1 := ⟨T - 1, by omega⟩
      rw [List.replicate_succ, List.set_cons_zero, Nat.add_sub_cancel]
      congr 3
    rw [e1]
  clear hW4 hy4 hflen Hs5 Hg5 hb4
  go_wp2
  go_loopg [25] k (fun gg i wr => ∃ c : Nat, c ≤ k ∧ gg = k - c ∧ i = .int .i64 c ∧ ScW b x m (recK m l c) w wr)
  case atStart => exact ⟨0, by omega, rfl, rfl, hW5⟩
  case round =>
    clear hW5
    obtain ⟨c, hc, rfl, rfl, hW⟩ := hrel
    by_cases hlt : c < k
    · have hlt' : (c : Int) < k := by omega
      have hcl : c < l.length := by rw [Hk.out]; exact hlt
      obtain ⟨cc, hcc⟩ : ∃ cc, l[c]? = some cc := ⟨_, List.getElem?_eq_getElem hcl⟩
      have hccw : cc.what.length = 64 := hl.what _ (List.mem_of_getElem? hcc)
      have hcca : cc.at_ < 4294967296 := hl.at_ _ (List.mem_of_getElem? hcc)
      have hgc : l[c] = cc := by have := List.getElem?_eq_getElem hcl; rw [this] at hcc; exact Option.some.inj hcc
      have hnum := recK_num (m := m) hcl hl.what
      rw [hgc] at hnum
      have hwd : whatD l c = cc.what := by simp [whatD, hcc]
      have hwhat := recN_what (m := m) (l := l) (i := c)
      rw [hwd, Hk.out, HJ.out] at hwhat
      have hNp := recN_pages (m := m) (l := l) hl.what c
      have hKl := recK_length m l c
      rw [HT.out] at hKl
      have hNl : (recN m l c).length = T := by have := congrArg List.length hwhat; rw [List.length_set, recK_length, HT.out] at this; exact this
      obtain ⟨an, Han⟩ : ∃ an, Hid (cc.at_ = an) := ⟨_, rfl⟩
      rw [Han.out] at hcca hnum
      have hci := Hrange.out c cc hcc
      have Hci := Lib.hid (fun W (hW : Below w.heap.size w W) => fun (j : Nat) (v : Value) (hj : (chgC cc)[j]? = some v) => (hW.cell (p := ⟨bl, c * 65 + j, none⟩) hblN).trans (hci j v hj))
      clear hci hcc hgc hcl
      go_upto_region 8 with (fail)
      -- the number
      refine wp_region_up 9 (fun w' => Below wr.heap.size wr w') (by kernel_rfl) ?_
      have hb2 : Below wr.heap.size wr { wr with drawn := wr.drawn + 1 } := ⟨rfl, rfl, rfl, Nat.le_refl _, fun _ _ => rfl⟩
      obtain ⟨wd, hdr⟩ : ∃ wd : World, ({ wr with drawn := wr.drawn + 1 } : World) = wd := ⟨_, rfl⟩
      rw [hdr] at hb2 ⊢
      have hwdb := hW.bel
      have hWd : ScW b x m (recK m l c) w wd := ⟨hW.rec_.below hb2, (hb2.block x (Array.getElem?_eq_some_iff.1 hW.box).1).trans hW.box, hwdb.trans (hb2.mono hwdb.size)⟩
      have hnr := fun W => pnumber_any (b := b) T T c (by omega) (by omega) W
      have hat : ∀ W, Below wr.heap.size wr W → W.cell? ⟨bl, c * 65, none⟩ = some (.int .i64 an) := fun W hWW => by
        have := Hci.out W (hwdb.trans (hWW.mono hwdb.size)) 0 (.int .i64 cc.at_) rfl
        rw [Nat.add_zero, Han.out] at this; exact this
      have hu : IntKind.u64.wrap (an : Int) = (an : Int) := by rw [IntKind.wrap_u64]; omega
      have hput := put_any (w := wd) (g := b) (o := (1 + c / 16) * 64 + 4 * (c % 16)) (n := 4) (cap := 64 - 4 * (c % 16)) (x := an) hWd.rec_.at_ (by rw [List.length_map, flat_len hWd.rec_.len, hKl]; omega) (by omega)
      rw [splice_mapB, hnum] at hput
      have Hput := Lib.hid hput
      clear hdr hput hnum hW
      refine up_take (i := 0) (v := .slice (some ⟨b, 0, none⟩) T T) rfl (by kernel_rfl) (by kernel_rfl) (fun _ _ _ h => h) (Or.inl ⟨by rfl, ?_⟩) hb2 ?_
      · intro w' _; go_simp
      try simp only [List.getElem_toArray, List.getElem_cons_succ, List.getElem_cons_zero, Act.put, List.setIfInBounds_toArray, List.set]
      refine up_take (i := 1) (v := .int .i64 c) rfl (by kernel_rfl) (by kernel_rfl) (fun _ _ _ h => h) (Or.inl ⟨by rfl, ?_⟩) hb2 ?_
      · intro w' _; go_simp
      try simp only [List.getElem_toArray, List.getElem_cons_succ, List.getElem_cons_zero, Act.put, List.setIfInBounds_toArray, List.set]
      refine up_take (i := 3) (v := .slice (some ⟨bl, 0, none⟩) k cap) rfl (by kernel_rfl) (by kernel_rfl) (fun _ _ _ h => h) (Or.inl ⟨by rfl, ?_⟩) hb2 ?_
      · intro w' _; go_simp
      try simp only [List.getElem_toArray, List.getElem_cons_succ, List.getElem_cons_zero, Act.put, List.setIfInBounds_toArray, List.set]
      refine up_take (i := 4) (v := .int .i64 c) rfl (by kernel_rfl) (by kernel_rfl) (fun _ _ _ h => h) (Or.inl ⟨by rfl, ?_⟩) hb2 ?_
      · intro w' _; go_simp
      try simp only [List.getElem_toArray, List.getElem_cons_succ, List.getElem_cons_zero, Act.put, List.setIfInBounds_toArray, List.set]
      refine up_take (i := 5) (v := .pointer (some ⟨bl, c * 65, none⟩)) rfl (by kernel_rfl) (by kernel_rfl) (fun _ _ _ h => h) (Or.inl ⟨by rfl, ?_⟩) hb2 ?_
      · intro w' _; go_simp
      try simp only [List.getElem_toArray, List.getElem_cons_succ, List.getElem_cons_zero, Act.put, List.setIfInBounds_toArray, List.set]
      refine up_take (i := 6) (v := .pointer (some ⟨bl, c * 65, none⟩)) rfl (by kernel_rfl) (by kernel_rfl) (fun _ _ _ h => h) (Or.inl ⟨by rfl, ?_⟩) hb2 ?_
      · intro w' _; go_simp
      try simp only [List.getElem_toArray, List.getElem_cons_succ, List.getElem_cons_zero, Act.put, List.setIfInBounds_toArray, List.set]
      refine up_take (i := 7) (v := .int .i64 an) rfl (by kernel_rfl) (by kernel_rfl) (fun _ _ _ h => h) (Or.inl ⟨by rfl, ?_⟩) hb2 ?_
      · intro w' hS'
        have ha := hat w' hS'
        clear hS'
        go_simp
      try simp only [List.getElem_toArray, List.getElem_cons_succ, List.getElem_cons_zero, Act.put, List.setIfInBounds_toArray, List.set]
      refine up_take (i := 8) (v := .int .u64 an) rfl (by kernel_rfl) (by kernel_rfl) (fun _ _ _ h => h) (Or.inl ⟨by rfl, ?_⟩) hb2 ?_
      · intro w' _; go_simp
      try simp only [List.getElem_toArray, List.getElem_cons_succ, List.getElem_cons_zero, Act.put, List.setIfInBounds_toArray, List.set]
      refine up_one 2 _ rfl (by kernel_rfl) (by decide) (by rfl) (fun K hK => ?_)
      go_simp
      refine (hnr _).mono ?_
      rintro e w' ⟨rfl, rfl⟩
      refine hK _ _ hb2 ?_
      clear hK K
      try simp only [List.getElem_toArray, List.getElem_cons_succ, List.getElem_cons_zero, Act.put, List.setIfInBounds_toArray, List.set]
      refine up_tail ?_
      refine up_last 9 _ rfl (by kernel_rfl) (by decide) (by rfl) (fun K hK => ?_)
      go_simp
      refine Hput.out.mono ?_
      rintro e w5 ⟨rfl, hp5, hg5⟩
      refine hK _ _ ?_
      clear hK K
      try simp only [List.getElem_toArray, List.getElem_cons_succ, List.getElem_cons_zero, Act.put, List.setIfInBounds_toArray, List.set]
      refine up_done (by kernel_rfl) ?_ _
      have hW5 : ScW b x m (recN m l c) w w5 := ⟨⟨hp5, hNp⟩, (hg5.block x (Array.getElem?_eq_some_iff.1 hWd.box).1 (by simp; omega)).trans hWd.box, below_of_grown hWd.bel hg5 hWd.bel.size (by have := Hx.out; omega)⟩
      clear hp5 hg5 hWd hb2 hat Hput hnr hwdb
      -- the bytes
      go_upto_region 9 with (fail)
      have hwdb := hW5.bel
      refine wp_region_up 12 (fun w' => Below w5.heap.size w5 w') (by kernel_rfl) ?_
      have hb6 : Below w5.heap.size w5 { w5 with drawn := w5.drawn + 1 } := ⟨rfl, rfl, rfl, Nat.le_refl _, fun _ _ => rfl⟩
      obtain ⟨w6, hdr⟩ : ∃ w6 : World, ({ w5 with drawn := w5.drawn + 1 } : World) = w6 := ⟨_, rfl⟩
      rw [hdr] at hb6 ⊢
      have hW6 : ScW b x m (recN m l c) w w6 := ⟨hW5.rec_.below hb6, (hb6.block x (Array.getElem?_eq_some_iff.1 hW5.box).1).trans hW5.box, hwdb.trans (hb6.mono hwdb.size)⟩
      obtain ⟨wv, Hwv⟩ : ∃ wv : List Value, Hid (wv = cc.what.map cu8) := ⟨_, rfl⟩
      have hwvl : wv.length = 64 := by rw [Hwv.out, List.length_map, hccw]
      have hwvi : Hid ((Tryz.prog.info? 33).map (·.size) = some wv.length) := by rw [hwvl]; exact info64
      have hwvi2 : Hid ((Tryz.prog.info? 33).map (·.size) = some wv.toArray.size) := by rw [List.size_toArray, hwvl]; exact info64
      have HLd := Lib.hid (fun W (hWW : Below w5.heap.size w5 W) => run_loadAt_mid (P := Tryz.prog) W bl (c * 65 + 1) 33 wv _ (fun j v hj => by
        have := Hci.out W (hwdb.trans (hWW.mono hwdb.size)) (j + 1) v (by simp only [chgC, List.getElem?_cons_succ]; rw [← Hwv.out]; exact hj)
        rw [show c * 65 + 1 + j = c * 65 + (j + 1) from by omega]; exact this) Tryz.underlying33 rfl hwvi.out)
      have hfit : Hid ((1 + J + c) * 64 + wv.toArray.size ≤ ((recN m l c).flatten.map cu8).length) := by
        show (1 + J + c) * 64 + wv.toArray.size ≤ ((recN m l c).flatten.map cu8).length
        rw [List.length_map, flat_len hNp, hNl, List.size_toArray, hwvl]; omega
      have hone : Hid (∀ v ∈ wv.toArray.toList, v.oneCell' = true) := fun v hv => by rw [Hwv.out] at hv; obtain ⟨q, _, rfl⟩ := List.mem_map.1 (show v ∈ cc.what.map cu8 from hv); rfl
      have hspl : Hid (splice ((recN m l c).flatten.map cu8) ((1 + J + c) * 64) wv.toArray.toList = ((recK m l (c + 1)).flatten).map cu8) := by
        rw [List.toList_toArray, Hwv.out, splice_flat hNp (by rw [hNl]; omega) hccw, hwhat]; exact rfl
      have hiw1 : IntKind.i64.wrap (1 + (J : Int)) = 1 + (J : Int) := IntWalk.i64_in _ (by omega)
      have hiw2 : IntKind.i64.wrap (1 + (J : Int) + (c : Int)) = ((1 + J + c : Nat) : Int) := by rw [IntWalk.i64_in _ (by omega)]; omega
      have hi1 : (0 : Int) ≤ 1 + (J : Int) + (c : Int) := by omega
      have hi2 : 1 + (J : Int) + (c : Int) < (T : Int) := by omega
      have hi3 : (1 + (J : Int) + (c : Int)).toNat = 1 + J + c := by omega
      clear hdr hW5
      refine up_take (i := 0) (v := .slice (some ⟨b, 0, none⟩) T T) rfl (by kernel_rfl) (by kernel_rfl) (fun _ _ _ h => h) (Or.inl ⟨by rfl, ?_⟩) hb6 ?_
      · intro w' _; go_simp
      try simp only [List.getElem_toArray, List.getElem_cons_succ, List.getElem_cons_zero, Act.put, List.setIfInBounds_toArray, List.set]
      refine up_take (i := 1) (v := .int .i64 k) rfl (by kernel_rfl) (by kernel_rfl) (fun _ _ _ h => h) (Or.inl ⟨by rfl, ?_⟩) hb6 ?_
      · intro w' _; go_simp
      try simp only [List.getElem_toArray, List.getElem_cons_succ, List.getElem_cons_zero, Act.put, List.setIfInBounds_toArray, List.set]
      refine up_take (i := 4) (v := .int .i64 c) rfl (by kernel_rfl) (by kernel_rfl) (fun _ _ _ h => h) (Or.inl ⟨by rfl, ?_⟩) hb6 ?_
      · intro w' _; go_simp
      try simp only [List.getElem_toArray, List.getElem_cons_succ, List.getElem_cons_zero, Act.put, List.setIfInBounds_toArray, List.set]
      refine up_take (i := 6) (v := .slice (some ⟨bl, 0, none⟩) k cap) rfl (by kernel_rfl) (by kernel_rfl) (fun _ _ _ h => h) (Or.inl ⟨by rfl, ?_⟩) hb6 ?_
      · intro w' _; go_simp
      try simp only [List.getElem_toArray, List.getElem_cons_succ, List.getElem_cons_zero, Act.put, List.setIfInBounds_toArray, List.set]
      refine up_take (i := 7) (v := .int .i64 c) rfl (by kernel_rfl) (by kernel_rfl) (fun _ _ _ h => h) (Or.inl ⟨by rfl, ?_⟩) hb6 ?_
      · intro w' _; go_simp
      try simp only [List.getElem_toArray, List.getElem_cons_succ, List.getElem_cons_zero, Act.put, List.setIfInBounds_toArray, List.set]
      refine up_take (i := 8) (v := .pointer (some ⟨bl, c * 65, none⟩)) rfl (by kernel_rfl) (by kernel_rfl) (fun _ _ _ h => h) (Or.inl ⟨by rfl, ?_⟩) hb6 ?_
      · intro w' _; go_simp
      try simp only [List.getElem_toArray, List.getElem_cons_succ, List.getElem_cons_zero, Act.put, List.setIfInBounds_toArray, List.set]
      refine up_take (i := 9) (v := .pointer (some ⟨bl, c * 65 + 1, none⟩)) rfl (by kernel_rfl) (by kernel_rfl) (fun _ _ _ h => h) (Or.inl ⟨by rfl, ?_⟩) hb6 ?_
      · intro w' _; go_simp
      try simp only [List.getElem_toArray, List.getElem_cons_succ, List.getElem_cons_zero, Act.put, List.setIfInBounds_toArray, List.set]
      refine up_take (i := 10) (v := .agg wv.toArray) rfl (by kernel_rfl) (by kernel_rfl) (fun _ _ _ h => h) (Or.inl ⟨by rfl, ?_⟩) hb6 ?_
      · intro w' hS'; exact exec_load _ _ 33 _ rfl bl (c * 65 + 1) rfl _ (HLd.out w' hS')
      try simp only [List.getElem_toArray, List.getElem_cons_succ, List.getElem_cons_zero, Act.put, List.setIfInBounds_toArray, List.set]
      refine up_one 2 _ rfl (by kernel_rfl) (by decide) (by rfl) (fun K hK => ?_)
      go_simp
      refine (hls _).mono ?_
      rintro e w' ⟨rfl, rfl⟩
      refine hK _ _ hb6 ?_
      clear hK K
      try simp only [List.getElem_toArray, List.getElem_cons_succ, List.getElem_cons_zero, Act.put, List.setIfInBounds_toArray, List.set]
      refine up_take (i := 3) (v := .int .i64 (1 + (J : Int))) rfl (by kernel_rfl) (by kernel_rfl) (fun _ _ _ h => h) (Or.inl ⟨by rfl, ?_⟩) hb6 ?_
      · intro w' _; go_simp
      try simp only [List.getElem_toArray, List.getElem_cons_succ, List.getElem_cons_zero, Act.put, List.setIfInBounds_toArray, List.set]
      refine up_take (i := 5) (v := .int .i64 ((1 + J + c : Nat) : Int)) rfl (by kernel_rfl) (by kernel_rfl) (fun _ _ _ h => h) (Or.inl ⟨by rfl, ?_⟩) hb6 ?_
      · intro w' _; go_simp
      try simp only [List.getElem_toArray, List.getElem_cons_succ, List.getElem_cons_zero, Act.put, List.setIfInBounds_toArray, List.set]
      refine up_take (i := 11) (v := .pointer (some ⟨b, (1 + J + c) * 64, none⟩)) rfl (by kernel_rfl) (by kernel_rfl) (fun _ _ _ h => h) (Or.inl ⟨by rfl, ?_⟩) hb6 ?_
      · intro w' _; go_simp
      try simp only [List.getElem_toArray, List.getElem_cons_succ, List.getElem_cons_zero, Act.put, List.setIfInBounds_toArray, List.set]
      refine up_tail ?_
      refine up_last 12 _ rfl (by kernel_rfl) (by decide) (by rfl) (fun K hK => ?_)
      refine wp_store_into 33 _ _ rfl b ((1 + J + c) * 64) wv.toArray rfl rfl _ 33 hW6.rec_.at_ hwvi2.out hfit.out hone.out ?_
      intro w9 Hs9 Hg9
      refine hK _ _ ?_
      clear hK K
      try simp only [List.getElem_toArray, List.getElem_cons_succ, List.getElem_cons_zero, Act.put, List.setIfInBounds_toArray, List.set]
      refine up_done (by kernel_rfl) ?_ _
      have hW9 : ScW b x m (recK m l (c + 1)) w w9 := ⟨⟨by have := Hs9; rw [hspl.out] at this; exact this, recK_pages hl.what _⟩, (Hg9.block x (Array.getElem?_eq_some_iff.1 hW6.box).1 (by simp; omega)).trans hW6.box, below_of_grown hW6.bel Hg9 hW6.bel.size (by have := Hx.out; omega)⟩
      clear Hs9 Hg9 hW6 hb6 HLd hfit hone hspl hwdb hwvi hwvi2 hNp hwhat Hci hKl hNl hwd
      go_wp2
      go_roundg (k - (c + 1))
      case measure => omega
      case rel => exact ⟨c + 1, by omega, rfl, by go_num, hW9⟩
    · obtain rfl : c = k := by omega
      have hWr := hW.rec_
      rw [← Hk.out, recK_all] at hWr
      have hlr : (body l).length + 1 = T := by rw [body_length, HT.out]; omega
      have hdg := pdigest_any hWr T T hlr.symm (by omega) (by omega) (Nat.le_refl _) m.last hm
      have htx : m.last ++ ((pad64 (head10 m.num l.length)).take 10 ++ (body l).flatten) = textOf m l := by
        unfold textOf pad64
        rw [List.take_left' (head10_length _ _)]
      rw [htx] at hdg
      have hlr2 := mark_range hW.box
      obtain ⟨lv, Hlv⟩ : ∃ lv : List Value, Hid (lv = m.last.map cu8) := ⟨_, rfl⟩
      rw [← Hlv.out] at hdg hlr2
      have hlv : Hid ((Tryz.prog.info? 56).map (·.size) = some lv.length) := by rw [Hlv.out, List.length_map, hm]; exact (by kernel_rfl : (Tryz.prog.info? 56).map (·.size) = some 32)
      have Hlr2 := Lib.hid hlr2
      clear hlr2 htx
      go_wp2_with (first
        | (refine wpList_load_mid rfl 56 _ rfl x 2 rfl lv _ Hlr2.out Tryz.underlying56 rfl hlv.out ?_)
        | (go_at_call 149; refine hdg.mono ?_))
      rintro e w7 ⟨dv, Hdv, rfl, hb7⟩
      have hW7 : ScW b x m (recK m l l.length) w w7 := ⟨by rw [Hk.out]; exact hW.rec_.below hb7, (hb7.block x (Array.getElem?_eq_some_iff.1 hW.box).1).trans hW.box, hW.bel.trans (hb7.mono hW.bel.size)⟩
      have hdi := Lib.hid (show (Tryz.prog.info? 56).map (·.size) = some dv.size by rw [(dig_size Hdv).out]; kernel_rfl)
      have hdz : Hid (z32.toArray.size = dv.size) := by rw [(dig_size Hdv).out]; exact (rfl : z32.toArray.size = 32)
      clear hdg hW hWr Hlr2 hlv hb7
      go_upto_region 12 with (first
        | (refine wpList_alloc_arr rfl 56 rfl _ alloc32 ?_)
        | (refine wpList_store_new rfl 56 _ _ rfl w7.heap.size rfl dv rfl rfl 56 _ hdi.out hdz.out (dig_one Hdv).out ?_))
      have hb8 : Below w7.heap.size w7 (w7.alloc (.cells dv 56)) := (Below.refl _ _).alloc (Nat.le_refl _) _
      have hy8 : (w7.alloc (.cells dv 56)).heap[w7.heap.size]? = some (.cells dv 56 (0, 0)) := heap_alloc_new w7 _
      have hbl7 := hW7.rec_.lt
      have hW8 : ScW b x m (recK m l l.length) w (w7.alloc (.cells dv 56)) := ⟨hW7.rec_.below hb8, (hb8.block x (Array.getElem?_eq_some_iff.1 hW7.box).1).trans hW7.box, hW7.bel.trans (hb8.mono hW7.bel.size)⟩
      generalize w7.alloc (.cells dv 56) = w8 at hW8 hy8 ⊢
      rw [Hdv.out] at hy8
      obtain ⟨u, hu⟩ : ∃ u, w7.heap.size = u := ⟨_, rfl⟩
      rw [hu] at hy8 hbl7 ⊢
      clear hu hb8 hW7 hdi hdz Hdv
      refine wp_region_up 4 (fun w' => Below w8.heap.size w8 w') (by kernel_rfl) ?_
      have hb9 : Below w8.heap.size w8 { w8 with drawn := w8.drawn + 1 } := ⟨rfl, rfl, rfl, Nat.le_refl _, fun _ _ => rfl⟩
      obtain ⟨wd, hdr⟩ : ∃ wd : World, ({ w8 with drawn := w8.drawn + 1 } : World) = wd := ⟨_, rfl⟩
      rw [hdr] at hb9 ⊢
      have hW9 : ScW b x m (recK m l l.length) w wd := ⟨hW8.rec_.below hb9, (hb9.block x (Array.getElem?_eq_some_iff.1 hW8.box).1).trans hW8.box, hW8.bel.trans (hb9.mono hW8.bel.size)⟩
      have hy9 := (hb9.block u (Array.getElem?_eq_some_iff.1 hy8).1).trans hy8
      have hflen : ((recK m l l.length).flatten.map cu8).length = T * 64 := by rw [List.length_map, flat_len hW9.rec_.len, recK_length, HT.out]
      have hT1 : 1 ≤ T := by omega
      have hT0 : ¬ T = 0 := by omega
      have hdl := dig_len (textOf m l)
      have hdig := Lib.hid (rec_digest (m := m) hl.what)
      have hsl10 := fun W => run_sliceArr (P := Tryz.prog) 33 5 64 Tryz.underlying33 (by kernel_rfl) b 0 10 64 (by omega) (by omega) (by omega) W
      clear hdr hW8 hy8
      refine up_take (i := 0) (v := .slice (some ⟨b, 0, none⟩) T T) rfl (by kernel_rfl) (by kernel_rfl) (fun _ _ _ h => h) (Or.inl ⟨by rfl, ?_⟩) hb9 ?_
      · intro w' _; go_simp
      try simp only [List.getElem_toArray, List.getElem_cons_succ, List.getElem_cons_zero, Act.put, List.setIfInBounds_toArray, List.set]
      refine up_take (i := 1) (v := .pointer (some ⟨b, 0, none⟩)) rfl (by kernel_rfl) (by kernel_rfl) (fun _ _ _ h => h) (Or.inl ⟨by rfl, ?_⟩) hb9 ?_
      · intro w' _; go_simp
      try simp only [List.getElem_toArray, List.getElem_cons_succ, List.getElem_cons_zero, Act.put, List.setIfInBounds_toArray, List.set]
      refine up_take (i := 2) (v := .slice (some ⟨b, 10, none⟩) 54 54) rfl (by kernel_rfl) (by kernel_rfl) (fun _ _ _ h => h) (Or.inl ⟨by rfl, ?_⟩) hb9 ?_
      · intro w' _; go_simp
      try simp only [List.getElem_toArray, List.getElem_cons_succ, List.getElem_cons_zero, Act.put, List.setIfInBounds_toArray, List.set]
      refine up_take (i := 3) (v := .slice (some ⟨u, 0, none⟩) 32 32) rfl (by kernel_rfl) (by kernel_rfl) (fun _ _ _ h => h) (Or.inl ⟨by rfl, ?_⟩) hb9 ?_
      · intro w' _; go_simp
      try simp only [List.getElem_toArray, List.getElem_cons_succ, List.getElem_cons_zero, Act.put, List.setIfInBounds_toArray, List.set]
      refine up_tail ?_
      refine up_last 4 _ rfl (by kernel_rfl) (by decide) (by rfl) (fun K hK => ?_)
      refine wp_copy_into rfl _ _ 169 169 rfl 5 Tryz.underlying169 (by kernel_rfl) b 10 54 54 ⟨u, 0, none⟩ 32 32 rfl rfl _ 33 hW9.rec_.at_ ((dig (textOf m l)).map cu8) (by rw [List.length_map, hdl]; rfl) (byte_range hy9) (by rw [List.length_map, hdl, hflen]; omega) (fun v hv => by obtain ⟨q, _, rfl⟩ := List.mem_map.1 hv; rfl) ?_
      intro w5 Hs5 Hg5
      refine hK _ _ ?_
      clear hK K
      try simp only [List.getElem_toArray, List.getElem_cons_succ, List.getElem_cons_zero, Act.put, List.setIfInBounds_toArray, List.set]
      refine up_done (by kernel_rfl) ?_ _
      have hW5 : RecAt b (sectors m l) w5 := by
        refine ⟨?_, fun p hp => ?_⟩
        · rw [Hs5.out, splice_mapB, hdig.out]
        · rcases List.mem_cons.1 hp with rfl | hp
          · simp [firstOf, head10_length, dig_len]
          · exact body_pages hl p hp
      have hbel5 := below_of_grown hW9.bel Hg5.out hW9.bel.size (by have := Hx.out; omega)
      clear Hs5 Hg5 hW9 hy9 hflen hdig hb9
      go_wp2
      go_ret
      exact ⟨b, by have := Hx.out; omega, rfl, hW5, hbel5⟩
end
end Go.Proofs.YtjkkbceddbkejaaGreatDoor

/-
  A record's sectors written to a disk, one behind the other, around.
-/
namespace Go.Proofs.YtjkkbceddbkejaaGreatDoor
open Go.RowKit Sh

def writesOf (first n : Nat) : St → Nat → List (List UInt8) → St × Int
  | S, _, [] => (S, 0)
  | S, pl, p :: ps => if (writeOf S ((first + pl % n : Nat) : Int) (p.map cu8)).2 = 0 then writesOf first n (writeOf S ((first + pl % n : Nat) : Int) (p.map cu8)).1 (pl + 1) ps else writeOf S ((first + pl % n : Nat) : Int) (p.map cu8)
theorem writesOf_firm (first n : Nat) : ∀ (ps : List (List UInt8)) (S : St) (pl : Nat), (writesOf first n S pl ps).1.firm = S.firm
  | [], _, _ => rfl
  | p :: ps, S, pl => by
    unfold writesOf
    split
    · rw [writesOf_firm first n ps, write_firm]
    · exact write_firm _ _ _
theorem writesOf_good (first n : Nat) : ∀ (ps : List (List UInt8)) (S : St) (pl : Nat), Good S → Good (writesOf first n S pl ps).1
  | [], _, _, h => h
  | p :: ps, S, pl, h => by
    unfold writesOf
    split
    · exact writesOf_good first n ps _ _ (good_write h _ _)
    · exact good_write h _ _
theorem writesOf_byt (first n : Nat) : ∀ (ps : List (List UInt8)) (S : St) (pl : Nat), (∀ p ∈ ps, p.length = 64) → Byt S → Byt (writesOf first n S pl ps).1
  | [], _, _, _, h => h
  | p :: ps, S, pl, hp, h => by
    have hb := byt_write h ((first + pl % n : Nat) : Int) (p := p.map cu8) ⟨p, hp p (by simp), rfl⟩
    unfold writesOf
    split
    · exact writesOf_byt first n ps _ _ (fun q hq => hp q (by simp [hq])) hb
    · exact hb
theorem writesOf_count (first n : Nat) : ∀ (ps : List (List UInt8)) (S : St) (pl : Nat), (writesOf first n S pl ps).1.ats.length ≤ S.ats.length + ps.length
  | [], _, _ => by simp [writesOf]
  | p :: ps, S, pl => by
    have := write_count S ((first + pl % n : Nat) : Int) (p.map cu8)
    unfold writesOf
    rw [List.length_cons]
    split
    · have := writesOf_count first n ps (writeOf S ((first + pl % n : Nat) : Int) (p.map cu8)).1 (pl + 1); omega
    · omega
/-- A disk that is on, with fuel without end. -/
structure Lit (S : St) : Prop where
  on : S.off = false
  fuel : S.fuel = -1
theorem lit_new (n : Nat) : Lit (newS n) := ⟨rfl, rfl⟩
theorem Lit.write {S : St} (h : Lit S) {i : Nat} (hi : i < S.firm.length) (p : List Value) : writeOf S (i : Int) p = ({ S with ats := S.ats ++ [(i : Int)], what := S.what ++ [p] }, 0) ∧ Lit (writeOf S (i : Int) p).1 := by
  have hi2 : ¬ ((i : Int) < 0 ∨ (S.firm.length : Int) ≤ (i : Int)) := by omega
  have hno : noWrite S.firm S.fuel S.off (i : Int) = none := by
    unfold noWrite
    rw [h.on, h.fuel, if_neg (by simp), if_neg hi2, if_neg (by omega)]
  have e : writeOf S (i : Int) p = ({ S with ats := S.ats ++ [(i : Int)], what := S.what ++ [p] }, 0) := by
    unfold writeOf
    rw [hno]
    simp only [h.fuel, stepS]
    have h1 := h.fuel; have h2 := h.on
    cases S
    simp_all
  exact ⟨e, by rw [e]; exact ⟨h.on, h.fuel⟩⟩
theorem imgB_write {S : St} (hG : Good S) {i : Nat} (p : List UInt8) : imgB { S with ats := S.ats ++ [(i : Int)], what := S.what ++ [p.map cu8] } = (imgB S).set i p := by
  have : ∀ (xs : List Int) (ys firm : List (List Value)), ys.length = xs.length → flushS firm (xs ++ [(i : Int)]) (ys ++ [p.map cu8]) = (flushS firm xs ys).set i (p.map cu8) := by
    intro xs
    induction xs with
    | nil => intro ys firm h; cases ys with
      | nil => simp [flushS]
      | cons => simp at h
    | cons a xs ih => intro ys firm h; cases ys with
      | nil => simp at h
      | cons q ys => simp only [List.cons_append, flushS]; exact ih ys _ (by simpa using h)
  unfold imgB St.newest
  show (flushS S.firm (S.ats ++ [(i : Int)]) (S.what ++ [p.map cu8])).map bytesOf = _
  rw [this _ _ _ hG.same, List.map_set, bytesOf_cu8]
/-- All sectors are written. -/
theorem writes_lit {first n : Nat} (hn : 0 < n) : ∀ (ps : List (List UInt8)) (S : St) (pl : Nat), Lit S → Good S → first + n ≤ S.firm.length →
    (writesOf first n S pl ps).2 = 0 ∧ Lit (writesOf first n S pl ps).1 ∧ imgB (writesOf first n S pl ps).1 = putAll first n (imgB S) pl ps ∧
    (writesOf first n S pl ps).1.ats = S.ats ++ (List.range ps.length).map fun i => ((first + (pl + i) % n : Nat) : Int)
  | [], S, pl, h, _, _ => ⟨rfl, h, rfl, by simp [writesOf]⟩
  | p :: ps, S, pl, h, hG, hin => by
    have hm := Nat.mod_lt pl hn
    obtain ⟨e, hl⟩ := h.write (i := first + pl % n) (by omega) (p.map cu8)
    have hG' := good_write hG ((first + pl % n : Nat) : Int) (p.map cu8)
    rw [e] at hl hG'
    unfold writesOf
    rw [e, if_pos rfl]
    obtain ⟨h1, h2, h3, h4⟩ := writes_lit hn ps _ (pl + 1) hl hG' (by exact hin)
    refine ⟨h1, h2, ?_, ?_⟩
    · rw [h3, imgB_write hG]; rfl
    · rw [h4, List.length_cons, List.range_succ_eq_map, List.map_cons, List.map_map, List.append_assoc]
      congr 1
      show _ :: _ = _
      rw [Nat.add_zero]
      congr 1
      apply List.map_congr_left
      intro i _
      show _ = ((first + (pl + (i + 1)) % n : Nat) : Int)
      rw [show pl + 1 + i = pl + (i + 1) from by omega]
end Go.Proofs.YtjkkbceddbkejaaGreatDoor

/-
  The program's ring: add.
-/
namespace Go.Proofs.YtjkkbceddbkejaaGreatDoor
open Go.RowKit Sh Go.Extern.Stop Go.Stop Go.Extern

structure AdW (g gd first n : Nat) (m : Mk) (used : Nat) (b : Nat) (pgs : List (List UInt8)) (S0 : St) (k : Nat) (F : Nat → Prop) (S : St) (G : Nat → Prop) (w1 wr : World) : Prop where
  ring : PrAt g gd first n m used wr
  rec_ : RecAt b pgs wr
  disk : PD S G gd wr
  good : Good S
  firm : S.firm = S0.firm
  cnt : S.ats.length ≤ S0.ats.length + k
  new : ∀ j, G j → F j ∨ w1.heap.size ≤ j
  only : Only F w1 wr
  eqn : writesOf first n S0 m.place pgs = writesOf first n S (m.place + k) (pgs.drop k)
/-- What add leaves. -/
def AddP (g gd first n : Nat) (m : Mk) (used : Nat) (m2 : Mk) (used2 : Nat) (r : St × Int) (F : Nat → Prop) (w : World) (e : Ending) (w' : World) : Prop :=
  ∃ v G, e = .returned v ∧ ErrV w' r.2 v ∧ PD r.1 G gd w' ∧ ((r.2 = 0 ∧ PrAt g gd first n m2 used2 w') ∨ (r.2 ≠ 0 ∧ PrAt g gd first n m used w')) ∧ Only (fun j => j = g ∨ F j) w w' ∧ ∀ j, G j → F j ∨ w.heap.size ≤ j
/-- In of an error. -/
def InP (n : Int) (w : World) (e : Ending) (w' : World) : Prop := ∃ v, e = .returned v ∧ ErrV w' n v ∧ Below w.heap.size w w'
theorem in_err (s : ByteArray) (n : Int) (v : Value) (w : World) (h : ErrV w n v) : Calls Tryz.prog 35 #[.string s, v] w (InP n w) := by
  rcases h with ⟨rfl, rfl⟩ | ⟨h0, ss, hC⟩
  · exact (in_nil s w).mono fun e w' ⟨he, hw⟩ => ⟨_, he, ErrV.nil, by rw [hw]; exact Below.refl _ _⟩
  · exact (in_more s n ss v w hC).mono fun e w' ⟨he, hc, hb⟩ => ⟨_, he, .inr ⟨h0, _, hc⟩, hb⟩
section
variable {g gd first n used : Nat} {m : Mk} {S : St} {F : Nat → Prop} {w w' : World}
set_option maxRecDepth 100000 in
set_option maxHeartbeats 8000000 in
/-- add: a record that fits. -/
theorem padd_fits (h : PrAt g gd first n m used w) (hO : RingOk first n m used) (hD : PD S F gd w) (hgF : ¬ F g) (hG : Good S) (hin : first + n ≤ S.firm.length) (hcnt : S.ats.length ≤ 1000000)
    (l : List Chg) (bp : Option Addr) (cap : Nat) (hl : Fit l) (hC : Chgs w.heap.size w bp l) (hfit : takes l.length ≤ n - used) :
    Calls Tryz.prog 143 #[.pointer (some ⟨g, 0, none⟩), .slice bp l.length cap] w
      (AddP g gd first n m used (endM n m l) (used + takes l.length) (writesOf first n S m.place (sectors m l)) F w) := by
  obtain ⟨k, hk⟩ : ∃ k, l.length = k := ⟨_, rfl⟩
  obtain ⟨T, hT⟩ : ∃ T, takes l.length = T := ⟨_, rfl⟩
  have hk1 : 1 ≤ k := by rw [← hk]; exact hl.one
  have hk60 : k ≤ 60 := by rw [← hk]; exact hl.le
  have hTk : takes k = T := by rw [← hk]; exact hT
  have hT65 : 3 ≤ T ∧ T ≤ 65 := by rw [← hTk]; unfold takes; omega
  rw [hT] at hfit ⊢
  have hyes : fitsB (n - used) k = true := (fitsB_iff _ _).2 ⟨hk1, hk60, by rw [hTk]; exact hfit⟩
  have Hft := Lib.hid (fun W (hW : Below w.heap.size w W) => by have := fits_any (h.below hW) hO k (by omega); rw [hyes] at this; exact this)
  have Hsc := Lib.hid (fun W (hW : Below w.heap.size w W) => by have := sectors_any m l bp cap hl h.last ((hC.below hW).mono hW.size); rw [hk] at this; exact this)
  have hmr := h.mark
  obtain ⟨mv, Hmv⟩ : ∃ mv : List Value, Hid (mv = markCells m) := ⟨_, rfl⟩
  have hmvl : mv.length = 34 := by rw [Hmv.out]; simp [markCells, h.last]
  have hmi : Hid ((Tryz.prog.info? 156).map (·.size) = some mv.length) := by rw [hmvl]; exact infoPMark
  rw [← Hmv.out] at hmr Hsc
  rw [hk]
  have Hk := Lib.hid hk; have HT := Lib.hid hT
  clear hk hT hmvl
  have hgl := h.lt
  have h1 : ¬ (k < 1) := by omega
  have h2 : ¬ (60 < k) := by omega
  go_enter Tryz.func143, Tryz.ntmps143
  go_wp2_with (first
    | (go_at_call 124; refine (Hft.out _ (Below.refl _ _)).mono ?_))
  rintro e w0 ⟨rfl, mq, rfl⟩
  have hb0 := below_drewN w mq w.heap.size
  generalize w.drewN mq = w0 at hb0 ⊢
  have Hmr := Lib.hid (show w0.rangeAt g 3 mv from fun j v hj => (hb0.cell (p := ⟨g, 3 + j, none⟩) hgl).trans (hmr j v hj))
  clear Hft hmr
  go_wp2_with (first
    | (refine wpList_load_mid rfl 156 _ rfl g 3 rfl mv _ Hmr.out Tryz.underlying156 rfl hmi.out ?_)
    | (go_at_call 167; refine (Hsc.out _ hb0).mono ?_))
  rintro e w1 ⟨b, hb, rfl, hr1, hb1'⟩
  have hb1 := hb0.trans (hb1'.mono hb0.size)
  have hs0 := hb0.size
  have hTT : takes l.length = T := HT.out
  rw [hTT]
  have hps : (sectors m l).length = T := by rw [sectors_length]; exact hTT
  have hA0 : AdW g gd first n m used b (sectors m l) S 0 F S F w1 w1 := ⟨h.below hb1, hr1, hD.below hb1, hG, rfl, by omega, fun j hj => .inl hj, Only.refl _ _, rfl⟩
  have hFlt : ∀ j, F j → j < w.heap.size := fun j hj => hD.lt hj
  obtain ⟨pgs, Hpgs⟩ : ∃ pgs, Hid (pgs = sectors m l) := ⟨_, rfl⟩
  rw [← Hpgs.out] at hA0 hps ⊢
  have Hps := Lib.hid hps
  have hbl1 := hr1.lt
  clear Hsc Hmr hmi hr1 hps hC h hb1'
  go_wp2
  go_loopg [35] T (fun gg i wr => ∃ c Sk Gk, c ≤ T ∧ gg = T - c ∧ i = .int .i64 (c : Nat) ∧ AdW g gd first n m used b pgs S c F Sk Gk w1 wr)
  case atStart => exact ⟨0, S, F, by omega, rfl, rfl, hA0⟩
  case round =>
    clear hA0
    obtain ⟨c, Sk, Gk, hc, rfl, rfl, hW⟩ := hrel
    by_cases hlt : c < T
    · have hlt' : (c : Int) < T := by omega
      obtain ⟨q, hq⟩ : ∃ q, pgs[c]? = some q := ⟨_, List.getElem?_eq_getElem (by rw [Hps.out]; exact hlt)⟩
      have hq64 : q.length = 64 := hW.rec_.len _ (List.mem_of_getElem? hq)
      have hr := hW.rec_.range hq 0 64 (by omega)
      rw [List.drop_zero, List.take_of_length_le (by omega), Nat.add_zero] at hr
      obtain ⟨qv, Hqv⟩ : ∃ qv : List Value, Hid (qv = q.map cu8) := ⟨_, rfl⟩
      rw [← Hqv.out] at hr
      have hqvl : qv.length = 64 := by rw [Hqv.out, List.length_map, hq64]
      have hqi : Hid ((Tryz.prog.info? 33).map (·.size) = some qv.length) := by rw [hqvl]; exact info64
      have hqi2 : Hid ((Tryz.prog.info? 33).map (·.size) = some qv.toArray.size) := by rw [List.size_toArray, hqvl]; exact info64
      have hqz : Hid (zeros64.size = qv.toArray.size) := by rw [show qv.toArray.size = 64 from by rw [List.size_toArray, hqvl]]; exact (rfl : zeros64.size = 64)
      have hq1 : Hid (qv.toArray.all (·.oneCell') = true) := by rw [Hqv.out]; exact bytes_one _
      have hqp : IsPage qv := by rw [Hqv.out]; exact bytes_page hq64
      have Hr := Lib.hid hr
      have hdrop : pgs.drop c = q :: pgs.drop (c + 1) := by
        obtain ⟨hcl, hcq⟩ := List.getElem?_eq_some_iff.1 hq
        rw [List.drop_eq_getElem_cons hcl, hcq]
      have heqn := hW.eqn
      rw [hdrop] at heqn
      unfold writesOf at heqn
      obtain ⟨Q, hQ⟩ : ∃ Q : Nat, first + (m.place + c) % n = Q := ⟨_, rfl⟩
      rw [hQ, ← Hqv.out] at heqn
      have Heqn : Hid (writesOf first n S m.place pgs = if (writeOf Sk (Q : Int) qv).2 = 0 then writesOf first n (writeOf Sk (Q : Int) qv).1 (m.place + c + 1) (pgs.drop (c + 1)) else writeOf Sk (Q : Int) qv) := by
        rw [← heqn]; cases pgs <;> rfl
      have hba : Below wr.heap.size wr (wr.alloc (.cells qv.toArray 33)) := (Below.refl _ _).alloc (Nat.le_refl _) _
      have hxa : (wr.alloc (.cells qv.toArray 33)).heap[wr.heap.size]? = some (.cells qv.toArray 33 (0, 0)) := heap_alloc_new wr _
      clear hr heqn hdrop
      go_upto_region 11 with (first
        | (refine wpList_alloc_arr rfl 33 rfl _ alloc64 ?_)
        | (refine wpList_load_mid rfl 33 _ rfl b (c * 64) rfl qv _ Hr.out Tryz.underlying33 rfl hqi.out ?_)
        | (refine wpList_store_new rfl 33 _ _ rfl wr.heap.size rfl qv.toArray rfl rfl 33 _ hqi2.out hqz.out hq1.out ?_))
      clear Hr hqi2 hqz hq1
      generalize wr.alloc (.cells qv.toArray 33) = wa at hba hxa ⊢
      obtain ⟨x, hx⟩ : ∃ x, wr.heap.size = x := ⟨_, rfl⟩
      rw [hx] at hxa ⊢
      have hring := hW.ring.below hba
      have hdisk := hW.disk.below hba
      refine wp_region_up 8 (fun w' => Below wa.heap.size wa w') (by kernel_rfl) ?_
      have hb2 : Below wa.heap.size wa { wa with drawn := wa.drawn + 1 } := ⟨rfl, rfl, rfl, Nat.le_refl _, fun _ _ => rfl⟩
      obtain ⟨wd, hdr⟩ : ∃ wd : World, ({ wa with drawn := wa.drawn + 1 } : World) = wd := ⟨_, rfl⟩
      rw [hdr] at hb2 ⊢
      clear hdr
      have HS := Lib.hid hring
      have HDk := Lib.hid hdisk
      have Hsec := Lib.hid (fun W (hW2 : Below wa.heap.size wa W) => by have := sector_any (hring.below hW2) hO c (by omega); rw [hQ] at this; exact this)
      have hgood := hW.good
      have hcount := hW.cnt
      have Hwr := Lib.hid (fun W (hW2 : Below wa.heap.size wa W) => pd_write (hdisk.below hW2) hgood (by omega) (Q : Int) qv hqp)
      have hxl : x < wa.heap.size := (Array.getElem?_eq_some_iff.1 hxa).1
      have HLd := Lib.hid (fun W (hW2 : Below wa.heap.size wa W) => run_loadAt_mid (P := Tryz.prog) W x 0 33 qv _ (fun j v hj => by
        rw [Nat.zero_add, cell_of_row W x j _ _ _ ((hW2.block x hxl).trans hxa)]; simpa using hj) Tryz.underlying33 rfl hqi.out)
      clear hring hdisk hQ hxa
      refine up_take (i := 0) (v := .pointer (some ⟨g, 0, none⟩)) rfl (by kernel_rfl) (by kernel_rfl) (fun _ _ _ h => h) (Or.inl ⟨by rfl, ?_⟩) hb2 ?_
      · intro w' _; go_simp
      try simp only [List.getElem_toArray, List.getElem_cons_succ, List.getElem_cons_zero, Act.put, List.setIfInBounds_toArray, List.set]
      refine up_take (i := 1) (v := .pointer (some ⟨g, 0, none⟩)) rfl (by kernel_rfl) (by kernel_rfl) (fun _ _ _ h => h) (Or.inl ⟨by rfl, ?_⟩) hb2 ?_
      · intro w' _; go_simp
      try simp only [List.getElem_toArray, List.getElem_cons_succ, List.getElem_cons_zero, Act.put, List.setIfInBounds_toArray, List.set]
      refine up_take (i := 2) (v := .pointer (some ⟨g, 0, none⟩)) rfl (by kernel_rfl) (by kernel_rfl) (fun _ _ _ h => h) (Or.inl ⟨by rfl, ?_⟩) hb2 ?_
      · intro w' _; go_simp
      try simp only [List.getElem_toArray, List.getElem_cons_succ, List.getElem_cons_zero, Act.put, List.setIfInBounds_toArray, List.set]
      refine up_take (i := 3) (v := .pointer (some ⟨gd, 0, none⟩)) rfl (by kernel_rfl) (by kernel_rfl) (fun _ _ _ h => h) (Or.inl ⟨by rfl, ?_⟩) hb2 ?_
      · intro w' hS'
        obtain ⟨c0, _⟩ := PrAt.cells (HS.out.below hS')
        clear hS'
        go_simp
      try simp only [List.getElem_toArray, List.getElem_cons_succ, List.getElem_cons_zero, Act.put, List.setIfInBounds_toArray, List.set]
      refine up_take (i := 4) (v := .pointer (some ⟨g, 0, none⟩)) rfl (by kernel_rfl) (by kernel_rfl) (fun _ _ _ h => h) (Or.inl ⟨by rfl, ?_⟩) hb2 ?_
      · intro w' _; go_simp
      try simp only [List.getElem_toArray, List.getElem_cons_succ, List.getElem_cons_zero, Act.put, List.setIfInBounds_toArray, List.set]
      refine up_take (i := 5) (v := .int .i64 c) rfl (by kernel_rfl) (by kernel_rfl) (fun _ _ _ h => h) (Or.inl ⟨by rfl, ?_⟩) hb2 ?_
      · intro w' _; go_simp
      try simp only [List.getElem_toArray, List.getElem_cons_succ, List.getElem_cons_zero, Act.put, List.setIfInBounds_toArray, List.set]
      refine up_take (i := 7) (v := .agg qv.toArray) rfl (by kernel_rfl) (by kernel_rfl) (fun _ _ _ h => h) (Or.inl ⟨by rfl, ?_⟩) hb2 ?_
      · intro w' hS'; exact exec_load _ _ 33 _ rfl x 0 rfl _ (HLd.out w' hS')
      try simp only [List.getElem_toArray, List.getElem_cons_succ, List.getElem_cons_zero, Act.put, List.setIfInBounds_toArray, List.set]
      refine up_one 6 _ rfl (by kernel_rfl) (by decide) (by rfl) (fun K hK => ?_)
      go_simp
      refine (Hsec.out _ hb2).mono ?_
      rintro e w7 ⟨rfl, mq, rfl⟩
      have hb3 := hb2.trans (below_drewN wd mq _)
      generalize hwn : wd.drewN mq = w3 at *
      refine hK _ _ hb3 ?_
      clear hK K
      try simp only [List.getElem_toArray, List.getElem_cons_succ, List.getElem_cons_zero, Act.put, List.setIfInBounds_toArray, List.set]
      clear hwn
      refine up_tail ?_
      refine up_last 8 _ rfl (by kernel_rfl) (by decide) (by rfl) (fun K hK => ?_)
      go_simp
      refine (Hwr.out _ hb3).mono ?_
      rintro e w5 ⟨v4, rfl, G4, hE4, hP4, ho4, hn4⟩
      refine hK _ _ ?_
      clear hK K
      try simp only [List.getElem_toArray, List.getElem_cons_succ, List.getElem_cons_zero, Act.put, List.setIfInBounds_toArray, List.set]
      refine up_last 9 _ rfl (by kernel_rfl) (by decide) (by rfl) (fun K hK => ?_)
      go_simp
      refine hK _ _ ?_
      clear hK K
      try simp only [List.getElem_toArray, List.getElem_cons_succ, List.getElem_cons_zero, Act.put, List.setIfInBounds_toArray, List.set]
      refine up_done (by kernel_rfl) ?_ _
      -- what stands behind the write
      have hba3 := hba.trans (hb3.mono hba.size)
      have hring4 : PrAt g gd first n m used w5 := (hW.ring.below hba3).of_block (ho4.block g (by have := hba3.size; have := hW.ring.lt; omega) (fun hG => (hW.new g hG).elim hgF (fun h1 => by omega)))
      have hrec4 : RecAt b pgs w5 := (hW.rec_.below hba3).of_block (ho4.block b (by have := hba3.size; have := hW.rec_.lt; omega) (fun hG => (hW.new b hG).elim (fun h1 => by have := hFlt b h1; omega) (fun h1 => by omega)))
      have honly4 : Only F w1 w5 := (hW.only.trans (Only.of_below (F := fun _ => False) hba3) (fun j hj => hj.elim)).trans ho4 (fun j hj => hW.new j hj)
      have hnew4 : ∀ j, G4 j → F j ∨ w1.heap.size ≤ j := fun j hj => by
        rcases hn4 j hj with h1 | h1
        · exact hW.new j h1
        · right; have := hW.only.size; have := hba3.size; omega
      have hfirm4 : (writeOf Sk (Q : Int) qv).1.firm = S.firm := by rw [write_firm, hW.firm]
      have hgood4 := good_write hgood (Q : Int) qv
      have hcnt4 := write_count Sk (Q : Int) qv
      clear HS HDk Hsec Hwr HLd hb2 hb3 hba hba3 ho4 hn4 hW hxl
      obtain ⟨r4, hr4⟩ : ∃ r4, writeOf Sk (Q : Int) qv = r4 := ⟨_, rfl⟩
      rw [hr4] at Heqn hE4 hP4 hfirm4 hgood4 hcnt4
      by_cases hz : r4.2 = 0
      · rw [hz] at hE4
        obtain rfl := ErrV.zero hE4
        have heq4 : writesOf first n S m.place pgs = writesOf first n r4.1 (m.place + (c + 1)) (pgs.drop (c + 1)) := by rw [Heqn.out, if_pos hz, ← Nat.add_assoc]
        have hW4 : AdW g gd first n m used b pgs S (c + 1) F r4.1 G4 w1 w5 := ⟨hring4, hrec4, hP4, hgood4, hfirm4, by omega, hnew4, honly4, heq4⟩
        clear hz Heqn heq4 hring4 hrec4 hP4 hgood4 hfirm4 hcnt4 hnew4 honly4 hE4
        go_wp2
        go_roundg (T - (c + 1))
        case measure => omega
        case rel => exact ⟨c + 1, _, _, by omega, rfl, by go_num, hW4⟩
      · have hne := hE4.neqNil w5
        rw [decide_eq_false hz] at hne
        have heq4 : writesOf first n S m.place pgs = r4 := by rw [Heqn.out, if_neg hz]
        have hfin : AddP g gd first n m used (endM n m l) (used + T) (writesOf first n S m.place pgs) F w (.returned v4) w5 := by
          rw [heq4]
          exact ⟨v4, G4, rfl, hE4, hP4, .inr ⟨hz, hring4⟩, (Only.of_below hb1).trans honly4 (fun j hj => .inl (.inr hj)), fun j hj => (hnew4 j hj).imp id (fun h1 => by have := hb1.size; omega)⟩
        obtain ⟨tv, xv, rfl⟩ : ∃ t x, v4 = .iface t x := by
          rcases hE4 with ⟨h0, _⟩ | ⟨_, ss, hC4⟩
          · exact absurd h0 hz
          · exact hC4.iface
        have Hfin := Lib.hid hfin
        clear hfin heq4 Heqn hring4 hrec4 hP4 hgood4 hfirm4 hcnt4 hnew4 honly4 hE4
        go_wp2
        go_ret
        rw [← Hpgs.out]
        exact Hfin.out
    · obtain rfl : c = T := by omega
      have heqn := hW.eqn
      rw [List.drop_of_length_le (by rw [Hps.out]; exact Nat.le_refl _)] at heqn
      have heqn2 : writesOf first n S m.place pgs = (Sk, 0) := heqn
      have hrec := hW.rec_
      rw [Hpgs.out] at hrec
      have hpass := pass_any hW.ring hO (p := firstOf m l) (ps := body l) hrec (by have := hW.ring.lt; omega) c c (by omega) (by omega) k hTk
      rw [firstOf_dig, ← Hk.out] at hpass
      have hem : behind n m l.length (dig (textOf m l)) = endM n m l := rfl
      rw [hem] at hpass
      have Heqn2 := Lib.hid heqn2
      clear heqn heqn2 hem hrec
      go_wp2_with (go_at_call 134; refine hpass.mono ?_)
      rintro e w6 ⟨rfl, hring6, ho6⟩
      have hdisk6 := hW.disk.keep ho6 (fun j hj e => by rw [e] at hj; exact (hW.new g hj).elim hgF (fun h1 => by omega))
      have honly6 : Only (fun j => j = g ∨ F j) w w6 := ((Only.of_below hb1).trans hW.only (fun j hj => .inl (.inr hj))).trans ho6 (fun j hj => .inl (.inl hj))
      have hnew6 := fun j hj => (hW.new j hj).imp id (fun h1 => (by have := hb1.size; omega : w.heap.size ≤ j))
      clear hpass hW
      go_wp2
      go_ret
      rw [← Hpgs.out, Heqn2.out]
      exact ⟨.nilIface, Gk, rfl, ErrV.nil, hdisk6, .inl ⟨rfl, hring6⟩, honly6, hnew6⟩
/-- add: what is refused. -/
theorem padd_large (h : PrAt g gd first n m used w) (bp : Option Addr) (L cap : Nat) (hL : L < 1 ∨ 60 < L) (hL2 : L ≤ 9223372036854775807) :
    Calls Tryz.prog 143 #[.pointer (some ⟨g, 0, none⟩), .slice bp L cap] w fun e w' => e = .returned (.iface 84 (.int .i64 11)) ∧ w = w' := by
  clear h
  rcases hL with hL | hL
  · go_enter Tryz.func143, Tryz.ntmps143
    go_wp2
    go_ret
    exact ⟨rfl, rfl⟩
  · have h1 : ¬ L < 1 := by omega
    go_enter Tryz.func143, Tryz.ntmps143
    go_wp2
    go_ret
    exact ⟨rfl, rfl⟩
theorem padd_space (h : PrAt g gd first n m used w) (hO : RingOk first n m used) (bp : Option Addr) (L cap : Nat) (h1 : 1 ≤ L) (h60 : L ≤ 60) (hfit : ¬ takes L ≤ n - used) :
    Calls Tryz.prog 143 #[.pointer (some ⟨g, 0, none⟩), .slice bp L cap] w fun e w' => e = .returned (.iface 84 (.int .i64 20)) ∧ Below w.heap.size w w' := by
  have hno : fitsB (n - used) L = false := by
    cases hc : fitsB (n - used) L
    · rfl
    · exact absurd ((fitsB_iff _ _).1 hc).2.2 hfit
  have hft := fits_any h hO L (by omega)
  rw [hno] at hft
  have g1 : ¬ L < 1 := by omega
  have g2 : ¬ 60 < L := by omega
  go_enter Tryz.func143, Tryz.ntmps143
  go_wp2_with (first
    | (go_at_call 124; refine hft.mono ?_; rintro e w' ⟨rfl, mq, rfl⟩))
  go_ret
  exact ⟨rfl, below_drewN _ _ _⟩
theorem padd_nil (v : Value) : Calls Tryz.prog 143 #[.pointer none, v] w fun e w' => e = .returned (.iface 84 (.int .i64 10)) ∧ w = w' := by
  go_enter Tryz.func143, Tryz.ntmps143
  go_wp2
  go_ret
  exact ⟨rfl, rfl⟩
/-- Add. -/
theorem padd_any (h : PrAt g gd first n m used w) (hO : RingOk first n m used) (hD : PD S F gd w) (hgF : ¬ F g) (hG : Good S) (hin : first + n ≤ S.firm.length) (hcnt : S.ats.length ≤ 1000000)
    (l : List Chg) (bp : Option Addr) (cap : Nat) (hl : Fit l) (hC : Chgs w.heap.size w bp l) (hfit : takes l.length ≤ n - used) :
    Calls Tryz.prog 125 #[.pointer (some ⟨g, 0, none⟩), .slice bp l.length cap] w
      (AddP g gd first n m used (endM n m l) (used + takes l.length) (writesOf first n S m.place (sectors m l)) F w) := by
  have hadd := padd_fits h hO hD hgF hG hin hcnt l bp cap hl hC hfit
  obtain ⟨L, hL⟩ : ∃ L, l.length = L := ⟨_, rfl⟩
  rw [hL] at hadd ⊢
  obtain ⟨r, Hr⟩ : ∃ r, Hid (r = writesOf first n S m.place (sectors m l)) := ⟨_, rfl⟩
  rw [← Hr.out] at hadd ⊢
  have HL := Lib.hid hL
  clear hL hC hfit
  go_enter Tryz.func125, Tryz.ntmps125
  go_wp2_with (go_at_call 143; refine hadd.mono ?_)
  rintro e w1 ⟨v, G, rfl, hE, hP, hring, ho, hn⟩
  go_wp2_with (go_at_call 35; refine (in_err _ _ v _ hE).mono ?_)
  rintro e w2 ⟨v2, rfl, hE2, hb2⟩
  clear hadd
  obtain ⟨rv, hrv⟩ : ∃ rv : Value, rv = v2 := ⟨_, rfl⟩
  have hfin : AddP g gd first n m used (endM n m l) (used + takes L) r F w (.returned v2) w2 :=
    ⟨v2, G, rfl, hE2, hP.below hb2, hring.imp (fun ⟨a, b⟩ => ⟨a, b.below hb2⟩) (fun ⟨a, b⟩ => ⟨a, b.below hb2⟩), ho.trans (Only.of_below (F := fun _ => False) hb2) (fun j hj => hj.elim), hn⟩
  have Hfin := Lib.hid hfin
  rcases hE2 with ⟨_, rfl⟩ | ⟨_, ss, hC2⟩
  · clear hE hP hring ho hn hfin
    go_wp2
    go_ret
    exact Hfin.out
  · obtain ⟨tv, xv, rfl⟩ := hC2.iface
    clear hE hP hring ho hn hfin hC2
    go_wp2
    go_ret
    exact Hfin.out
end
end Go.Proofs.YtjkkbceddbkejaaGreatDoor
