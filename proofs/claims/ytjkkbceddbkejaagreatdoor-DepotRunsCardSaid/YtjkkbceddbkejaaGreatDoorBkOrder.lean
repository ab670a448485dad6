/-
  Package pages: inOrder.
-/
import Derived.Test.YtjkkbceddbkejaaGreatDoorBkSort
import Derived.Test.YtjkkbceddbkejaaGreatDoorBkMap
import Derived.Test.YtjkkbceddbkejaaGreatDoorJLw
set_option linter.unusedSimpArgs false
set_option linter.unusedVariables false
namespace Go.Proofs.YtjkkbceddbkejaaGreatDoor
open Go.RowKit Sh Go.Maps

theorem own_keep {B : Nat} {e : TypeId} {k n : Nat} {v : Value} {xs : List Value} {w w' : World} (h : w.ownsRow B e k v n xs) (hb : ∀ g, v.ownBlock = some g → w'.heap[g]? = w.heap[g]?) : w'.ownsRow B e k v n xs := by
  refine ⟨h.1, ?_⟩
  rcases h.2 with h0 | ⟨g, cap, cur, hv, h1, hg, h3⟩
  · exact .inl h0
  · exact .inr ⟨g, cap, cur, hv, h1, (hb g (by rw [hv]; rfl)).trans hg, h3⟩
theorem own_block_lt {B : Nat} {e : TypeId} {k n : Nat} {v : Value} {xs : List Value} {w : World} (h : w.ownsRow B e k v n xs) {g : Nat} (hg : v.ownBlock = some g) : B ≤ g ∧ g < w.heap.size := h.lt g hg
/-- An entry comes out of those that are left. -/
theorem filter_one {left : Chg → Bool} : ∀ {l : List Chg} {c : Chg}, Rising l → c ∈ l → left c = true → (l.filter left).Perm (c :: l.filter fun d => left d && !decide (d.at_ = c.at_))
  | [], _, _, h, _ => by simp at h
  | d :: l, c, hr, hc, hl => by
    obtain ⟨h1, h2⟩ := List.pairwise_cons.1 hr
    rcases List.mem_cons.1 hc with rfl | hc
    · have e : (l.filter fun d => left d && !decide (d.at_ = c.at_)) = l.filter left := by
        apply List.filter_congr
        intro x hx
        have : ¬ x.at_ = c.at_ := by have := h1 x hx; omega
        simp [this]
      rw [List.filter_cons_of_pos hl, List.filter_cons_of_neg (by simp), e]
    · have hne : ¬ d.at_ = c.at_ := by have := h1 c hc; omega
      have ih := filter_one h2 hc hl
      cases hd : left d with
      | true =>
        rw [List.filter_cons_of_pos hd, List.filter_cons_of_pos (by simp [hd, hne])]
        exact (ih.cons d).trans (List.Perm.swap c d _)
      | false =>
        rw [List.filter_cons_of_neg (by simp [hd]), List.filter_cons_of_neg (by simp [hd])]
        exact ih
theorem ranges_blocks {w w' : World} {b r n cnt : Nat} {D : DataW Unit} {left : Go.Lit → Bool} (h : w.ranges Tryz.prog 3 pageE b r n D left cnt) (hb : w'.heap[b]? = w.heap[b]?) (hr : w'.heap[r]? = w.heap[r]?) : w'.ranges Tryz.prog 3 pageE b r n D left cnt := by
  obtain ⟨es, clock, since, seen, c0, h1, h2, h3, h4, h5, h6⟩ := h
  exact ⟨es, clock, since, seen, c0, hb.trans h1, h2, h3, h4, hr.trans h5, h6⟩
theorem own_ne_iter {w : World} {b r n cnt B k c : Nat} {D : DataW Unit} {left : Go.Lit → Bool} {T : TypeId} {s g : Nat} {xs : List Value} (h : w.ranges Tryz.prog 3 pageE b r n D left cnt) (ho : w.ownsRow B T s (.slice (some ⟨g, 0, none⟩) k c) k xs) : g ≠ r := by
  obtain ⟨es, clock, since, seen, c0, h1, h2, h3, h4, h5, h6⟩ := h
  rcases ho.2 with ⟨hv, _⟩ | ⟨g2, cap, cur, hv, hB, hg, _⟩
  · simp at hv
  · simp only [Value.slice.injEq, Option.some.injEq, Addr.mk.injEq] at hv
    obtain ⟨⟨rfl, _⟩, _⟩ := hv
    intro e
    subst e
    rw [h5] at hg
    cases hg
theorem invInt (key : Value) (kl : Go.Lit) (h : keyOf Tryz.prog 3 key = some kl) : ∃ x, key = Value.int .i64 x := by
  obtain ⟨x, rfl, _⟩ := Maps.keyOf_int_inv Tryz.underlying3 h
  exact ⟨x, rfl⟩
theorem invPage (v : Value) (y : DataW Unit × List MemPlace) (h : pageE v = some y) : ∃ p, v = pageV p := by
  obtain ⟨p, _, rfl, _⟩ := pageE_inv h
  exact ⟨p, rfl⟩
theorem own_frozen {w : World} {B n : Nat} {T : TypeId} {s : Nat} {b c : Nat} {xs : List Value} (h : w.ownsRow B T s (.slice (some ⟨b, 0, none⟩) n c) n xs) : b < w.heap.size ∧ B ≤ b ∧ ∀ j, w.frozen? ⟨b, j, none⟩ = false := by
  rcases h.2 with ⟨hv, _⟩ | ⟨g, cap, cur, hv, hB, hg, _⟩
  · simp at hv
  · simp only [Value.slice.injEq, Option.some.injEq, Addr.mk.injEq] at hv
    obtain ⟨⟨rfl, _⟩, _⟩ := hv
    exact ⟨(Array.getElem?_eq_some_iff.1 hg).1, hB, fun j => by simp [World.frozen?, hg]⟩
theorem atKey_inv {l : List Chg} {x : Int} {p : List UInt8} (h : ∀ zd, (mapD l).atKey (.int .i64 x) zd = .lit (.string p)) : ∃ c ∈ l, (c.at_ : Int) = x ∧ c.what = p := by
  have h1 := h .nil
  unfold mapD DataW.atKey at h1
  simp only at h1
  cases hf : (entM l).find? (fun q => q.1.sameKey (.int .i64 x)) with
  | none => rw [hf] at h1; cases h1
  | some q =>
    rw [hf] at h1
    have hm := List.mem_of_find?_eq_some hf
    have hs := List.find?_some hf
    obtain ⟨c, hc, rfl⟩ := List.mem_map.1 hm
    refine ⟨c, hc, ?_, ?_⟩
    · simpa [Lit.sameKey] using hs
    · simpa using h1
def Later (p : Prop) : Prop := p
theorem wpList_next_page {w : World} {ops : Array Oper} {rest : List Oper} {o : Oper} {a : Act} {Q : Exit → Act → World → Prop} (hg : o.guard = none) (it : Operand) (hop : o.op = Op.next it false) (b r n : Nat) (l : List Chg) (left : Go.Lit → Bool) (cnt : Nat)
    (hit : a.eval it = .pointer (some ⟨r, 0, none⟩)) (h : w.ranges Tryz.prog 3 pageE b r n (mapD l) left cnt)
    (hDone : Later (cnt = 0 → (∀ kl, left kl = false) → wpList Tryz.prog ops Q rest (a.put o.dst (.tuple #[.bool false])) w))
    (hMore : Later (∀ (c : Chg) (pv : List Value) (w' : World) (cnt' : Nat), c ∈ l → c.what.length = 64 → Hid (pv = c.what.map cu8) → left (.int .i64 c.at_) = true → w'.ranges Tryz.prog 3 pageE b r n (mapD l) (fun z => left z && !z.sameKey (.int .i64 c.at_)) cnt' → cnt' < cnt →
      w.grownBy w' (some r) → w'.heap.size = w.heap.size → (Instr.entry (.pointer (some ⟨r, 0, none⟩))).run Tryz.prog w' = .ok (.tuple #[.int .i64 c.at_, .agg pv.toArray]) w' → wpList Tryz.prog ops Q rest (a.put o.dst (.tuple #[.bool true, .int .i64 c.at_, .agg pv.toArray])) w')) :
    wpList Tryz.prog ops Q (o :: rest) a w := by
  refine wpList_next_ranges _ hg it hop 3 keyedInt pageE (Value.int .i64) pageV invInt invPage b r n (mapD l) left cnt hit h hDone ?_
  intro x p kl y w3 cnt1 hkey hlk hv hat hrg1 hlt hg1 hs1 hen
  obtain ⟨x', e, rfl, _⟩ := Maps.keyOf_int_inv Tryz.underlying3 hkey
  obtain rfl : x' = x := by simpa using e.symm
  obtain ⟨q, hq64, hpq, rfl⟩ := pageE_inv hv
  obtain rfl := pageV_inj hpq
  obtain ⟨c, hc, rfl, rfl⟩ := atKey_inv hat
  exact hMore c (c.what.map cu8) w3 cnt1 hc hq64 rfl hlk hrg1 hlt hg1 hs1 hen
def OrderP (l : List Chg) (w : World) (e : Ending) (w' : World) : Prop := ∃ b cap, e = .returned (.slice (some ⟨b, 0, none⟩) l.length cap) ∧ w.heap.size ≤ b ∧ Chgs w'.heap.size w' (some ⟨b, 0, none⟩) l ∧ Below w.heap.size w w'
set_option maxRecDepth 100000 in
set_option maxHeartbeats 8000000 in
/-- inOrder. -/
theorem inOrder_any {bm : Nat} {l : List Chg} {w : World} (h : MapAt bm l w) (hA : ∀ c ∈ l, c.at_ ≤ 1099511627776) (hn : l.length ≤ 4096) : Calls Tryz.prog 90 #[.map (some bm)] w (OrderP l w) := by
  have hr := h.rises
  have hl64 := h.lens
  have hbm := h.lt
  obtain ⟨L, hL⟩ : ∃ L, l.length = L := ⟨_, rfl⟩
  have hlen := fun ty => h.len ty
  rw [hL] at hlen hn
  have hinfo := infoChg
  obtain ⟨i, hi, hzz⟩ := Option.map_eq_some_iff.1 hinfo
  simp only [Prod.mk.injEq] at hzz
  obtain ⟨hz0, hs0, hby0⟩ := hzz
  obtain ⟨w1, hmk, hown1, hg1⟩ := run_make_own w w.heap.size 162 194 i _ 65 Tryz.underlying162 hi hz0 hs0 .i64 .i64 L (by rw [hby0]; omega) (by unfold maxLen; omega) (Nat.le_refl _)
  have hb1 : Below w.heap.size w w1 := (Below.refl _ _).grown hg1 (Nat.le_refl _) (fun k e => by cases e)
  have hM1 := h.below hb1
  unfold OrderP
  rw [hL]
  have HL := Lib.hid hL; have Hi := Lib.hid hi; have Hz0 := Lib.hid hz0; have Hs0 := Lib.hid hs0; have Hby0 := Lib.hid hby0; have Hown1 := Lib.hid hown1
  have howns := hM1.owns
  rw [hL] at howns
  have Howns := Lib.hid howns
  obtain ⟨B, hB⟩ : ∃ B, w.heap.size = B := ⟨_, rfl⟩
  have hb1' := hb1
  rw [hB] at hmk hb1' hbm
  rw [hB] at Hown1
  have HB := Lib.hid hB
  clear hL hinfo hi hz0 hs0 hby0 hown1 howns hg1 hb1 hB h
  go_enter Tryz.func90, Tryz.ntmps90
  go_wp2_with (first
    | (at_range; refine wpList_range_own _ rfl _ 105 rfl 3 33 keyedInt Tryz.underlying105 pageE bm L (mapD l) rfl Howns.out ?_; intro w2 hrg hg2 hs2))
  go_frame
  have hb2 : Below B w w2 := hb1'.trans ⟨hg2.os, hg2.tape, hg2.output, hg2.size, fun k hk => hg2.block k (by have := hM1.lt; have := hb1'.size; have := HB.out; omega) (by simp)⟩
  have hown2 : w2.ownsRow B 194 65 (.slice (some ⟨B, 0, none⟩) 0 L) 0 [] := own_keep Hown1.out fun g e => hg2.block g (own_block_lt Hown1.out e).2 (by simp)
  obtain ⟨R, hR⟩ : ∃ R, w1.heap.size = R := ⟨_, rfl⟩
  have hBR : B < R := by
    have := (own_block_lt Hown1.out (g := B) rfl).2
    omega
  rw [hR] at hrg ⊢
  have hsz : Maps.size (mapD l) = L := by rw [size_mapD]; exact HL.out
  rw [hsz] at hrg
  clear hlen hmk Howns Hown1 hs2 hg2 hsz
  go_loopg [3] L (fun gg v wr => ∃ (left : Go.Lit → Bool) (done : List Chg), wr.ranges Tryz.prog 3 pageE bm R L (mapD l) left gg ∧ wr.ownsRow B 194 65 v done.length (rowsC done) ∧ Hid ((done ++ l.filter (fun (c : Chg) => left (.int .i64 c.at_))).Perm l) ∧ Below B w wr ∧ R < wr.heap.size ∧ ∃ b cp, v = .slice (some ⟨b, 0, none⟩) done.length cp)
  case atStart =>
    refine ⟨_, [], hrg, hown2, ?_, hb2, World.ranges.lt hrg, _, _, rfl⟩
    · show ([] ++ l.filter (fun (c : Chg) => has (mapD l) (.int .i64 c.at_))).Perm l
      rw [List.nil_append]
      have : l.filter (fun (c : Chg) => has (mapD l) (.int .i64 c.at_)) = l := List.filter_eq_self.2 fun c hc => by
        show (entM l).any (fun p => p.1.sameKey (.int .i64 c.at_)) = true
        exact List.any_eq_true.2 ⟨_, List.mem_map.2 ⟨c, hc, rfl⟩, by simp [Lit.sameKey]⟩
      rw [this]
  case round =>
    clear hrg hown2 hb2
    obtain ⟨left, done, hrg, hown, Hperm, hb, hRl, b, cp, rfl⟩ := hrel
    have hbR : b ≠ R := own_ne_iter hrg hown
    have hdl : done.length ≤ L := by have := Hperm.out.length_eq; rw [List.length_append] at this; have := HL.out; omega
    go_wp2_with (first
      | (at_next; refine wpList_next_page rfl _ rfl bm R L l left gk rfl hrg ?_ ?_))
    · -- nothing is left
      unfold Later
      intro hc0 hl0
      have hperm : done.Perm l := by
        have e : l.filter (fun (c : Chg) => left (.int .i64 c.at_)) = [] := by simp [hl0]
        have := Hperm.out
        rwa [e, List.append_nil] at this
      have hdn : done.length = L := by rw [hperm.length_eq]; exact HL.out
      have hd64 : ∀ c ∈ done, c.what.length = 64 ∧ c.at_ ≤ 1099511627776 := fun c hc => ⟨hl64 c (hperm.mem_iff.1 hc), hA c (hperm.mem_iff.1 hc)⟩
      have hdp : done.Pairwise (fun x y : Chg => x.at_ ≠ y.at_) := (hperm.pairwise_iff (R := fun x y : Chg => x.at_ ≠ y.at_) (fun h e => h e.symm)).2 (hr.imp fun h => by omega)
      obtain ⟨hbl, hbB, hfz⟩ := own_frozen hown
      have hC := chgs_of_own (fun c hc => (hd64 c hc).1) rfl hown
      have hrow : ∀ i c, done[i]? = some c → wr.rangeAt b (i * 65) (chgC c) := by
        rcases hC with h0 | ⟨b2, e, _, hr2⟩
        · intro i c hi; rw [h0] at hi; simp at hi
        · simp only [Option.some.injEq, Addr.mk.injEq, and_true] at e
          subst e; exact hr2
      have Hsort := Lib.hid (sort_any b cp done wr hbl hd64 (by omega) hdp hrow hfz)
      have Hperm2 := Lib.hid hperm
      obtain ⟨dn, hdn2⟩ : ∃ dn, done.length = dn := ⟨_, rfl⟩
      rw [hdn2] at Hsort ⊢
      have Hdn := Lib.hid (hdn2.symm.trans hdn)
      clear hrg hown hC hrow hfz hperm hdn hdn2 hd64 hdp hl0 Hperm
      go_wp2_with (first
        | (go_at_call 122; refine Hsort.out.mono ?_))
      rintro e w9 ⟨l9, rfl, hp9, hr9, hC9, hg9⟩
      have e9 : l9 = l := rising_eq hr9 hr (hp9.trans Hperm2.out)
      subst e9
      have hb9 := below_of_grown hb hg9 (by have := hb.size; have := HB.out; omega) (by omega)
      have Hd := Hdn.out
      subst Hd
      go_wp2
      go_ret
      exact ⟨b, cp, rfl, by have := HB.out; omega, hC9, by rw [HB.out]; exact hb9⟩
    · -- an entry has come
      unfold Later
      intro c pv w3 cnt1 hc hq64 Hpv hlk hrg1 hlt hg1 hs1 hen
      have hpvl : pv.length = 64 := by rw [Hpv.out, List.length_map, hq64]
      have hpi : Hid ((Tryz.prog.info? 33).map (·.size) = some pv.toArray.size) := by rw [List.size_toArray, hpvl]; exact info64
      have hpz : Hid (zeros64.size = pv.toArray.size) := by
        have e : pv.toArray.size = 64 := by rw [List.size_toArray, hpvl]
        rw [e]; exact (rfl : zeros64.size = 64)
      have hp1 : Hid (pv.toArray.all (·.oneCell') = true) := by rw [Hpv.out]; exact bytes_one _
      have hperm' : (done ++ [c] ++ l.filter (fun d => left (.int .i64 d.at_) && !(Go.Lit.int .i64 d.at_).sameKey (.int .i64 c.at_))).Perm l := by
        refine List.Perm.trans ?_ Hperm.out
        rw [List.append_assoc]
        refine List.Perm.append_left _ ?_
        have h1 := filter_one (left := fun d => left (.int .i64 d.at_)) hr hc hlk
        have e : (fun d : Chg => left (.int .i64 d.at_) && !(Go.Lit.int .i64 d.at_).sameKey (.int .i64 c.at_)) = fun d : Chg => left (.int .i64 d.at_) && !decide (d.at_ = c.at_) := by
          funext d
          have : (Go.Lit.int .i64 d.at_).sameKey (.int .i64 c.at_) = decide (d.at_ = c.at_) := by
            simp only [Lit.sameKey, true_and, decide_eq_decide]; omega
          rw [this]
        rw [e]
        exact h1.symm
      have Hperm' := Lib.hid hperm'
      have hown3 : w3.ownsRow B 194 65 (.slice (some ⟨b, 0, none⟩) done.length cp) done.length (rowsC done) := own_keep hown fun g e => hg1.block g (own_block_lt hown e).2 (fun e2 => hbR ((show b = g by simpa [Value.ownBlock] using e).trans (show g = R by simpa using e2)))
      have hb3 : Below B w w3 := below_of_grown hb hg1 (by have := hb.size; have := HB.out; omega) (by omega)
      have hbl := (own_frozen hown).1
      have hcv : (.int .i64 (c.at_ : Nat) :: pv : List Value) = chgC c := by rw [Hpv.out]; rfl
      have HB2 := Lib.hid (built_chg (c.at_ : Nat) pv ⟨hpvl, fun v hv => by rw [Hpv.out] at hv; obtain ⟨z, _, rfl⟩ := List.mem_map.1 hv; rfl⟩)
      obtain ⟨cv, Hcv⟩ : ∃ cv : List Value, Hid (cv = .int .i64 (c.at_ : Nat) :: pv) := ⟨_, rfl⟩
      rw [← Hcv.out] at HB2
      have hcvl : cv.length = 65 := by rw [Hcv.out, List.length_cons, hpvl]
      have Hcc := Lib.hid (Hcv.out.trans hcv)
      have hdl1 : done.length + 1 ≤ L := by have := hperm'.length_eq; simp only [List.length_append, List.length_singleton] at this; have := HL.out; omega
      have hw3 : R < w3.heap.size := by rw [hs1]; exact hRl
      obtain ⟨xa, hxa⟩ : ∃ xa : Nat, c.at_ = xa := ⟨_, rfl⟩
      rw [hxa] at hen HB2 ⊢
      clear hrg hown hperm' Hperm hg1 hs1 hcv hb Hcv
      go_upto_region 5 with (first
        | (refine wpList_alloc_arr rfl 33 rfl _ alloc64 ?_)
        | (refine wpList_store_new rfl 33 _ _ rfl w3.heap.size rfl pv.toArray rfl rfl 33 _ hpi.out hpz.out hp1.out ?_))
      have hbA : Below w3.heap.size w3 (w3.alloc (.cells pv.toArray 33)) := (Below.refl _ _).alloc (Nat.le_refl _) _
      have hxA : (w3.alloc (.cells pv.toArray 33)).heap[w3.heap.size]? = some (.cells pv.toArray 33 (0, 0)) := heap_alloc_new w3 _
      have hrgA := ranges_blocks hrg1 (hbA.block bm (by have := hb3.size; omega)) (hbA.block R hw3)
      have hownA := own_keep hown3 fun g e => hbA.block g (own_block_lt hown3 e).2
      have hbelA := hb3.trans (hbA.mono (by have := hb3.size; omega))
      generalize w3.alloc (.cells pv.toArray 33) = wA at hbA hxA hrgA hownA hbelA ⊢
      obtain ⟨u, hu⟩ : ∃ u, w3.heap.size = u := ⟨_, rfl⟩
      rw [hu] at hxA hbA ⊢
      have huA : u < wA.heap.size := (Array.getElem?_eq_some_iff.1 hxA).1
      clear hrg1 hown3 hb3 hpz hp1
      obtain ⟨dn, hdn⟩ : ∃ dn, done.length = dn := ⟨_, rfl⟩
      rw [hdn] at hownA hdl1 ⊢
      have Hdn := Lib.hid hdn
      have hbC : Below wA.heap.size wA (wA.alloc (.cells cv.toArray 194)) := (Below.refl _ _).alloc (Nat.le_refl _) _
      have hxC : (wA.alloc (.cells cv.toArray 194)).heap[wA.heap.size]? = some (.cells cv.toArray 194 (0, 0)) := heap_alloc_new wA _
      have hownC := own_keep hownA fun g e => hbC.block g (own_block_lt hownA e).2
      have Hsrc := Lib.hid (fun (j : Nat) (v : Value) (hj : cv[j]? = some v) => show (wA.alloc (.cells cv.toArray 194)).cell? ((⟨wA.heap.size, 0, none⟩ : Addr).add j) = some v by
        have e : (⟨wA.heap.size, 0, none⟩ : Addr).add j = ⟨wA.heap.size, 0 + j, none⟩ := by unfold Addr.add; split <;> simp_all
        rw [e, Nat.zero_add, cell_of_row _ wA.heap.size j _ _ _ hxC]; simpa using hj)
      have Hone := Lib.hid (show ∀ v ∈ cv, v.oneCell' = true by rw [Hcc.out]; exact chgC_one c)
      have HownC := Lib.hid hownC
      clear hdn hownC hxC
      go_wp2_with (first
        | (refine wpList_load_row rfl 33 _ rfl u rfl 33 pv.toArray (0, 0) _ hxA Tryz.underlying33 rfl hpi.out ?_)
        | (refine wpList_build_to rfl 194 _ rfl cv.toArray (Eq.trans (congrArg (Program.built _ _) (by simp [Act.eval, Act.put])) HB2.out) ?_)
        | (refine wpList_row1 162 194 _ rfl rfl cv 65 zChg 72 Tryz.underlying162 infoChg (by omega) (by omega) zChg_len hcvl rfl ?_)
        | (refine wpList_append_own _ rfl _ _ 162 rfl B 194 i _ 65 72 Tryz.underlying162 Hi.out Hz0.out Hs0.out Hby0.out rfl (by omega) _ dn (rowsC done) rfl HownC.out ⟨wA.heap.size, 0, none⟩ 1 1 cv rfl (by rw [hcvl]) Hsrc.out Hone.out (by unfold maxLen; omega) (by omega) (by have := hbelA.size; have := hbC.size; have := HB.out; omega) ?_; intro v5 w5 hown5 hg5 hnil5))
      clear hnil5
      have hg5 : World.grownBy (wA.alloc (.cells cv.toArray 194)) w5 (some b) := hg5
      have hrow5 : rowsC done ++ cv = rowsC (done ++ [c]) := by rw [rowsC_snoc, Hcc.out]
      rw [hrow5] at hown5
      have hl5 : (done ++ [c]).length = dn + 1 := by rw [List.length_append, Hdn.out]; rfl
      have hbC' := hbelA.trans (hbC.mono (by have := hbelA.size; have := HB.out; omega))
      have hb5 : Below B w w5 := below_of_grown hbC' hg5 (by have := hbC'.size; have := HB.out; omega) (by have := (own_frozen HownC.out).2.1; omega)
      have hbmA : bm < wA.heap.size := by have := hbelA.size; have := HB.out; omega
      have hRA : R < wA.heap.size := by omega
      have hrg5 := ranges_blocks hrgA ((hg5.block bm (by have := hbC.size; omega) (fun e => absurd (show bm = b by simpa using e) (by have := (own_frozen HownC.out).2.1; omega))).trans (hbC.block bm hbmA)) ((hg5.block R (by have := hbC.size; omega) (fun e => hbR (show R = b by simpa using e).symm)).trans (hbC.block R hRA))
      obtain ⟨b5, cp5, rfl⟩ : ∃ b5 cp5, v5 = .slice (some ⟨b5, 0, none⟩) (dn + 1) cp5 := by
        rcases hown5.2 with ⟨hv, h0⟩ | ⟨g, cap, cur, hv, _⟩
        · omega
        · exact ⟨g, cap, hv⟩
      have hR5 : R < w5.heap.size := by have := hg5.size; have := hbC.size; omega
      have Hg5 := Lib.hid hg5; have Hb5 := Lib.hid hb5; have Hown5 := Lib.hid hown5; have Hrg5 := Lib.hid hrg5
      clear hg5 hb5 hown5 hrg5 hbC hbC' hxA hrgA hownA hbelA hen HownC Hsrc
      go_wp2
      go_roundg cnt1
      case measure => exact hlt
      case rel => exact ⟨_, done ++ [c], Hrg5.out, by rw [hl5]; exact Hown5.out, Hperm'.out, Hb5.out, hR5, b5, cp5, by rw [hl5]⟩
end Go.Proofs.YtjkkbceddbkejaaGreatDoor
