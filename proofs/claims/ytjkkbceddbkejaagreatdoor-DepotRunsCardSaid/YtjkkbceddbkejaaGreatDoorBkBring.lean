/-
  A book: bringHome.
-/
import Derived.Test.YtjkkbceddbkejaaGreatDoorBkPage
import Derived.Test.YtjkkbceddbkejaaGreatDoorBkOrder
import Derived.Test.YtjkkbceddbkejaaGreatDoorBkBehind
set_option linter.unusedSimpArgs false
set_option linter.unusedVariables false
namespace Go.Proofs.YtjkkbceddbkejaaGreatDoor
open Go.RowKit Sh Go.Maps Go.Extern.Stop Go.Stop Go.Extern

theorem ErrV.held {w : World} {n : Int} {v : Value} (h : ErrV w n v) (hn : n ≠ 0) : ∃ t x, v = .iface t x := by
  obtain ⟨ss, hC⟩ := (h.resolve_left (fun h => hn h.1)).2
  exact hC.iface
theorem neq_held (t : TypeId) (x : Value) (W : World) : (binOp .neq 30 (.iface t x) .nilIface).run Tryz.prog W = .ok (.bool true) W := run_neq_held_nil W 30 t x Tryz.methodsError
/-- A book on its way: b behind, in world wr; w: where the call began. -/
structure Br (Fd : Nat → Prop) (gd gr bn bt g : Nat) (w : World) (b : Bk) (Fd' : Nat → Prop) (wr : World) : Prop where
  inn : BkIn b Fd' gd gr bn bt g wr
  only : Only (BFoot Fd gr bn bt g) w wr
  new : ∀ k, Fd' k → Fd k ∨ w.heap.size ≤ k
section
variable {Fd Fd' : Nat → Prop} {gd gr bn bt g : Nat} {w wr w' : World} {b : Bk}
theorem Br.start (h : BkIn b Fd gd gr bn bt g w) : Br Fd gd gr bn bt g w b Fd w := ⟨h, Only.refl _ _, fun _ hk => .inl hk⟩
theorem Br.below (h : Br Fd gd gr bn bt g w b Fd' wr) (hb : Below wr.heap.size wr w') : Br Fd gd gr bn bt g w b Fd' w' := ⟨h.inn.below hb, h.only.trans (Only.of_below (F := fun _ => False) hb) (fun _ hk => hk.elim), h.new⟩
theorem Br.foot (h : Br Fd gd gr bn bt g w b Fd' wr) {k : Nat} (hk : BFoot Fd' gr bn bt g k) : BFoot Fd gr bn bt g k ∨ w.heap.size ≤ k := by
  rcases hk with hk | hk | hk | hk | hk
  · exact .inl (.inl hk)
  · exact .inl (.inr (.inl hk))
  · exact .inl (.inr (.inr (.inl hk)))
  · exact .inl (.inr (.inr (.inr (.inl hk))))
  · exact (h.new k hk).imp (fun h => .inr (.inr (.inr (.inr h)))) id
theorem Br.disk (h : Br Fd gd gr bn bt g w b Fd' wr) {S : St} {n : Int} {v : Value} (hT : PDTurn S n Fd' gd wr v w') (hf : S.firm.length = b.S.firm.length) : ∃ F'', ErrV w' n v ∧ Br Fd gd gr bn bt g w { b with S := S } F'' w' ∧ ∀ k, F'' k → Fd' k ∨ wr.heap.size ≤ k := by
  obtain ⟨F'', hE, hP, ho, hF⟩ := hT
  exact ⟨F'', hE, ⟨h.inn.diskTurn hP ho hF hf, h.only.trans ho (fun k hk => h.foot (.inr (.inr (.inr (.inr hk))))), fun k hk => (hF k hk).elim (h.new k) (fun h' => .inr (Nat.le_trans h.only.size h'))⟩, hF⟩
theorem Br.gen (h : Br Fd gd gr bn bt g w b Fd' wr) (n : Nat) : Br Fd gd gr bn bt g w { b with gen := n } Fd' (wr.setCell ⟨g, 4, none⟩ (.int .u64 n)) :=
  ⟨h.inn.setGen n, h.only.trans (Only.of_grown (F := fun k => k = g) (grown_setCell _ _ _) (fun k e => by simpa using e.symm)) (fun k hk => .inl (.inl hk)), h.new⟩
theorem Br.ring (h : Br Fd gd gr bn bt g w b Fd' wr) {m : Mk} {u : Nat} (hr : PrAt gr gd 2 b.n m u w') (ho : Only (fun k => k = gr) wr w') : Br Fd gd gr bn bt g w { b with m := m, used := u } Fd' w' :=
  ⟨h.inn.ringTurn hr ho, h.only.trans ho (fun k hk => .inl (.inr (.inl hk))), h.new⟩
theorem Br.news (h : Br Fd gd gr bn bt g w b Fd' wr) {l : List Chg} (hm : MapAt bn l w') (hg : wr.grownBy w' (some bn)) : Br Fd gd gr bn bt g w { b with news := l } Fd' w' :=
  ⟨h.inn.newsTurn hm hg, h.only.trans (Only.of_grown (F := fun k => k = bn) hg (fun k e => by simpa using e.symm)) (fun k hk => .inl (.inr (.inr (.inl hk)))), h.new⟩
theorem Br.txn (h : Br Fd gd gr bn bt g w b Fd' wr) {l : List Chg} (hm : MapAt bt l w') (hg : wr.grownBy w' (some bt)) : Br Fd gd gr bn bt g w { b with txn := l } Fd' w' :=
  ⟨h.inn.txnTurn hm hg, h.only.trans (Only.of_grown (F := fun k => k = bt) hg (fun k e => by simpa using e.symm)) (fun k hk => .inl (.inr (.inr (.inr (.inl hk))))), h.new⟩
theorem Br.break (h : Br Fd gd gr bn bt g w b Fd' wr) (hi : BkIn { b with broken := true } Fd' gd gr bn bt g w') (hg : wr.grownBy w' (some g)) : Br Fd gd gr bn bt g w { b with broken := true } Fd' w' :=
  ⟨hi, h.only.trans (Only.of_grown (F := fun k => k = g) hg (fun k e => by simpa using e.symm)) (fun k hk => .inl (.inl hk)), h.new⟩
/-- A block of the call's own turned. -/
theorem Br.own (h : Br Fd gd gr bn bt g w b Fd' wr) {x : Nat} (hx : w.heap.size ≤ x) (hn : ∀ k, BFoot Fd' gr bn bt g k → k < x) (hg : wr.grownBy w' (some x)) : Br Fd gd gr bn bt g w b Fd' w' := by
  have ho := Only.of_grown (F := fun k => k = x) hg (fun k e => by simpa using e.symm)
  exact ⟨h.inn.only ho (fun k hk e => by have := hn k hk; have e' : k = x := e; omega), h.only.trans ho (fun k hk => .inr (by have e' : k = x := hk; omega)), h.new⟩
theorem bring_e1 (h : ¬ (st1 b).2 = 0) : bringOf b = ({ b with S := (st1 b).1 }, (st1 b).2) := by unfold bringOf; rw [if_pos h]
theorem bring_e2 (h1 : (st1 b).2 = 0) (h : ¬ (st2 b).2 = 0) : bringOf b = ({ b with S := (st2 b).1 }, (st2 b).2) := by unfold bringOf; rw [if_neg (by simp [h1]), if_pos h]
theorem bring_e3 (h1 : (st1 b).2 = 0) (h2 : (st2 b).2 = 0) (h : ¬ (st3 b).2 = 0) : bringOf b = ({ b with S := (st3 b).1 }, (st3 b).2) := by unfold bringOf; rw [if_neg (by simp [h1]), if_neg (by simp [h2]), if_pos h]
theorem bring_e4 (h1 : (st1 b).2 = 0) (h2 : (st2 b).2 = 0) (h3 : (st3 b).2 = 0) (h : ¬ (st4 b).2 = 0) : bringOf b = ({ b with S := (st4 b).1 }, (st4 b).2) := by unfold bringOf; rw [if_neg (by simp [h1]), if_neg (by simp [h2]), if_neg (by simp [h3]), if_pos h]
theorem bring_e5 (h1 : (st1 b).2 = 0) (h2 : (st2 b).2 = 0) (h3 : (st3 b).2 = 0) (h4 : (st4 b).2 = 0) (h : ¬ (st5 b).2 = 0) : bringOf b = ({ b with S := (st5 b).1 }, (st5 b).2) := by
  unfold bringOf; rw [if_neg (by simp [h1]), if_neg (by simp [h2]), if_neg (by simp [h3]), if_neg (by simp [h4]), if_pos h]
theorem bring_e6 (h1 : (st1 b).2 = 0) (h2 : (st2 b).2 = 0) (h3 : (st3 b).2 = 0) (h4 : (st4 b).2 = 0) (h5 : (st5 b).2 = 0) : bringOf b = ({ b with S := (st5 b).1, gen := nextGen b, m := nextMk b, used := 0, news := [] }, 0) := by
  unfold bringOf; rw [if_neg (by simp [h1]), if_neg (by simp [h2]), if_neg (by simp [h3]), if_neg (by simp [h4]), if_neg (by simp [h5])]
theorem chgs_block {N N' bo : Nat} {l : List Chg} (h : Chgs N w (some ⟨bo, 0, none⟩) l) (e : w'.heap[bo]? = w.heap[bo]?) (hN : bo < N') : Chgs N' w' (some ⟨bo, 0, none⟩) l := by
  rcases h with h | ⟨b, eb, _, hr⟩
  · exact .inl h
  · simp only [Option.some.injEq, Addr.mk.injEq, and_true] at eb
    subst eb
    exact .inr ⟨bo, rfl, hN, fun i c hi j v hj => (World.cell?_of_block (a := ⟨bo, i * 65 + j, none⟩) e).trans (hr i c hi j v hj)⟩
theorem chgs_range {N bo : Nat} {l : List Chg} (h : Chgs N w (some ⟨bo, 0, none⟩) l) {i : Nat} {c : Chg} (hi : l[i]? = some c) : w.rangeAt bo (i * 65) (chgC c) := by
  rcases h with h | ⟨b, eb, _, hr⟩
  · rw [h] at hi; simp at hi
  · simp only [Option.some.injEq, Addr.mk.injEq, and_true] at eb
    subst eb
    exact hr i c hi
/-- What holds before the k-th home is written. -/
structure HoOk (b : Bk) (k : Nat) (S : St) : Prop where
  good : Good S
  count : S.ats.length ≤ b.S.ats.length + k
  firm : S.firm.length = b.S.firm.length
  rest : homesOf (2 + b.n) S (b.news.drop k) = st2 b
theorem cut2 {K R : Nat → World → Prop} {G : Prop} (walk : (∀ x w, R x w → K x w) → G) (pf : ∀ x w, R x w → K x w) : G := walk pf
theorem splice_mark {m : Mk} {d : List UInt8} (h : m.last.length = 32) (hd : d.length = 32) : splice (markCells m) 2 (d.map cu8) = markCells ⟨m.place, m.num, d⟩ := by
  simp [splice, markCells, h, hd]
/-- A value, and nothing below turned. -/
def RetP (v : Value) (w : World) (e : Ending) (w' : World) : Prop := e = .returned v ∧ Below w.heap.size w w'
def BringP (b : Bk) (Fd : Nat → Prop) (gd gr bn bt g : Nat) (w : World) (e : Ending) (w' : World) : Prop := ∃ v Fd', e = .returned v ∧ ErrV w' (bringOf b).2 v ∧ Br Fd gd gr bn bt g w (bringOf b).1 Fd' w'
set_option maxRecDepth 100000 in
set_option maxHeartbeats 16000000 in
/-- bringHome. -/
theorem bring_in (h : BkIn b Fd gd gr bn bt g w) (hO : b.Ok) (hp : b.S.ats.length ≤ 900000) : Calls Tryz.prog 89 #[.pointer (some ⟨g, 0, none⟩)] w (BringP b Fd gd gr bn bt g w) := by
  have hst := steps hO
  have hroom := hO.room; have hle := hO.le; have hnl := hO.news_len
  have hBr := Br.start h
  obtain ⟨f, hf⟩ : ∃ f : Nat, 2 + b.n = f := ⟨_, rfl⟩
  have Hf := Lib.hid hf
  have hfle : f ≤ 4096 := by omega
  have Hfl := Lib.hid (pd_flush hBr.inn.disk hO.good (by omega))
  obtain ⟨c0, _⟩ := h.cells
  have HO := Lib.hid hO; have Hst := Lib.hid hst
  clear hf hO hst
  go_enter Tryz.func89, Tryz.ntmps89
  go_wp2_with (first | (go_at_call 51; refine Hfl.out.mono ?_))
  rintro e w1 ⟨v1, rfl, hT1⟩
  obtain ⟨F1, hE1, hB1, _⟩ := hBr.disk hT1 Hst.out.f1
  clear Hfl hT1 c0 h hBr
  by_cases n1 : (st1 b).2 = 0
  case neg =>
    have hE1' : ErrV w1 (st1 b).2 v1 := hE1
    obtain ⟨t, x, rfl⟩ := hE1'.held n1
    have hq := neq_held t x
    have Hfin := Lib.hid (show BringP b Fd gd gr bn bt g w (.returned (.iface t x)) w1 from ⟨_, F1, rfl, by rw [bring_e1 n1]; exact hE1', by rw [bring_e1 n1]; exact hB1⟩)
    clear hE1 hE1' hB1 n1
    go_wp2
    go_ret
    exact Hfin.out
  have hE1' : ErrV w1 (st1 b).2 v1 := hE1
  rw [n1] at hE1'
  obtain rfl := ErrV.zero hE1'
  have N1 := Lib.hid n1
  have hB1' : Br Fd gd gr bn bt g w { b with S := (st1 b).1 } F1 w1 := hB1
  have Hor := Lib.hid (inOrder_any hB1'.inn.news (fun c hc => by have := (HO.out.newsW c hc).1; have : b.pages ≤ 2048 := Nat.min_le_right _ _; omega) (by show b.news.length ≤ 4096; omega))
  obtain ⟨c0, c1, c2, c3, c4, c5, _⟩ := hB1'.inn.cells
  clear hE1 hE1' hB1 n1 c0 c1 c2 c3 c4
  go_wp2_with (first | (go_at_call 90; refine Hor.out.mono ?_))
  rintro e w2 ⟨bo, cp, rfl, hbo, hC2, hb2⟩
  have hB2 := hB1'.below hb2
  have hnF : ¬ F1 bo := fun hk => by have := hB1'.inn.disk.lt hk; omega
  have hbw : w.heap.size ≤ bo := Nat.le_trans hB1'.only.size hbo
  obtain ⟨K, hK⟩ : ∃ K, b.news.length = K := ⟨_, rfl⟩
  have HK := Lib.hid hK
  have hC2' : Chgs w2.heap.size w2 (some ⟨bo, 0, none⟩) b.news := hC2
  rw [hK]
  have hho : HoOk b 0 (st1 b).1 := ⟨Hst.out.g1, Hst.out.c1, Hst.out.f1, rfl⟩
  rw [hK] at hnl
  clear Hor hK hC2 c5 hb2 hB1' hbo
  have hbol : bo < w2.heap.size ∨ K = 0 := by
    rcases hC2' with h | ⟨b9, e9, h9, _⟩
    · right; rw [← HK.out, h]; rfl
    · left
      simp only [Option.some.injEq, Addr.mk.injEq, and_true] at e9
      rw [e9]; exact h9
  go_wp2
  go_loopg [26] K (fun gg i wr => ∃ (k : Nat) (Sk : St) (Fk : Nat → Prop), k ≤ K ∧ gg = K - k ∧ i = .int .i64 k ∧ Br Fd gd gr bn bt g w { b with S := Sk } Fk wr ∧ Chgs wr.heap.size wr (some ⟨bo, 0, none⟩) b.news ∧ ¬ Fk bo ∧ (bo < wr.heap.size ∨ K = 0) ∧ HoOk b k Sk)
  case atStart => exact ⟨0, _, F1, by omega, rfl, rfl, hB2, hC2', hnF, hbol, hho⟩
  case round =>
    clear hB2 hC2' hnF hbol hho
    obtain ⟨k, Sk, Fk, hk, rfl, rfl, hB, hC, hnF, hbol, hho⟩ := hrel
    by_cases hlt : k < K
    · -- a page goes home
      have hlt' : (k : Int) < K := by omega
      have hbl : bo < wr.heap.size := hbol.resolve_right (by omega)
      obtain ⟨c, hc⟩ : ∃ c, b.news[k]? = some c := ⟨_, List.getElem?_eq_getElem (by rw [HK.out]; exact hlt)⟩
      have hcm := HO.out.newsW c (List.mem_of_getElem? hc)
      have hrng := chgs_range hC hc
      have hdrop : b.news.drop k = c :: b.news.drop (k + 1) := by
        obtain ⟨hl, rfl⟩ := List.getElem?_eq_some_iff.1 hc
        rw [List.drop_eq_getElem_cons hl]
      obtain ⟨cv, Hcv⟩ : ∃ cv : List Value, Hid (cv = chgC c) := ⟨_, rfl⟩
      rw [← Hcv.out] at hrng
      have hcvl : cv.length = 65 := by rw [Hcv.out]; exact chgC_len hcm.2
      have hci : Hid ((Tryz.prog.info? 194).map (·.size) = some cv.length) := by rw [hcvl]; exact infoChg65
      have hci2 : Hid ((Tryz.prog.info? 194).map (·.size) = some cv.toArray.size) := by rw [List.size_toArray, hcvl]; exact infoChg65
      have hcz : Hid (zChg.toArray.size = cv.toArray.size) := by
        have e : cv.toArray.size = 65 := by rw [List.size_toArray, hcvl]
        rw [e]; exact (rfl : zChg.toArray.size = 65)
      have hc1 : Hid (cv.toArray.all (·.oneCell') = true) := by rw [Hcv.out]; exact all_oneCell_toArray (chgC_one c)
      have Hrng := Lib.hid hrng; have Hdrop := Lib.hid hdrop
      obtain ⟨at_, hat⟩ : ∃ at_, c.at_ = at_ := ⟨_, rfl⟩
      have hat2 : at_ < b.pages := by rw [← hat]; exact hcm.1
      have hhome := HO.out.home hat2
      have Hhome := Lib.hid hhome
      clear hrng hdrop hhome
      go_upto_region 7 with (first
        | (refine wpList_load_mid rfl 194 _ rfl bo (k * 65) rfl cv _ Hrng.out Tryz.underlying194 rfl hci.out ?_)
        | (refine wpList_alloc_arr rfl 194 rfl _ allocChg ?_)
        | (refine wpList_store_new rfl 194 _ _ rfl wr.heap.size rfl cv.toArray rfl rfl 194 _ hci2.out hcz.out hc1.out ?_))
      have hb3 : Below wr.heap.size wr (wr.alloc (.cells cv.toArray 194)) := (Below.refl _ _).alloc (Nat.le_refl _) _
      have hy3 : (wr.alloc (.cells cv.toArray 194)).heap[wr.heap.size]? = some (.cells cv.toArray 194 (0, 0)) := heap_alloc_new wr _
      have hB3 := hB.below hb3
      have hC3 := chgs_block hC (hb3.block bo hbl) (Nat.lt_of_lt_of_le hbl hb3.size)
      have hbl3 := Nat.lt_of_lt_of_le hbl hb3.size
      generalize wr.alloc (.cells cv.toArray 194) = w3 at hb3 hy3 hB3 hC3 hbl3 ⊢
      obtain ⟨y, hy⟩ : ∃ y, wr.heap.size = y := ⟨_, rfl⟩
      rw [hy] at hy3 ⊢
      clear hy hb3 hC hB hci hci2 hcz hc1 Hrng hbl hbol
      obtain ⟨pv, Hpv⟩ : ∃ pv : List Value, Hid (pv = c.what.map cu8) := ⟨_, rfl⟩
      have hpvl : pv.length = 64 := by rw [Hpv.out, List.length_map, hcm.2]
      have hpi : Hid ((Tryz.prog.info? 33).map (·.size) = some pv.length) := by rw [hpvl]; exact info64
      have hpp : IsPage pv := by rw [Hpv.out]; exact bytes_page hcm.2
      have hyc : cv = .int .i64 at_ :: pv := by rw [Hcv.out, Hpv.out, ← hat]; rfl
      have hyl : y < w3.heap.size := (Array.getElem?_eq_some_iff.1 hy3).1
      refine wp_region_up 13 (fun w' => Below w3.heap.size w3 w') (by kernel_rfl) ?_
      have hb4 : Below w3.heap.size w3 { w3 with drawn := w3.drawn + 1 } := ⟨rfl, rfl, rfl, Nat.le_refl _, fun _ _ => rfl⟩
      obtain ⟨wd, hdr⟩ : ∃ wd : World, ({ w3 with drawn := w3.drawn + 1 } : World) = wd := ⟨_, rfl⟩
      rw [hdr] at hb4 ⊢
      have HL := Lib.hid (fun W (hW : Below w3.heap.size w3 W) => run_loadAt_mid (P := Tryz.prog) W y 1 33 pv _ (fun j v hj => by rw [cell_of_row W y (1 + j) _ _ _ ((hW.block y hyl).trans hy3), hyc, List.getElem?_toArray, Nat.add_comm 1 j, List.getElem?_cons_succ]; exact hj) Tryz.underlying33 rfl hpi.out)
      have Hc := Lib.hid (fun W (hW : Below w3.heap.size w3 W) => show W.cell? ⟨g, 0, none⟩ = some (.pointer (some ⟨gd, 0, none⟩)) ∧ W.cell? ⟨g, 2, none⟩ = some (.int .i64 f) ∧ W.cell? ⟨y, 0, none⟩ = some (.int .i64 at_) by
        obtain ⟨c0, c1, c2, _⟩ := (hB3.inn.below hW).cells
        rw [show 2 + ({ b with S := Sk } : Bk).n = f from Hf.out] at c2
        refine ⟨c0, c2, ?_⟩
        rw [cell_of_row W y 0 _ _ _ ((hW.block y hyl).trans hy3), hyc]; rfl)
      have wadd : IntKind.i64.wrap ((f : Int) + (at_ : Int)) = ((f + at_ : Nat) : Int) := by rw [IntWalk.i64_in _ (by have := Hhome.out; have := Hf.out; omega)]; omega
      have hB4 := hB3.below hb4
      have hC4 := chgs_block hC3 (hb4.block bo hbl3) (Nat.lt_of_lt_of_le hbl3 hb4.size)
      have hbl4 := Nat.lt_of_lt_of_le hbl3 hb4.size
      have Hwr := Lib.hid (pd_write hB4.inn.disk hho.good (by have := hho.count; show Sk.ats.length ≤ 1048576; omega) ((f + at_ : Nat) : Int) pv hpp)
      clear hdr hB3 hC3 hbl3 hy3 hyc
      refine up_take (i := 0) (v := .pointer (some ⟨g, 0, none⟩)) rfl (by kernel_rfl) (by kernel_rfl) (fun _ _ _ h => h) (Or.inl ⟨by rfl, ?_⟩) hb4 ?_
      · intro w' _; go_simp
      try simp only [List.getElem_toArray, List.getElem_cons_succ, List.getElem_cons_zero, Act.put, List.setIfInBounds_toArray, List.set]
      refine up_take (i := 1) (v := .pointer (some ⟨g, 0, none⟩)) rfl (by kernel_rfl) (by kernel_rfl) (fun _ _ _ h => h) (Or.inl ⟨by rfl, ?_⟩) hb4 ?_
      · intro w' _; go_simp
      try simp only [List.getElem_toArray, List.getElem_cons_succ, List.getElem_cons_zero, Act.put, List.setIfInBounds_toArray, List.set]
      refine up_take (i := 2) (v := .pointer (some ⟨g, 0, none⟩)) rfl (by kernel_rfl) (by kernel_rfl) (fun _ _ _ h => h) (Or.inl ⟨by rfl, ?_⟩) hb4 ?_
      · intro w' _; go_simp
      try simp only [List.getElem_toArray, List.getElem_cons_succ, List.getElem_cons_zero, Act.put, List.setIfInBounds_toArray, List.set]
      refine up_take (i := 3) (v := .pointer (some ⟨gd, 0, none⟩)) rfl (by kernel_rfl) (by kernel_rfl) (fun _ _ _ h => h) (Or.inl ⟨by rfl, ?_⟩) hb4 ?_
      · intro w' hS'
        obtain ⟨d0, d2, dy⟩ := Hc.out w' hS'
        clear hS'
        go_simp
      try simp only [List.getElem_toArray, List.getElem_cons_succ, List.getElem_cons_zero, Act.put, List.setIfInBounds_toArray, List.set]
      refine up_take (i := 4) (v := .pointer (some ⟨g, 0, none⟩)) rfl (by kernel_rfl) (by kernel_rfl) (fun _ _ _ h => h) (Or.inl ⟨by rfl, ?_⟩) hb4 ?_
      · intro w' _; go_simp
      try simp only [List.getElem_toArray, List.getElem_cons_succ, List.getElem_cons_zero, Act.put, List.setIfInBounds_toArray, List.set]
      refine up_take (i := 5) (v := .pointer (some ⟨g, 0, none⟩)) rfl (by kernel_rfl) (by kernel_rfl) (fun _ _ _ h => h) (Or.inl ⟨by rfl, ?_⟩) hb4 ?_
      · intro w' _; go_simp
      try simp only [List.getElem_toArray, List.getElem_cons_succ, List.getElem_cons_zero, Act.put, List.setIfInBounds_toArray, List.set]
      refine up_take (i := 6) (v := .pointer (some ⟨g, 2, none⟩)) rfl (by kernel_rfl) (by kernel_rfl) (fun _ _ _ h => h) (Or.inl ⟨by rfl, ?_⟩) hb4 ?_
      · intro w' _; go_simp
      try simp only [List.getElem_toArray, List.getElem_cons_succ, List.getElem_cons_zero, Act.put, List.setIfInBounds_toArray, List.set]
      refine up_take (i := 7) (v := .int .i64 f) rfl (by kernel_rfl) (by kernel_rfl) (fun _ _ _ h => h) (Or.inl ⟨by rfl, ?_⟩) hb4 ?_
      · intro w' hS'
        obtain ⟨d0, d2, dy⟩ := Hc.out w' hS'
        clear hS'
        go_simp
      try simp only [List.getElem_toArray, List.getElem_cons_succ, List.getElem_cons_zero, Act.put, List.setIfInBounds_toArray, List.set]
      refine up_take (i := 8) (v := .pointer (some ⟨y, 0, none⟩)) rfl (by kernel_rfl) (by kernel_rfl) (fun _ _ _ h => h) (Or.inl ⟨by rfl, ?_⟩) hb4 ?_
      · intro w' _; go_simp
      try simp only [List.getElem_toArray, List.getElem_cons_succ, List.getElem_cons_zero, Act.put, List.setIfInBounds_toArray, List.set]
      refine up_take (i := 9) (v := .int .i64 at_) rfl (by kernel_rfl) (by kernel_rfl) (fun _ _ _ h => h) (Or.inl ⟨by rfl, ?_⟩) hb4 ?_
      · intro w' hS'
        obtain ⟨d0, d2, dy⟩ := Hc.out w' hS'
        clear hS'
        go_simp
      try simp only [List.getElem_toArray, List.getElem_cons_succ, List.getElem_cons_zero, Act.put, List.setIfInBounds_toArray, List.set]
      refine up_take (i := 10) (v := .int .i64 ((f + at_ : Nat) : Int)) rfl (by kernel_rfl) (by kernel_rfl) (fun _ _ _ h => h) (Or.inl ⟨by rfl, ?_⟩) hb4 ?_
      · intro w' _; go_simp
      try simp only [List.getElem_toArray, List.getElem_cons_succ, List.getElem_cons_zero, Act.put, List.setIfInBounds_toArray, List.set]
      refine up_take (i := 11) (v := .pointer (some ⟨y, 1, none⟩)) rfl (by kernel_rfl) (by kernel_rfl) (fun _ _ _ h => h) (Or.inl ⟨by rfl, ?_⟩) hb4 ?_
      · intro w' _; go_simp
      try simp only [List.getElem_toArray, List.getElem_cons_succ, List.getElem_cons_zero, Act.put, List.setIfInBounds_toArray, List.set]
      refine up_take (i := 12) (v := .agg pv.toArray) rfl (by kernel_rfl) (by kernel_rfl) (fun _ _ _ h => h) (Or.inl ⟨by rfl, ?_⟩) hb4 ?_
      · intro w' hS'; exact exec_load _ _ 33 _ rfl y 1 rfl _ (HL.out w' hS')
      try simp only [List.getElem_toArray, List.getElem_cons_succ, List.getElem_cons_zero, Act.put, List.setIfInBounds_toArray, List.set]
      refine up_tail ?_
      refine up_last 13 _ rfl (by kernel_rfl) (by decide) (by rfl) (fun K hK => ?_)
      go_simp
      refine Hwr.out.mono ?_
      rintro e w5 ⟨v5, rfl, hT5⟩
      refine hK _ _ ?_
      clear hK K
      try simp only [List.getElem_toArray, List.getElem_cons_succ, List.getElem_cons_zero, Act.put, List.setIfInBounds_toArray, List.set]
      refine up_last 14 _ rfl (by kernel_rfl) (by decide) (by rfl) (fun K hK => ?_)
      go_simp
      refine hK _ _ ?_
      clear hK K
      try simp only [List.getElem_toArray, List.getElem_cons_succ, List.getElem_cons_zero, Act.put, List.setIfInBounds_toArray, List.set]
      refine up_done (by kernel_rfl) ?_ _
      obtain ⟨F5, hE5, hB5, hF5⟩ := hB4.disk hT5 (by rw [write_firm])
      have hbl5 : bo < w5.heap.size := Nat.lt_of_lt_of_le hbl4 (by obtain ⟨_, _, _, ho, _⟩ := hT5; exact ho.size)
      have hC5 := chgs_block hC4 (by obtain ⟨_, _, _, ho, _⟩ := hT5; exact ho.block bo hbl4 hnF) hbl5
      have hnF5 : ¬ F5 bo := fun hk => (hF5 bo hk).elim hnF (fun h => by omega)
      clear hT5 hB4 hC4 HL Hc Hwr hF5
      have hstep : ∀ (S : St) (n : Int), writeOf Sk ((f + at_ : Nat) : Int) pv = (S, n) → st2 b = if n = 0 then homesOf (2 + b.n) S (b.news.drop (k + 1)) else (S, n) := fun S n e => by
        rw [← hho.rest, Hdrop.out, homesOf, hat, ← Hpv.out, Hf.out, e]
      have hgw := good_write hho.good ((f + at_ : Nat) : Int) pv
      have hcw := write_count Sk ((f + at_ : Nat) : Int) pv
      have hfw := write_firm Sk ((f + at_ : Nat) : Int) pv
      obtain ⟨S5, hS5⟩ : ∃ S5, (writeOf Sk ((f + at_ : Nat) : Int) pv).1 = S5 := ⟨_, rfl⟩
      obtain ⟨n5, hn5⟩ : ∃ n5, (writeOf Sk ((f + at_ : Nat) : Int) pv).2 = n5 := ⟨_, rfl⟩
      have hst2 := hstep S5 n5 (by rw [← hS5, ← hn5])
      rw [hS5] at hB5 hgw hcw hfw
      rw [hn5] at hE5
      clear hS5 hn5 hstep
      by_cases n2 : n5 = 0
      · subst n2
        obtain rfl := ErrV.zero hE5
        rw [if_pos rfl] at hst2
        have hho' : HoOk b (k + 1) S5 := ⟨hgw, by have := hho.count; omega, by rw [hfw]; exact hho.firm, hst2.symm⟩
        clear hE5 hgw hcw hfw hst2 hho hcm Hhome
        go_wp2
        go_roundg (K - (k + 1))
        case measure => omega
        case rel => exact ⟨k + 1, S5, F5, by omega, rfl, by go_num, hB5, hC5, hnF5, .inl hbl5, hho'⟩
      · rw [if_neg n2] at hst2
        obtain ⟨t, x, rfl⟩ := hE5.held n2
        have hq := neq_held t x
        have e2 : (st2 b).2 = n5 := by rw [hst2]
        have Hfin := Lib.hid (show BringP b Fd gd gr bn bt g w (.returned (.iface t x)) w5 from ⟨_, F5, rfl, by rw [bring_e2 N1.out (by rw [e2]; exact n2), e2]; exact hE5, by rw [bring_e2 N1.out (by rw [e2]; exact n2), hst2]; exact hB5⟩)
        clear hE5 hB5 n2 hst2 e2 hgw hcw hfw hho hcm
        go_wp2
        go_ret
        exact Hfin.out
    · -- all are home
      obtain rfl : k = K := by omega
      have hst2 : st2 b = (Sk, 0) := by
        rw [← hho.rest, ← HK.out, List.drop_length]; rfl
      have N2 := Lib.hid (show (st2 b).2 = 0 by rw [hst2])
      have hB2 : Br Fd gd gr bn bt g w { b with S := (st2 b).1 } Fk wr := by rw [hst2]; exact hB
      have Hfl := Lib.hid (pd_flush hB2.inn.disk Hst.out.g2 (by have := Hst.out.c2; show (st2 b).1.ats.length ≤ _; omega))
      obtain ⟨c0, _⟩ := hB2.inn.cells
      clear hB hC hnF hbol hho hst2
      go_wp2_with (first | (go_at_call 51; refine Hfl.out.mono ?_))
      rintro e w3 ⟨v3, rfl, hT3⟩
      obtain ⟨F3, hE3, hB3, _⟩ := hB2.disk hT3 (by show (st3 b).1.firm.length = (st2 b).1.firm.length; rw [Hst.out.f3, Hst.out.f2])
      clear Hfl hT3 c0 hB2
      have hE3 : ErrV w3 (st3 b).2 v3 := hE3
      have hB3 : Br Fd gd gr bn bt g w { b with S := (st3 b).1 } F3 w3 := hB3
      by_cases n3 : (st3 b).2 = 0
      case neg =>
        obtain ⟨t, x, rfl⟩ := hE3.held n3
        have hq := neq_held t x
        have Hfin := Lib.hid (show BringP b Fd gd gr bn bt g w (.returned (.iface t x)) w3 from ⟨_, F3, rfl, by rw [bring_e3 N1.out N2.out n3]; exact hE3, by rw [bring_e3 N1.out N2.out n3]; exact hB3⟩)
        clear hE3 hB3 n3
        go_wp2
        go_ret
        exact Hfin.out
      rw [n3] at hE3
      obtain rfl := ErrV.zero hE3
      have N3 := Lib.hid n3
      clear hE3 n3
      -- the next generation, the mark
      obtain ⟨G, hG⟩ : ∃ G, nextGen b = G := ⟨_, rfl⟩
      have hG64 : G < 18446744073709551616 := by rw [← hG]; exact nextGen_lt b
      have hgen := HO.out.gen
      obtain ⟨gg, hgg⟩ : ∃ gg, b.gen = gg := ⟨_, rfl⟩
      have wG : IntKind.u64.wrap ((gg : Int) + 1) = (G : Int) := by rw [IntKind.wrap_u64, ← hG, ← hgg]; unfold nextGen; omega
      obtain ⟨mv, Hmv⟩ : ∃ mv : List Value, Hid (mv = markCells b.m) := ⟨_, rfl⟩
      have hmvl : mv.length = 34 := by rw [Hmv.out]; simp [markCells, HO.out.last]
      obtain ⟨zm, Hzm⟩ : ∃ zm : Array Value, Hid (zm = zMark.toArray) := ⟨_, rfl⟩
      have halm : ∀ w : World, (Instr.alloc 156 true (.tuple #[])).run Tryz.prog w = .ok (.pointer (some ⟨w.heap.size, 0, none⟩)) (w.alloc (.cells zm 156)) := by rw [Hzm.out]; exact allocMark
      have hmi : Hid ((Tryz.prog.info? 156).map (·.size) = some mv.toArray.size) := by rw [Hmv.out]; exact markInfo HO.out.last
      have hmz : Hid (zm.size = mv.toArray.size) := by rw [Hmv.out, Hzm.out]; exact markSize HO.out.last (List.length_replicate)
      have hm1 : Hid (mv.toArray.all (·.oneCell') = true) := by rw [Hmv.out]; exact markOne b.m
      have Hhd := Lib.hid (fun W (hW : Below w3.heap.size w3 W) => by
        have := head_any ((hB3.below hW).inn.ring)
        rw [show ({ b with S := (st3 b).1 } : Bk).m = b.m from rfl, ← Hmv.out] at this
        exact this)
      have Hc := Lib.hid (fun W (hW : Below w3.heap.size w3 W) => show W.cell? ⟨g, 4, none⟩ = some (.int .u64 gg) ∧ W.cell? ⟨g, 1, none⟩ = some (.pointer (some ⟨gr, 0, none⟩)) by
        obtain ⟨c0, c1, c2, c3, c4, _⟩ := (hB3.below hW).inn.cells
        rw [show ({ b with S := (st3 b).1 } : Bk).gen = gg from hgg] at c4
        exact ⟨c4, c1⟩)
      have HG := Lib.hid hG; have Hgg := Lib.hid hgg
      clear hG hgg
      go_upto_region 14 with (fail)
      refine wp_region_up 12 (fun w' => Below w3.heap.size w3 w') (by kernel_rfl) ?_
      have hb4 : Below w3.heap.size w3 { w3 with drawn := w3.drawn + 1 } := ⟨rfl, rfl, rfl, Nat.le_refl _, fun _ _ => rfl⟩
      obtain ⟨wd, hdr⟩ : ∃ wd : World, ({ w3 with drawn := w3.drawn + 1 } : World) = wd := ⟨_, rfl⟩
      rw [hdr] at hb4 ⊢
      clear hdr
      apply cut2 (R := fun x w7 => w7.heap[x]? = some (.cells mv.toArray 156 (0, 0)) ∧ Below w3.heap.size w3 w7 ∧ w3.heap.size ≤ x)
      case walk =>
        intro key
        refine up_take (i := 0) (v := .pointer (some ⟨g, 0, none⟩)) rfl (by kernel_rfl) (by kernel_rfl) (fun _ _ _ h => h) (Or.inl ⟨by rfl, ?_⟩) hb4 ?_
        · intro w' _; go_simp
        try simp only [List.getElem_toArray, List.getElem_cons_succ, List.getElem_cons_zero, Act.put, List.setIfInBounds_toArray, List.set]
        refine up_take (i := 1) (v := .pointer (some ⟨g, 0, none⟩)) rfl (by kernel_rfl) (by kernel_rfl) (fun _ _ _ h => h) (Or.inl ⟨by rfl, ?_⟩) hb4 ?_
        · intro w' _; go_simp
        try simp only [List.getElem_toArray, List.getElem_cons_succ, List.getElem_cons_zero, Act.put, List.setIfInBounds_toArray, List.set]
        refine up_take (i := 2) (v := .pointer (some ⟨g, 4, none⟩)) rfl (by kernel_rfl) (by kernel_rfl) (fun _ _ _ h => h) (Or.inl ⟨by rfl, ?_⟩) hb4 ?_
        · intro w' _; go_simp
        try simp only [List.getElem_toArray, List.getElem_cons_succ, List.getElem_cons_zero, Act.put, List.setIfInBounds_toArray, List.set]
        refine up_take (i := 3) (v := .int .u64 gg) rfl (by kernel_rfl) (by kernel_rfl) (fun _ _ _ h => h) (Or.inl ⟨by rfl, ?_⟩) hb4 ?_
        · intro w' hS'
          obtain ⟨d4, d1⟩ := Hc.out w' hS'
          clear hS'
          go_simp
        try simp only [List.getElem_toArray, List.getElem_cons_succ, List.getElem_cons_zero, Act.put, List.setIfInBounds_toArray, List.set]
        refine up_take (i := 4) (v := .int .u64 G) rfl (by kernel_rfl) (by kernel_rfl) (fun _ _ _ h => h) (Or.inl ⟨by rfl, ?_⟩) hb4 ?_
        · intro w' _; go_simp
        try simp only [List.getElem_toArray, List.getElem_cons_succ, List.getElem_cons_zero, Act.put, List.setIfInBounds_toArray, List.set]
        refine up_take (i := 5) (v := .pointer (some ⟨g, 0, none⟩)) rfl (by kernel_rfl) (by kernel_rfl) (fun _ _ _ h => h) (Or.inl ⟨by rfl, ?_⟩) hb4 ?_
        · intro w' _; go_simp
        try simp only [List.getElem_toArray, List.getElem_cons_succ, List.getElem_cons_zero, Act.put, List.setIfInBounds_toArray, List.set]
        refine up_take (i := 6) (v := .pointer (some ⟨g, 0, none⟩)) rfl (by kernel_rfl) (by kernel_rfl) (fun _ _ _ h => h) (Or.inl ⟨by rfl, ?_⟩) hb4 ?_
        · intro w' _; go_simp
        try simp only [List.getElem_toArray, List.getElem_cons_succ, List.getElem_cons_zero, Act.put, List.setIfInBounds_toArray, List.set]
        refine up_take (i := 7) (v := .pointer (some ⟨g, 1, none⟩)) rfl (by kernel_rfl) (by kernel_rfl) (fun _ _ _ h => h) (Or.inl ⟨by rfl, ?_⟩) hb4 ?_
        · intro w' _; go_simp
        try simp only [List.getElem_toArray, List.getElem_cons_succ, List.getElem_cons_zero, Act.put, List.setIfInBounds_toArray, List.set]
        refine up_take (i := 8) (v := .pointer (some ⟨gr, 0, none⟩)) rfl (by kernel_rfl) (by kernel_rfl) (fun _ _ _ h => h) (Or.inl ⟨by rfl, ?_⟩) hb4 ?_
        · intro w' hS'
          obtain ⟨d4, d1⟩ := Hc.out w' hS'
          clear hS'
          go_simp
        try simp only [List.getElem_toArray, List.getElem_cons_succ, List.getElem_cons_zero, Act.put, List.setIfInBounds_toArray, List.set]
        refine up_two 9 10 _ _ rfl rfl (by kernel_rfl) (by decide) (by decide) (by rfl) (by rfl) (fun K hK => ?_) (fun K hK => ?_)
        · go_simp
          refine (Hhd.out _ hb4).mono ?_
          rintro e w5 ⟨rv, hrv, rfl, hq⟩
          obtain rfl : rv = mv.toArray := hrv.out
          have hb5 := hb4.trans (hq.mono hb4.size)
          refine hK _ _ hb5 ?_
          clear hK K hq hrv
          try simp only [List.getElem_toArray, List.getElem_cons_succ, List.getElem_cons_zero, Act.put, List.setIfInBounds_toArray, List.set]
          refine up_one 10 _ rfl (by kernel_rfl) (by decide) (by rfl) (fun K hK => ?_)
          refine wp_alloc_arr 156 rfl zm halm ?_
          have hb6 := hb5.trans (((Below.refl w5.heap.size w5).alloc (Nat.le_refl _) (.cells zm 156)).mono hb5.size)
          have hxn : (w5.alloc (.cells zm 156)).heap[w5.heap.size]? = some (.cells zm 156 (0, 0)) := heap_alloc_new w5 _
          have hxs : w3.heap.size ≤ w5.heap.size := hb5.size
          refine hK _ _ hb6 ?_
          clear hK K
          try simp only [List.getElem_toArray, List.getElem_cons_succ, List.getElem_cons_zero, Act.put, List.setIfInBounds_toArray, List.set]
          generalize w5.alloc (.cells zm 156) = w6 at hb6 hxn ⊢
          obtain ⟨x, hx⟩ : ∃ x, w5.heap.size = x := ⟨_, rfl⟩
          rw [hx] at hxn hxs ⊢
          clear hx
          refine up_take (i := 11) (v := .int .u64 G) rfl (by kernel_rfl) (by kernel_rfl) (fun _ _ _ h => h) (Or.inl ⟨by rfl, ?_⟩) hb6 ?_
          · intro w' _; go_simp
          try simp only [List.getElem_toArray, List.getElem_cons_succ, List.getElem_cons_zero, Act.put, List.setIfInBounds_toArray, List.set]
          refine up_tail ?_
          refine up_last 12 _ rfl (by kernel_rfl) (by decide) (by rfl) (fun K hK => ?_)
          refine wp_store_whole 156 _ _ rfl x mv.toArray rfl rfl zm 156 hxn hmi.out hmz.out hm1.out ?_
          intro w7 Hs7 Hg7
          refine hK _ _ ?_
          clear hK K
          try simp only [List.getElem_toArray, List.getElem_cons_succ, List.getElem_cons_zero, Act.put, List.setIfInBounds_toArray, List.set]
          refine up_done (by kernel_rfl) ?_ _
          exact key x w7 ⟨Hs7.out, below_of_grown hb6 Hg7.out (by have := hb6.size; omega) hxs, hxs⟩
        · refine wp_alloc_arr 156 rfl zm halm ?_
          have hb6 := hb4.trans (((Below.refl wd.heap.size wd).alloc (Nat.le_refl _) (.cells zm 156)).mono hb4.size)
          have hxn : (wd.alloc (.cells zm 156)).heap[wd.heap.size]? = some (.cells zm 156 (0, 0)) := heap_alloc_new wd _
          have hxs : w3.heap.size ≤ wd.heap.size := hb4.size
          refine hK _ _ hb6 ?_
          clear hK K
          try simp only [List.getElem_toArray, List.getElem_cons_succ, List.getElem_cons_zero, Act.put, List.setIfInBounds_toArray, List.set]
          generalize wd.alloc (.cells zm 156) = w6 at hb6 hxn ⊢
          obtain ⟨x, hx⟩ : ∃ x, wd.heap.size = x := ⟨_, rfl⟩
          rw [hx] at hxn hxs ⊢
          clear hx
          have hxl : x < w6.heap.size := (Array.getElem?_eq_some_iff.1 hxn).1
          refine up_one 9 _ rfl (by kernel_rfl) (by decide) (by rfl) (fun K hK => ?_)
          go_simp
          refine (Hhd.out _ hb6).mono ?_
          rintro e w5 ⟨rv, hrv, rfl, hq⟩
          obtain rfl : rv = mv.toArray := hrv.out
          have hxn := (hq.block x hxl).trans hxn
          have hb5 := hb6.trans (hq.mono hb6.size)
          refine hK _ _ hb5 ?_
          clear hK K hq hrv
          try simp only [List.getElem_toArray, List.getElem_cons_succ, List.getElem_cons_zero, Act.put, List.setIfInBounds_toArray, List.set]
          refine up_take (i := 11) (v := .int .u64 G) rfl (by kernel_rfl) (by kernel_rfl) (fun _ _ _ h => h) (Or.inl ⟨by rfl, ?_⟩) hb5 ?_
          · intro w' _; go_simp
          try simp only [List.getElem_toArray, List.getElem_cons_succ, List.getElem_cons_zero, Act.put, List.setIfInBounds_toArray, List.set]
          refine up_tail ?_
          refine up_last 12 _ rfl (by kernel_rfl) (by decide) (by rfl) (fun K hK => ?_)
          refine wp_store_whole 156 _ _ rfl x mv.toArray rfl rfl zm 156 hxn hmi.out hmz.out hm1.out ?_
          intro w7 Hs7 Hg7
          refine hK _ _ ?_
          clear hK K
          try simp only [List.getElem_toArray, List.getElem_cons_succ, List.getElem_cons_zero, Act.put, List.setIfInBounds_toArray, List.set]
          refine up_done (by kernel_rfl) ?_ _
          exact key x w7 ⟨Hs7.out, below_of_grown hb5 Hg7.out (by have := hb5.size; omega) hxs, hxs⟩
      case pf =>
      intro x w7 hR
      obtain ⟨hx7, hb7, hx3⟩ := hR
      have hB7 := hB3.below hb7
      have hfootx : ∀ j, BFoot F3 gr bn bt g j → j < x := fun j hj => Nat.lt_of_lt_of_le (hB3.inn.foot_lt hj) hx3
      have hxw : w.heap.size ≤ x := Nat.le_trans hB3.only.size hx3
      obtain ⟨d, Hd⟩ : ∃ d, Hid (d = dig (b.m.last ++ leN 8 G)) := ⟨_, rfl⟩
      have hdl : d.length = 32 := by rw [Hd.out]; exact dig_len _
      have hnm : nextMk b = ⟨b.m.place, b.m.num, d⟩ := by unfold nextMk; rw [Hd.out, HG.out]
      have Hnm := Lib.hid hnm
      obtain ⟨lv, Hlv⟩ : ∃ lv : List Value, Hid (lv = b.m.last.map cu8) := ⟨_, rfl⟩
      obtain ⟨dv, Hdv⟩ : ∃ dv : List Value, Hid (dv = d.map cu8) := ⟨_, rfl⟩
      have hlr := mark_range (m := b.m) (by rw [← Hmv.out]; exact hx7)
      rw [← Hlv.out] at hlr
      have Hlr := Lib.hid hlr
      have hli : Hid ((Tryz.prog.info? 56).map (·.size) = some lv.length) := by rw [Hlv.out, List.length_map, HO.out.last]; exact (by kernel_rfl : (Tryz.prog.info? 56).map (·.size) = some 32)
      have hbh := behind_any b.m.last G HO.out.last w7
      unfold BehindP at hbh
      rw [← Hd.out, ← Hdv.out, ← Hlv.out] at hbh
      have hbh : Calls Tryz.prog 120 #[.agg lv.toArray, .int .u64 G] w7 (RetP (.agg dv.toArray) w7) := hbh
      have Hbh := Lib.hid hbh
      have hdi : Hid ((Tryz.prog.info? 56).map (·.size) = some dv.toArray.size) := by rw [List.size_toArray, Hdv.out, List.length_map, hdl]; exact (by kernel_rfl : (Tryz.prog.info? 56).map (·.size) = some 32)
      have hdf : Hid (2 + dv.toArray.size ≤ mv.length) := by
        show 2 + dv.toArray.size ≤ mv.length
        rw [List.size_toArray, Hdv.out, List.length_map, hdl, hmvl]; omega
      have hd1 : Hid (∀ v ∈ dv.toArray.toList, v.oneCell' = true) := fun v hv => by rw [List.toList_toArray, Hdv.out] at hv; obtain ⟨q, _, rfl⟩ := List.mem_map.1 hv; rfl
      clear hlr hbh hnm hB3 Hhd Hc hb7 hmz hm1 halm
      go_wp2_with (first
        | (refine wpList_load_mid rfl 56 _ rfl x 2 rfl lv _ Hlr.out Tryz.underlying56 rfl hli.out ?_)
        | (go_at_call 120; refine Hbh.out.mono ?_))
      rintro e w8 ⟨rfl, hb8⟩
      have hB8 := hB7.below hb8
      have hx8 := (hb8.block x (Array.getElem?_eq_some_iff.1 hx7).1).trans hx7
      have Hx8 := Lib.hid hx8
      clear hB7 hb8 hx7 Hlr hli Hbh hx8
      go_upto_region 16 with (first
        | (refine wpList_store_into rfl 56 _ _ rfl x 2 dv.toArray rfl rfl mv 156 Hx8.out hdi.out hdf.out hd1.out ?_; intro w9 Hs9 Hg9))
      have hB9 := hB8.own hxw hfootx Hg9.out
      obtain ⟨nv, Hnv⟩ : ∃ nv : List Value, Hid (nv = markCells (nextMk b)) := ⟨_, rfl⟩
      have hx9 : w9.heap[x]? = some (.cells nv.toArray 156 (0, 0)) := by
        have e := Hs9.out
        rw [List.toList_toArray, Hmv.out, Hdv.out, splice_mark HO.out.last hdl, ← Hnm.out, ← Hnv.out] at e
        exact e
      have hnl9 : (nextMk b).last.length = 32 := nextMk_last b
      have hni : Hid ((Tryz.prog.info? 156).map (·.size) = some nv.length) := by
        have := (markInfo hnl9).out
        rw [← Hnv.out, List.size_toArray] at this
        exact this
      clear Hs9 Hg9 hB8 Hx8 hdf hd1 hmi
      -- the title is written
      obtain ⟨tv, Htv⟩ : ∃ tv : List Value, Hid (tv = (titleB G (nextMk b)).map cu8) := ⟨_, rfl⟩
      have htp : IsPage tv := by rw [Htv.out]; exact bytes_page (titleB_len hnl9)
      have Hti := Lib.hid (fun W => title_any G (nextMk b) hnl9 (by have := HO.out.ring.place; have := HO.out.ring.n1; show b.m.place < 65536; omega) W)
      unfold TitleP at Hti
      have htV : pageV (titleB G (nextMk b)) = .agg tv.toArray := by rw [Htv.out]; rfl
      rw [htV, ← Hnv.out] at Hti
      obtain ⟨q2, hq2⟩ : ∃ q2 : Nat, G % 2 = q2 := ⟨_, rfl⟩
      have r1 : Int.tmod (G : Int) 2 = (q2 : Int) := by rw [Int.tmod_eq_emod_of_nonneg (by omega)]; omega
      have r2 : (G : Int) % 2 = (q2 : Int) := by omega
      have hq2l : q2 < 2 := by omega
      have r3 : IntKind.u64.wrap (q2 : Int) = (q2 : Int) := by rw [IntKind.wrap_u64]; omega
      have r4 : IntKind.i64.wrap (q2 : Int) = (q2 : Int) := IntWalk.i64_in _ (by omega)
      have r5 : IntKind.u64.wrap ((G : Int) % 2) = (q2 : Int) := by rw [r2, r3]
      have hxl9 : x < w9.heap.size := (Array.getElem?_eq_some_iff.1 hx9).1
      have Hq2 := Lib.hid hq2
      have Hc := Lib.hid (fun W (hW : Below w9.heap.size w9 W) => show W.cell? ⟨g, 0, none⟩ = some (.pointer (some ⟨gd, 0, none⟩)) by
        obtain ⟨c0, _⟩ := (hB9.below hW).inn.cells
        exact c0)
      have HLm := Lib.hid (fun W (hW : Below w9.heap.size w9 W) => run_loadAt_mid (P := Tryz.prog) W x 0 156 nv _ (fun j v hj => by rw [Nat.zero_add, cell_of_row W x j _ _ _ ((hW.block x hxl9).trans hx9)]; simpa using hj) Tryz.underlying156 rfl hni.out)
      have Hwr := Lib.hid (fun W (hW : Below w9.heap.size w9 W) => pd_write (hB9.below hW).inn.disk Hst.out.g3 (by have := Hst.out.c3; show (st3 b).1.ats.length ≤ _; omega) ((q2 : Nat) : Int) tv htp)
      clear hq2 htV
      refine wp_region_up 10 (fun w' => Below w9.heap.size w9 w') (by kernel_rfl) ?_
      have hb10 : Below w9.heap.size w9 { w9 with drawn := w9.drawn + 1 } := ⟨rfl, rfl, rfl, Nat.le_refl _, fun _ _ => rfl⟩
      obtain ⟨wd, hdr⟩ : ∃ wd : World, ({ w9 with drawn := w9.drawn + 1 } : World) = wd := ⟨_, rfl⟩
      rw [hdr] at hb10 ⊢
      clear hdr
      refine up_take (i := 0) (v := .pointer (some ⟨g, 0, none⟩)) rfl (by kernel_rfl) (by kernel_rfl) (fun _ _ _ h => h) (Or.inl ⟨by rfl, ?_⟩) hb10 ?_
      · intro w' _; go_simp
      try simp only [List.getElem_toArray, List.getElem_cons_succ, List.getElem_cons_zero, Act.put, List.setIfInBounds_toArray, List.set]
      refine up_take (i := 1) (v := .pointer (some ⟨g, 0, none⟩)) rfl (by kernel_rfl) (by kernel_rfl) (fun _ _ _ h => h) (Or.inl ⟨by rfl, ?_⟩) hb10 ?_
      · intro w' _; go_simp
      try simp only [List.getElem_toArray, List.getElem_cons_succ, List.getElem_cons_zero, Act.put, List.setIfInBounds_toArray, List.set]
      refine up_take (i := 2) (v := .pointer (some ⟨g, 0, none⟩)) rfl (by kernel_rfl) (by kernel_rfl) (fun _ _ _ h => h) (Or.inl ⟨by rfl, ?_⟩) hb10 ?_
      · intro w' _; go_simp
      try simp only [List.getElem_toArray, List.getElem_cons_succ, List.getElem_cons_zero, Act.put, List.setIfInBounds_toArray, List.set]
      refine up_take (i := 3) (v := .pointer (some ⟨gd, 0, none⟩)) rfl (by kernel_rfl) (by kernel_rfl) (fun _ _ _ h => h) (Or.inl ⟨by rfl, ?_⟩) hb10 ?_
      · intro w' hS'
        have d0 := Hc.out w' hS'
        clear hS'
        go_simp
      try simp only [List.getElem_toArray, List.getElem_cons_succ, List.getElem_cons_zero, Act.put, List.setIfInBounds_toArray, List.set]
      refine up_take (i := 4) (v := .int .u64 G) rfl (by kernel_rfl) (by kernel_rfl) (fun _ _ _ h => h) (Or.inl ⟨by rfl, ?_⟩) hb10 ?_
      · intro w' _; go_simp
      try simp only [List.getElem_toArray, List.getElem_cons_succ, List.getElem_cons_zero, Act.put, List.setIfInBounds_toArray, List.set]
      refine up_take (i := 5) (v := .int .u64 q2) rfl (by kernel_rfl) (by kernel_rfl) (fun _ _ _ h => h) (Or.inl ⟨by rfl, ?_⟩) hb10 ?_
      · intro w' _; go_simp
      try simp only [List.getElem_toArray, List.getElem_cons_succ, List.getElem_cons_zero, Act.put, List.setIfInBounds_toArray, List.set]
      refine up_take (i := 6) (v := .int .i64 q2) rfl (by kernel_rfl) (by kernel_rfl) (fun _ _ _ h => h) (Or.inl ⟨by rfl, ?_⟩) hb10 ?_
      · intro w' _; go_simp
      try simp only [List.getElem_toArray, List.getElem_cons_succ, List.getElem_cons_zero, Act.put, List.setIfInBounds_toArray, List.set]
      refine up_take (i := 7) (v := .int .u64 G) rfl (by kernel_rfl) (by kernel_rfl) (fun _ _ _ h => h) (Or.inl ⟨by rfl, ?_⟩) hb10 ?_
      · intro w' _; go_simp
      try simp only [List.getElem_toArray, List.getElem_cons_succ, List.getElem_cons_zero, Act.put, List.setIfInBounds_toArray, List.set]
      refine up_take (i := 8) (v := .agg nv.toArray) rfl (by kernel_rfl) (by kernel_rfl) (fun _ _ _ h => h) (Or.inl ⟨by rfl, ?_⟩) hb10 ?_
      · intro w' hS'; exact exec_load _ _ 156 _ rfl x 0 rfl _ (HLm.out w' hS')
      try simp only [List.getElem_toArray, List.getElem_cons_succ, List.getElem_cons_zero, Act.put, List.setIfInBounds_toArray, List.set]
      refine up_one 9 _ rfl (by kernel_rfl) (by decide) (by rfl) (fun K hK => ?_)
      go_simp
      refine (Hti.out _).mono ?_
      rintro e w11 ⟨rfl, hq⟩
      have hb11 := hb10.trans (hq.mono hb10.size)
      refine hK _ _ hb11 ?_
      clear hK K
      try simp only [List.getElem_toArray, List.getElem_cons_succ, List.getElem_cons_zero, Act.put, List.setIfInBounds_toArray, List.set]
      clear hq
      refine up_tail ?_
      refine up_last 10 _ rfl (by kernel_rfl) (by decide) (by rfl) (fun K hK => ?_)
      go_simp
      refine (Hwr.out _ hb11).mono ?_
      rintro e w12 ⟨v12, rfl, hT12⟩
      refine hK _ _ ?_
      clear hK K
      try simp only [List.getElem_toArray, List.getElem_cons_succ, List.getElem_cons_zero, Act.put, List.setIfInBounds_toArray, List.set]
      refine up_last 11 _ rfl (by kernel_rfl) (by decide) (by rfl) (fun K hK => ?_)
      go_simp
      refine hK _ _ ?_
      clear hK K
      try simp only [List.getElem_toArray, List.getElem_cons_succ, List.getElem_cons_zero, Act.put, List.setIfInBounds_toArray, List.set]
      refine up_done (by kernel_rfl) ?_ _
      obtain ⟨F12, hE12, hB12, hF12⟩ := (hB9.below hb11).disk hT12 (by rw [write_firm])
      have e4 : writeOf (st3 b).1 ((q2 : Nat) : Int) tv = st4 b := by unfold st4; rw [HG.out, Hq2.out, Htv.out]
      rw [e4] at hE12 hB12
      have hx12 : w12.heap[x]? = some (.cells nv.toArray 156 (0, 0)) := by
        obtain ⟨_, _, _, ho, _⟩ := hT12
        have hl11 : x < w11.heap.size := Nat.lt_of_lt_of_le hxl9 hb11.size
        exact (ho.block x hl11 (fun hk => by have := hfootx x (.inr (.inr (.inr (.inr hk)))); omega)).trans ((hb11.block x hxl9).trans hx9)
      have hfoot12 : ∀ j, BFoot F12 gr bn bt g j → j ≠ x := fun j hj e => by
        rcases hj with h | h | h | h | h
        · have := hfootx j (.inl h); omega
        · have := hfootx j (.inr (.inl h)); omega
        · have := hfootx j (.inr (.inr (.inl h))); omega
        · have := hfootx j (.inr (.inr (.inr (.inl h)))); omega
        · rcases hF12 j h with h | h
          · have := hfootx j (.inr (.inr (.inr (.inr h)))); omega
          · have := Nat.lt_of_lt_of_le hxl9 hb11.size; omega
      clear hT12 hB9 hb10 hb11 hx9 hxl9 Hc HLm Hwr Hti e4 hF12 r1 r2 r3 r4 r5 hfootx
      have hE12 : ErrV w12 (st4 b).2 v12 := hE12
      have hB12 : Br Fd gd gr bn bt g w { b with S := (st4 b).1 } F12 w12 := hB12
      by_cases n4 : (st4 b).2 = 0
      case neg =>
        obtain ⟨t, z, rfl⟩ := hE12.held n4
        have hq := neq_held t z
        have Hfin := Lib.hid (show BringP b Fd gd gr bn bt g w (.returned (.iface t z)) w12 from ⟨_, F12, rfl, by rw [bring_e4 N1.out N2.out N3.out n4]; exact hE12, by rw [bring_e4 N1.out N2.out N3.out n4]; exact hB12⟩)
        clear hE12 hB12 n4 hx12
        go_wp2
        go_ret
        exact Hfin.out
      rw [n4] at hE12
      obtain rfl := ErrV.zero hE12
      have N4 := Lib.hid n4
      have Hfl := Lib.hid (pd_flush hB12.inn.disk Hst.out.g4 (by have := Hst.out.c4; show (st4 b).1.ats.length ≤ _; omega))
      obtain ⟨c0, _⟩ := hB12.inn.cells
      have Hx12 := Lib.hid hx12
      clear hE12 n4 hx12
      go_wp2_with (first | (go_at_call 51; refine Hfl.out.mono ?_))
      rintro e w13 ⟨v13, rfl, hT13⟩
      obtain ⟨F13, hE13, hB13, _⟩ := hB12.disk hT13 (by show (st5 b).1.firm.length = (st4 b).1.firm.length; rw [Hst.out.f5, Hst.out.f4])
      have hx13 : w13.heap[x]? = some (.cells nv.toArray 156 (0, 0)) := by
        obtain ⟨_, _, _, ho, _⟩ := hT13
        exact (ho.block x (Array.getElem?_eq_some_iff.1 Hx12.out).1 (fun hk => hfoot12 x (.inr (.inr (.inr (.inr hk)))) rfl)).trans Hx12.out
      have hgx : g ≠ x := fun e => hfoot12 g (.inl rfl) e
      have hE13 : ErrV w13 (st5 b).2 v13 := hE13
      have hB13 : Br Fd gd gr bn bt g w { b with S := (st5 b).1 } F13 w13 := hB13
      clear Hfl hT13 c0 hB12 hfoot12 Hx12
      by_cases n5 : (st5 b).2 = 0
      case neg =>
        obtain ⟨t, z, rfl⟩ := hE13.held n5
        have hq := neq_held t z
        have Hfin := Lib.hid (show BringP b Fd gd gr bn bt g w (.returned (.iface t z)) w13 from ⟨_, F13, rfl, by rw [bring_e5 N1.out N2.out N3.out N4.out n5]; exact hE13, by rw [bring_e5 N1.out N2.out N3.out N4.out n5]; exact hB13⟩)
        clear hE13 hB13 n5 hx13
        go_wp2
        go_ret
        exact Hfin.out
      rw [n5] at hE13
      obtain rfl := ErrV.zero hE13
      have hbo := bring_e6 N1.out N2.out N3.out N4.out n5
      have Hbo := Lib.hid hbo
      obtain ⟨c0, c1, c2, c3, c4, _⟩ := hB13.inn.cells
      have f4 := hB13.inn.thawed 4
      have hB14 := hB13.gen G
      have hx14 : (w13.setCell ⟨g, 4, none⟩ (.int .u64 G)).heap[x]? = some (.cells nv.toArray 156 (0, 0)) := by
        rw [Below.heap_setCell _ _ _ _ (fun e => hgx e.symm)]; exact hx13
      clear hE13 n5 hbo c0 c1 c2 c3 hB13 hx13
      go_upto_region 23 with (fail)
      clear c4 f4
      generalize w13.setCell ⟨g, 4, none⟩ (.int .u64 G) = w14 at hB14 hx14 ⊢
      have hxl14 : x < w14.heap.size := (Array.getElem?_eq_some_iff.1 hx14).1
      have Hc := Lib.hid (fun W (hW : Below w14.heap.size w14 W) => show W.cell? ⟨g, 1, none⟩ = some (.pointer (some ⟨gr, 0, none⟩)) by
        obtain ⟨c0, c1, _⟩ := (hB14.below hW).inn.cells
        exact c1)
      have hdi2 : Hid ((Tryz.prog.info? 56).map (·.size) = some dv.length) := by have := hdi.out; rw [List.size_toArray] at this; exact this
      have HLd := Lib.hid (fun W (hW : Below w14.heap.size w14 W) => run_loadAt_mid (P := Tryz.prog) W x 2 56 dv _ (fun j v hj => by
        have h1 : W.heap[x]? = some (.cells (markCells (nextMk b)).toArray 156 (0, 0)) := by rw [hW.block x hxl14, hx14, Hnv.out]
        have := mark_range h1
        rw [Hnm.out, show (⟨b.m.place, b.m.num, d⟩ : Mk).last = d from rfl, ← Hdv.out] at this
        exact this j v hj) Tryz.underlying56 rfl hdi2.out)
      have Hcut := Lib.hid (fun W (hW : Below w14.heap.size w14 W) => by
        have := cut_any (hB14.below hW).inn.ring d hdl
        rw [← Hdv.out] at this
        exact this)
      refine wp_region_up 6 (fun w' => Below w14.heap.size w14 w') (by kernel_rfl) ?_
      have hb15 : Below w14.heap.size w14 { w14 with drawn := w14.drawn + 1 } := ⟨rfl, rfl, rfl, Nat.le_refl _, fun _ _ => rfl⟩
      obtain ⟨wd, hdr⟩ : ∃ wd : World, ({ w14 with drawn := w14.drawn + 1 } : World) = wd := ⟨_, rfl⟩
      rw [hdr] at hb15 ⊢
      clear hdr
      refine up_take (i := 0) (v := .pointer (some ⟨g, 0, none⟩)) rfl (by kernel_rfl) (by kernel_rfl) (fun _ _ _ h => h) (Or.inl ⟨by rfl, ?_⟩) hb15 ?_
      · intro w' _; go_simp
      try simp only [List.getElem_toArray, List.getElem_cons_succ, List.getElem_cons_zero, Act.put, List.setIfInBounds_toArray, List.set]
      refine up_take (i := 1) (v := .pointer (some ⟨g, 0, none⟩)) rfl (by kernel_rfl) (by kernel_rfl) (fun _ _ _ h => h) (Or.inl ⟨by rfl, ?_⟩) hb15 ?_
      · intro w' _; go_simp
      try simp only [List.getElem_toArray, List.getElem_cons_succ, List.getElem_cons_zero, Act.put, List.setIfInBounds_toArray, List.set]
      refine up_take (i := 2) (v := .pointer (some ⟨g, 1, none⟩)) rfl (by kernel_rfl) (by kernel_rfl) (fun _ _ _ h => h) (Or.inl ⟨by rfl, ?_⟩) hb15 ?_
      · intro w' _; go_simp
      try simp only [List.getElem_toArray, List.getElem_cons_succ, List.getElem_cons_zero, Act.put, List.setIfInBounds_toArray, List.set]
      refine up_take (i := 3) (v := .pointer (some ⟨gr, 0, none⟩)) rfl (by kernel_rfl) (by kernel_rfl) (fun _ _ _ h => h) (Or.inl ⟨by rfl, ?_⟩) hb15 ?_
      · intro w' hS'
        have d1 := Hc.out w' hS'
        clear hS'
        go_simp
      try simp only [List.getElem_toArray, List.getElem_cons_succ, List.getElem_cons_zero, Act.put, List.setIfInBounds_toArray, List.set]
      refine up_take (i := 4) (v := .pointer (some ⟨x, 2, none⟩)) rfl (by kernel_rfl) (by kernel_rfl) (fun _ _ _ h => h) (Or.inl ⟨by rfl, ?_⟩) hb15 ?_
      · intro w' _; go_simp
      try simp only [List.getElem_toArray, List.getElem_cons_succ, List.getElem_cons_zero, Act.put, List.setIfInBounds_toArray, List.set]
      refine up_take (i := 5) (v := .agg dv.toArray) rfl (by kernel_rfl) (by kernel_rfl) (fun _ _ _ h => h) (Or.inl ⟨by rfl, ?_⟩) hb15 ?_
      · intro w' hS'; exact exec_load _ _ 56 _ rfl x 2 rfl _ (HLd.out w' hS')
      try simp only [List.getElem_toArray, List.getElem_cons_succ, List.getElem_cons_zero, Act.put, List.setIfInBounds_toArray, List.set]
      refine up_tail ?_
      refine up_last 6 _ rfl (by kernel_rfl) (by decide) (by rfl) (fun K hK => ?_)
      go_simp
      refine (Hcut.out _ hb15).mono ?_
      rintro e w16 ⟨rfl, hr16, ho16⟩
      refine hK _ _ ?_
      clear hK K
      try simp only [List.getElem_toArray, List.getElem_cons_succ, List.getElem_cons_zero, Act.put, List.setIfInBounds_toArray, List.set]
      refine up_done (by kernel_rfl) ?_ _
      have hB16 := (hB14.below hb15).ring hr16 ho16
      clear hr16 ho16 hB14 hb15 hx14 HLd Hcut Hc
      obtain ⟨c0, c1, c2, c3, c4, c5, _⟩ := hB16.inn.cells
      obtain ⟨w17, hrun, hm17, hg17⟩ := hB16.inn.news.clear 0
      have hB17 := hB16.news hm17 hg17
      have Hfin := Lib.hid (show BringP b Fd gd gr bn bt g w (.returned .nilIface) w17 from ⟨_, F13, rfl, by rw [Hbo.out]; exact ErrV.nil, by rw [Hbo.out, Hnm.out, HG.out]; exact hB17⟩)
      clear hB16 hB17 hm17 hg17 c0 c1 c2 c3 c4 Hbo
      go_wp2
      go_ret
      exact Hfin.out
end
end Go.Proofs.YtjkkbceddbkejaaGreatDoor
