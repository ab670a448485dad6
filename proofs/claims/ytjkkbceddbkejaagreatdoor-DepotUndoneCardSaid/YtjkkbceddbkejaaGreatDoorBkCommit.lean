/-
  A book: add, commit, Commit; Sync; write, Write; Read.
-/
import Derived.Test.YtjkkbceddbkejaaGreatDoorBkLearn
set_option linter.unusedSimpArgs false
set_option linter.unusedVariables false
namespace Go.Proofs.YtjkkbceddbkejaaGreatDoor
open Go.RowKit Sh Go.Maps Go.Extern.Stop Go.Stop Go.Extern

/-- add: brought home first where there is no room. -/
def addFull (b : Bk) (l : List Chg) : Bk × Int := if takes l.length ≤ b.n - b.used then addOf b l else if (bringOf b).2 ≠ 0 then bringOf b else addOf (bringOf b).1 l
theorem commit_full {b : Bk} (hb : b.broken = false) (ht : b.txn ≠ []) : commitOf b = keptOf (addFull { b with txn := [] } b.txn) := by
  unfold commitOf addFull
  rw [if_neg (by simp [hb]), if_neg ht]
  show (if takes b.txn.length ≤ b.n - b.used then _ else _) = _
  by_cases h1 : takes b.txn.length ≤ b.n - b.used
  · rw [if_pos h1, if_pos h1]
  · rw [if_neg h1, if_neg h1]
    by_cases h2 : (bringOf { b with txn := [] }).2 ≠ 0
    · rw [if_pos h2, if_pos h2]
    · rw [if_neg h2, if_neg h2]
/-- A turn of a book. -/
def BkT (b' : Bk) (n : Int) (Fd : Nat → Prop) (gd gr bn bt g : Nat) (w : World) (e : Ending) (w' : World) : Prop := ∃ v Fd', e = .returned v ∧ ErrV w' n v ∧ Br Fd gd gr bn bt g w b' Fd' w'
theorem end_ok {n : Nat} (hn : 0 < n) {m : Mk} {l : List Chg} : (endM n m l).place < n ∧ (endM n m l).num < 18446744073709551616 ∧ (endM n m l).last.length = 32 := by
  refine ⟨Nat.mod_lt _ hn, Nat.mod_lt _ (by omega), dig_len _⟩
theorem takes_le {k : Nat} (h : k ≤ 60) : takes k ≤ 65 := by unfold takes; omega
theorem add_ok {b : Bk} {l : List Chg} (h : b.Ok) (hp : b.S.ats.length ≤ 10000) (hl : Fit l) (hw : Within b.pages l) (hf : takes l.length ≤ b.n - b.used) : (addOf b l).1.Ok ∧ (addOf b l).1.S.firm.length = b.S.firm.length ∧ (addOf b l).1.S.ats.length ≤ b.S.ats.length + takes l.length ∧ (addOf b l).1.n = b.n ∧ (addOf b l).1.txn = b.txn ∧ (addOf b l).1.broken = b.broken := by
  have hr := h.ring
  have hs : ∀ p ∈ sectors b.m l, p.length = 64 := fun p hp => by
    rcases List.mem_cons.1 hp with rfl | hp
    · simp [firstOf, head10_length, dig_len]
    · exact body_pages hl p hp
  have hG := writesOf_good 2 b.n (sectors b.m l) b.S b.m.place h.good
  have hB := writesOf_byt 2 b.n (sectors b.m l) b.S b.m.place hs h.byt
  have hfm := writesOf_firm 2 b.n (sectors b.m l) b.S b.m.place
  have hc := writesOf_count 2 b.n (sectors b.m l) b.S b.m.place
  rw [sectors_length] at hc
  have ht := takes_le hl.le
  have ht1 : (writesOf 2 b.n b.S b.m.place (sectors b.m l)).1.firm.length = b.S.firm.length := by rw [hfm]
  have t := h.turn hG hB ht1 (by omega)
  unfold addOf
  simp only
  split
  · obtain ⟨e1, e2, e3⟩ := end_ok (n := b.n) (by have := hr.n0; omega) (m := b.m) (l := l)
    have ep : ({ b with S := (writesOf 2 b.n b.S b.m.place (sectors b.m l)).1, m := endM b.n b.m l, used := b.used + takes l.length, news := learnM b.news l } : Bk).pages = b.pages := pages_of ht1 rfl
    exact ⟨⟨t.good, t.byt, ⟨hr.n0, hr.n1, hr.first, e1, e2, by have := hr.used; show b.used + takes l.length ≤ b.n; omega⟩, e3, t.room, t.gen, t.pend, rising_learn h.newsR, by rw [ep]; exact within_learn h.newsW hw, h.txnR, by rw [ep]; exact h.txnW, h.txn60⟩, ht1, hc, rfl, rfl, rfl⟩
  · exact ⟨t, ht1, hc, rfl, rfl, rfl⟩
section
variable {Fd Fd' : Nat → Prop} {gd gr bn bt g : Nat} {w wr w' : World} {b : Bk}
theorem Br.add (h : Br Fd gd gr bn bt g w b Fd' wr) {S : St} {m : Mk} {u : Nat} {F'' : Nat → Prop} (hP : PD S F'' gd w') (hr : PrAt gr gd 2 b.n m u w') (ho : Only (fun k => k = gr ∨ Fd' k) wr w') (hF : ∀ k, F'' k → Fd' k ∨ wr.heap.size ≤ k) (hf : S.firm.length = b.S.firm.length) : Br Fd gd gr bn bt g w { b with S := S, m := m, used := u } F'' w' :=
  ⟨h.inn.addTurn hP hr ho hF hf, h.only.trans ho (fun k hk => hk.elim (fun e => .inl (.inr (.inl e))) (fun hk => h.foot (.inr (.inr (.inr (.inr hk)))))), fun k hk => (hF k hk).elim (h.new k) (fun h' => .inr (Nat.le_trans h.only.size h'))⟩
theorem Br.learn (h : Br Fd gd gr bn bt g w b Fd' wr) {l : List Chg} (hi : BkIn { b with news := learnM b.news l } Fd' gd gr bn bt g w') (ho : Only (fun k => k = bn) wr w') : Br Fd gd gr bn bt g w { b with news := learnM b.news l } Fd' w' :=
  ⟨hi, h.only.trans ho (fun k hk => .inl (.inr (.inr (.inl hk)))), h.new⟩
set_option maxRecDepth 100000 in
set_option maxHeartbeats 16000000 in
/-- add. -/
theorem add_in (h : BkIn b Fd gd gr bn bt g w) (hO : b.Ok) (hp : b.S.ats.length ≤ 10000) (l : List Chg) (hl : Fit l) (hw : Within b.pages l) {bo : Nat} (hbo : bo < w.heap.size) (hnf : ¬ BFoot Fd gr bn bt g bo) (cap : Nat) (hC : Chgs w.heap.size w (some ⟨bo, 0, none⟩) l) :
    Calls Tryz.prog 91 #[.pointer (some ⟨g, 0, none⟩), .slice (some ⟨bo, 0, none⟩) l.length cap] w (BkT (addFull b l).1 (addFull b l).2 Fd gd gr bn bt g w) := by
  obtain ⟨L, hL⟩ : ∃ L, l.length = L := ⟨_, rfl⟩
  have h1 := hl.one; have h60 := hl.le
  rw [hL] at h1 h60 ⊢
  have HL := Lib.hid hL
  have hBr := Br.start h
  have Hft := Lib.hid (fits_any h.ring hO.ring L (by omega))
  obtain ⟨c0, c1, _⟩ := h.cells
  have HO := Lib.hid hO; have Hl := Lib.hid hl; have Hw := Lib.hid hw
  clear hL h hO hl hw c0
  by_cases hfit : takes L ≤ b.n - b.used
  · have hyes : fitsB (b.n - b.used) L = true := (fitsB_iff _ _).2 ⟨h1, h60, hfit⟩
    rw [hyes] at Hft
    have hfull : addFull b l = addOf b l := by unfold addFull; rw [if_pos (by rw [HL.out]; exact hfit)]
    have Hfull := Lib.hid hfull
    clear hyes hfull
    go_enter Tryz.func91, Tryz.ntmps91
    go_wp2_with (first | (go_at_call 124; refine Hft.out.mono ?_))
    rintro e w1 ⟨rfl, mq, rfl⟩
    have hb1 := below_drewN w mq w.heap.size
    have hB1 := hBr.below hb1
    have hbo1 : bo < (w.drewN mq).heap.size := hbo
    have hC1 := chgs_block hC (hb1.block bo hbo) hbo1
    have hnf1 := hnf
    have hfit1 := hfit
    have HO1 := HO
    have hp1 := hp
    generalize w.drewN mq = w1 at hb1 hB1 hC1 hbo1 ⊢
    clear Hft hb1 c1 hBr hC hbo
    have hlW : Within b.pages l := Hw.out
    have hin := HO1.out.room
    have Had := Lib.hid (padd_any (hB1.inn.ring) HO1.out.ring hB1.inn.disk hB1.inn.ap.2.2.1 HO1.out.good (by omega) (by omega) l (some ⟨bo, 0, none⟩) cap Hl.out hC1 (by rw [HL.out]; exact hfit1))
    rw [HL.out] at Had
    obtain ⟨c0, c1, _⟩ := hB1.inn.cells
    clear hin c0
    go_wp2_with (first | (go_at_call 125; refine Had.out.mono ?_))
    rintro e w2 ⟨v2, F2, rfl, hE2, hP2, hr2, ho2, hF2⟩
    obtain ⟨S2, hS2⟩ : ∃ S2, (writesOf 2 b.n b.S b.m.place (sectors b.m l)).1 = S2 := ⟨_, rfl⟩
    obtain ⟨n2, hn2⟩ : ∃ n2, (writesOf 2 b.n b.S b.m.place (sectors b.m l)).2 = n2 := ⟨_, rfl⟩
    have hfm2 : S2.firm.length = b.S.firm.length := by rw [← hS2, writesOf_firm]
    have hadd : addOf b l = if n2 = 0 then ({ b with S := S2, m := endM b.n b.m l, used := b.used + takes l.length, news := learnM b.news l }, 0) else ({ b with S := S2 }, n2) := by unfold addOf; simp only; rw [hS2, hn2]
    rw [hS2] at hP2
    rw [hn2] at hE2 hr2
    have hbo2 : bo < w2.heap.size := Nat.lt_of_lt_of_le hbo1 ho2.size
    have hC2 := chgs_block hC1 (ho2.block bo hbo1 (fun hk => hnf1 (hk.elim (fun e => .inr (.inl e)) (fun hk => .inr (.inr (.inr (.inr hk))))))) hbo2
    clear Had c1 hS2 hn2 hC1
    by_cases m2 : n2 = 0
    · subst m2
      obtain rfl := ErrV.zero hE2
      have hr2' : PrAt gr gd 2 b.n (endM b.n b.m l) (b.used + takes L) w2 := hr2.elim (·.2) (fun h => absurd rfl h.1)
      have hB2 := hB1.add hP2 hr2' ho2 hF2 hfm2
      have hD : b.pages ≤ 2048 := Nat.min_le_right _ _
      have Hle := Lib.hid (learn_in hB2.inn (D := b.pages) (by omega) HO1.out.newsW l (some ⟨bo, 0, none⟩) cap hlW (by rw [HL.out]; omega) hC2 (fun b9 e => .inr (fun e2 => hnf1 (by
        have e3 : bo = b9 := by simpa using e
        exact .inr (.inr (.inl (by omega)))))))
      rw [HL.out] at Hle
      rw [if_pos rfl, HL.out] at hadd
      have Hadd := Lib.hid hadd
      clear hE2 hP2 hr2 hr2' ho2 hF2 hfm2 hB1 hC2 hadd hD
      go_wp2_with (first | (go_at_call 88; refine Hle.out.mono ?_))
      rintro e w3 ⟨rfl, hi3, ho3⟩
      have hB3 := hB2.learn hi3 ho3
      have Hfin := Lib.hid (show BkT (addFull b l).1 (addFull b l).2 Fd gd gr bn bt g w (.returned .nilIface) w3 from ⟨_, F2, rfl, by rw [Hfull.out, Hadd.out]; exact ErrV.nil, by rw [Hfull.out, Hadd.out]; exact hB3⟩)
      clear hB2 hB3 hi3 ho3 Hle Hadd
      go_wp2
      go_ret
      exact Hfin.out
    · rw [if_neg m2] at hadd
      have hr2' : PrAt gr gd 2 b.n b.m b.used w2 := hr2.elim (fun h => absurd h.1 m2) (·.2)
      have hB2 := hB1.add hP2 hr2' ho2 hF2 hfm2
      obtain ⟨t, z, rfl⟩ := hE2.held m2
      have hq := neq_held t z
      have Hfin := Lib.hid (show BkT (addFull b l).1 (addFull b l).2 Fd gd gr bn bt g w (.returned (.iface t z)) w2 from ⟨_, F2, rfl, by rw [Hfull.out, hadd]; exact hE2, by rw [Hfull.out, hadd]; exact hB2⟩)
      clear hE2 hP2 hr2 hr2' ho2 hF2 hfm2 hB1 hC2 hadd hB2 m2
      go_wp2
      go_ret
      exact Hfin.out
  · have hno : fitsB (b.n - b.used) L = false := by
      cases hc : fitsB (b.n - b.used) L
      · rfl
      · exact absurd ((fitsB_iff _ _).1 hc).2.2 hfit
    rw [hno] at Hft
    have hfull : addFull b l = if (bringOf b).2 ≠ 0 then bringOf b else addOf (bringOf b).1 l := by unfold addFull; rw [if_neg (by rw [HL.out]; exact hfit)]
    have Hfull := Lib.hid hfull
    clear hno hfull
    go_enter Tryz.func91, Tryz.ntmps91
    go_wp2_with (first | (go_at_call 124; refine Hft.out.mono ?_))
    rintro e w0 ⟨rfl, mq, rfl⟩
    have hb0 := below_drewN w mq w.heap.size
    have hB0 := hBr.below hb0
    have hbo0 : bo < (w.drewN mq).heap.size := hbo
    have hC0 := chgs_block hC (hb0.block bo hbo) hbo0
    generalize w.drewN mq = w0 at hb0 hB0 hC0 hbo0 ⊢
    have Hbr := Lib.hid (bring_in hB0.inn HO.out (by omega))
    clear Hft hb0 c1 hBr hC hbo
    go_wp2_with (first | (go_at_call 89; refine Hbr.out.mono ?_))
    rintro e w1 ⟨v1, F1, rfl, hE1, hBb⟩
    have hB1 : Br Fd gd gr bn bt g w (bringOf b).1 F1 w1 := ⟨hBb.inn, hB0.only.trans hBb.only (fun k hk => hB0.foot hk), fun k hk => (hBb.new k hk).elim (hB0.new k) (fun h => .inr (Nat.le_trans hB0.only.size h))⟩
    have hbo1 : bo < w1.heap.size := Nat.lt_of_lt_of_le hbo0 hBb.only.size
    have hC1 := chgs_block hC0 (hBb.only.block bo hbo0 hnf) hbo1
    have hnf1 : ¬ BFoot F1 gr bn bt g bo := fun hk => by
      rcases hk with hk | hk | hk | hk | hk
      · exact hnf (.inl hk)
      · exact hnf (.inr (.inl hk))
      · exact hnf (.inr (.inr (.inl hk)))
      · exact hnf (.inr (.inr (.inr (.inl hk))))
      · exact (hBb.new bo hk).elim (fun hk => hnf (.inr (.inr (.inr (.inr hk))))) (fun hk => by omega)
    obtain ⟨hO1, hfm1, hz1⟩ := bring_ok HO.out hp
    have hsame := bring_same b
    clear Hbr hB0 hC0 hbo0 hBb
    by_cases n1 : (bringOf b).2 = 0
    case neg =>
      obtain ⟨t, z, rfl⟩ := hE1.held n1
      have hq := neq_held t z
      have Hfin := Lib.hid (show BkT (addFull b l).1 (addFull b l).2 Fd gd gr bn bt g w (.returned (.iface t z)) w1 from ⟨_, F1, rfl, by rw [Hfull.out, if_pos n1]; exact hE1, by rw [Hfull.out, if_pos n1]; exact hB1⟩)
      clear hE1 hB1 n1 hz1 hC1
      go_wp2
      go_ret
      exact Hfin.out
    rw [n1] at hE1
    obtain rfl := ErrV.zero hE1
    obtain ⟨z1, z2, z3⟩ := hz1 n1
    have hfull2 : addFull b l = addOf (bringOf b).1 l := by rw [Hfull.out, if_neg (by simp [n1])]
    have Hfull2 := Lib.hid hfull2
    have hr0 := HO.out.ring.n0
    have hfit1 : takes L ≤ (bringOf b).1.n - (bringOf b).1.used := by rw [z2, hsame.1]; have := takes_le h60; omega
    have hp1 : (bringOf b).1.S.ats.length ≤ 10000 := by rw [z1]; simp
    have hw1 : Within (bringOf b).1.pages l := by rw [pages_of hfm1 hsame.1]; exact Hw.out
    obtain ⟨c0, c1, _⟩ := hB1.inn.cells
    have HO1 := Lib.hid hO1
    generalize bringOf b = r1 at hB1 HO1 hfit1 hp1 hw1 Hfull2 c0 c1 hsame ⊢
    obtain ⟨b1, n0⟩ := r1
    have hB1 : Br Fd gd gr bn bt g w b1 F1 w1 := hB1
    have HO1 : Hid b1.Ok := HO1
    have hfit1 : takes L ≤ b1.n - b1.used := hfit1
    have hp1 : b1.S.ats.length ≤ 10000 := hp1
    have Hw1 : Hid (Within b1.pages l) := hw1
    have Hfull3 : Hid (addFull b l = addOf b1 l) := Hfull2
    clear hE1 n1 hz1 z1 z2 z3 hO1 hfm1 hfull2 c0 Hfull Hfull2 hw1 hsame
    have hlW : Within b1.pages l := Hw1.out
    have hin := HO1.out.room
    have Had := Lib.hid (padd_any (hB1.inn.ring) HO1.out.ring hB1.inn.disk hB1.inn.ap.2.2.1 HO1.out.good (by omega) (by omega) l (some ⟨bo, 0, none⟩) cap Hl.out hC1 (by rw [HL.out]; exact hfit1))
    rw [HL.out] at Had
    obtain ⟨c0, c1, _⟩ := hB1.inn.cells
    clear hin c0
    go_wp2_with (first | (go_at_call 125; refine Had.out.mono ?_))
    rintro e w2 ⟨v2, F2, rfl, hE2, hP2, hr2, ho2, hF2⟩
    obtain ⟨S2, hS2⟩ : ∃ S2, (writesOf 2 b1.n b1.S b1.m.place (sectors b1.m l)).1 = S2 := ⟨_, rfl⟩
    obtain ⟨n2, hn2⟩ : ∃ n2, (writesOf 2 b1.n b1.S b1.m.place (sectors b1.m l)).2 = n2 := ⟨_, rfl⟩
    have hfm2 : S2.firm.length = b1.S.firm.length := by rw [← hS2, writesOf_firm]
    have hadd : addOf b1 l = if n2 = 0 then ({ b1 with S := S2, m := endM b1.n b1.m l, used := b1.used + takes l.length, news := learnM b1.news l }, 0) else ({ b1 with S := S2 }, n2) := by unfold addOf; simp only; rw [hS2, hn2]
    rw [hS2] at hP2
    rw [hn2] at hE2 hr2
    have hbo2 : bo < w2.heap.size := Nat.lt_of_lt_of_le hbo1 ho2.size
    have hC2 := chgs_block hC1 (ho2.block bo hbo1 (fun hk => hnf1 (hk.elim (fun e => .inr (.inl e)) (fun hk => .inr (.inr (.inr (.inr hk))))))) hbo2
    clear Had c1 hS2 hn2 hC1
    by_cases m2 : n2 = 0
    · subst m2
      obtain rfl := ErrV.zero hE2
      have hr2' : PrAt gr gd 2 b1.n (endM b1.n b1.m l) (b1.used + takes L) w2 := hr2.elim (·.2) (fun h => absurd rfl h.1)
      have hB2 := hB1.add hP2 hr2' ho2 hF2 hfm2
      have hD : b1.pages ≤ 2048 := Nat.min_le_right _ _
      have Hle := Lib.hid (learn_in hB2.inn (D := b1.pages) (by omega) HO1.out.newsW l (some ⟨bo, 0, none⟩) cap hlW (by rw [HL.out]; omega) hC2 (fun b9 e => .inr (fun e2 => hnf1 (by
        have e3 : bo = b9 := by simpa using e
        exact .inr (.inr (.inl (by omega)))))))
      rw [HL.out] at Hle
      rw [if_pos rfl, HL.out] at hadd
      have Hadd := Lib.hid hadd
      clear hE2 hP2 hr2 hr2' ho2 hF2 hfm2 hB1 hC2 hadd hD
      go_wp2_with (first | (go_at_call 88; refine Hle.out.mono ?_))
      rintro e w3 ⟨rfl, hi3, ho3⟩
      have hB3 := hB2.learn hi3 ho3
      have Hfin := Lib.hid (show BkT (addFull b l).1 (addFull b l).2 Fd gd gr bn bt g w (.returned .nilIface) w3 from ⟨_, F2, rfl, by rw [Hfull3.out, Hadd.out]; exact ErrV.nil, by rw [Hfull3.out, Hadd.out]; exact hB3⟩)
      clear hB2 hB3 hi3 ho3 Hle Hadd
      go_wp2
      go_ret
      exact Hfin.out
    · rw [if_neg m2] at hadd
      have hr2' : PrAt gr gd 2 b1.n b1.m b1.used w2 := hr2.elim (fun h => absurd h.1 m2) (·.2)
      have hB2 := hB1.add hP2 hr2' ho2 hF2 hfm2
      obtain ⟨t, z, rfl⟩ := hE2.held m2
      have hq := neq_held t z
      have Hfin := Lib.hid (show BkT (addFull b l).1 (addFull b l).2 Fd gd gr bn bt g w (.returned (.iface t z)) w2 from ⟨_, F2, rfl, by rw [Hfull3.out, hadd]; exact hE2, by rw [Hfull3.out, hadd]; exact hB2⟩)
      clear hE2 hP2 hr2 hr2' ho2 hF2 hfm2 hB1 hC2 hadd hB2 m2
      go_wp2
      go_ret
      exact Hfin.out
theorem Bk.Ok.setTxn (h : b.Ok) {t : List Chg} (h1 : Rising t) (h2 : Within b.pages t) (h3 : t.length ≤ 60) : ({ b with txn := t } : Bk).Ok := ⟨h.good, h.byt, h.ring, h.last, h.room, h.gen, h.pend, h.newsR, h.newsW, h1, h2, h3⟩
theorem keptOf_ok {r : Bk × Int} (h : r.2 = 0) : keptOf r = r := by unfold keptOf; rw [if_pos h]
theorem keptOf_err {r : Bk × Int} (h : ¬ r.2 = 0) : keptOf r = ({ r.1 with broken := true }, r.2) := by unfold keptOf; rw [if_neg h]
theorem txn_fit (h : b.Ok) (hne : b.txn ≠ []) : Fit b.txn := ⟨Nat.pos_of_ne_zero (fun e => hne (List.length_eq_zero_iff.1 e)), h.txn60, fun c hc => by have := (h.txnW c hc).1; have : b.pages ≤ 2048 := Nat.min_le_right _ _; omega, fun c hc => (h.txnW c hc).2⟩
set_option maxRecDepth 100000 in
set_option maxHeartbeats 16000000 in
/-- commit. -/
theorem commit_in (h : BkIn b Fd gd gr bn bt g w) (hO : b.Ok) (hp : b.broken = false → b.S.ats.length ≤ 10000) : Calls Tryz.prog 48 #[.pointer (some ⟨g, 0, none⟩)] w (BkT (commitOf b).1 (commitOf b).2 Fd gd gr bn bt g w) := by
  have hs := sound_any h
  cases hbr : b.broken with
  | true =>
    have e10 : errVal (soundN b) = .iface 84 (.int .i64 10) := by unfold soundN; rw [hbr]; rfl
    rw [e10] at hs
    have Hs := Lib.hid hs
    have hq := neq_held 84 (.int .i64 10)
    have hc : commitOf b = (b, 10) := by unfold commitOf; rw [if_pos hbr]
    have Hfin := Lib.hid (show BkT (commitOf b).1 (commitOf b).2 Fd gd gr bn bt g w (.returned (.iface 84 (.int .i64 10))) w from ⟨_, Fd, rfl, by rw [hc]; exact .inr ⟨(by show (10 : Int) ≠ 0; decide), [], rfl⟩, by rw [hc]; exact Br.start h⟩)
    clear h hO hs e10 hc hbr
    go_enter Tryz.func48, Tryz.ntmps48
    go_wp2_with (first | (go_at_call 49; refine Hs.out.mono ?_; rintro e w' ⟨rfl, rfl⟩))
    go_ret
    exact Hfin.out
  | false =>
    have e10 : errVal (soundN b) = .nilIface := by unfold soundN; rw [hbr]; rfl
    rw [e10] at hs
    have Hs := Lib.hid hs
    obtain ⟨c0, c1, c2, c3, c4, c5, c6, _⟩ := h.cells
    have hlen := fun ty => h.txn.len ty
    clear hs e10 c0 c1 c2 c3 c4 c5
    by_cases ht : b.txn = []
    · have hc : commitOf b = (b, 0) := by unfold commitOf; rw [if_neg (by simp [hbr]), if_pos ht]
      have Hfin := Lib.hid (show BkT (commitOf b).1 (commitOf b).2 Fd gd gr bn bt g w (.returned .nilIface) w from ⟨_, Fd, rfl, by rw [hc]; exact ErrV.nil, by rw [hc]; exact Br.start h⟩)
      rw [ht] at hlen
      clear h hO hc hbr ht
      go_enter Tryz.func48, Tryz.ntmps48
      go_wp2_with (first | (go_at_call 49; refine Hs.out.mono ?_; rintro e w' ⟨rfl, rfl⟩))
      go_ret
      exact Hfin.out
    · obtain ⟨L, hL⟩ : ∃ L, b.txn.length = L := ⟨_, rfl⟩
      have hL0 : ¬ (L : Int) = 0 := by have := (txn_fit hO ht).one; omega
      have hcf := commit_full hbr ht
      have hp' := hp hbr
      have Hor := Lib.hid (inOrder_any h.txn (fun c hc => by have := (hO.txnW c hc).1; have : b.pages ≤ 2048 := Nat.min_le_right _ _; omega) (by have := hO.txn60; omega))
      rw [hL] at hlen
      have HL := Lib.hid hL; have Hcf := Lib.hid hcf; have H := Lib.hid h; have HO := Lib.hid hO; have Ht := Lib.hid ht
      clear hL hcf h hO ht hp hbr
      go_enter Tryz.func48, Tryz.ntmps48
      go_wp2_with (first
        | (go_at_call 49; refine Hs.out.mono ?_; rintro e w' ⟨rfl, rfl⟩)
        | (go_at_call 90; refine Hor.out.mono ?_))
      rintro e w2 ⟨bo, cp, rfl, hbo, hC2, hb2⟩
      rw [HL.out]
      have h2 := H.out.below hb2
      have hnf : ¬ BFoot Fd gr bn bt g bo := fun hk => by have := H.out.foot_lt hk; omega
      have hbo2 : bo < w2.heap.size := by
        rcases hC2 with h0 | ⟨b9, e9, h9, _⟩
        · exact absurd h0 Ht.out
        · have e : bo = b9 := by simpa using e9
          omega
      obtain ⟨c0, c1, c2, c3, c4, c5, c6', _⟩ := h2.cells
      obtain ⟨w3, hrun, hm3, hg3⟩ := h2.txn.clear 0
      have h3 := h2.txnTurn hm3 hg3
      have hB3 : Br Fd gd gr bn bt g w { b with txn := [] } Fd w3 := ((Br.start H.out).below hb2).txn hm3 hg3
      have hbo3 : bo < w3.heap.size := Nat.lt_of_lt_of_le hbo2 hg3.size
      have hC3 := chgs_block hC2 (hg3.block bo hbo2 (fun e => hnf (.inr (.inr (.inr (.inl (by simpa using e))))))) hbo3
      have hO3 : ({ b with txn := [] } : Bk).Ok := HO.out.setTxn rising_nil (within_nil _) (by simp)
      have Had := Lib.hid (add_in h3 hO3 hp' b.txn (txn_fit HO.out Ht.out) (by rw [pages_of (b' := { b with txn := [] }) (b := b) rfl rfl]; exact HO.out.txnW) hbo3 hnf cp hC3)
      rw [HL.out] at Had
      clear Hor hb2 h2 hm3 hg3 hC2 hC3 h3 c0 c1 c2 c3 c4 c5 c6 hlen hL0 hnf hbo hbo2 hbo3
      go_wp2_with (first | (go_at_call 91; refine Had.out.mono ?_))
      rintro e w4 ⟨v4, F4, rfl, hE4, hB4⟩
      have hB4' : Br Fd gd gr bn bt g w (addFull { b with txn := [] } b.txn).1 F4 w4 := ⟨hB4.inn, hB3.only.trans hB4.only (fun k hk => hB3.foot hk), fun k hk => (hB4.new k hk).elim (fun h => .inl h) (fun h => .inr (Nat.le_trans hB3.only.size h))⟩
      clear Had hB3 hB4 hrun c6' HL
      by_cases n4 : (addFull { b with txn := [] } b.txn).2 = 0
      · rw [n4] at hE4
        obtain rfl := ErrV.zero hE4
        have Hk := Lib.hid (kept_nil hB4'.inn)
        have Hfin := Lib.hid (show BkT (commitOf b).1 (commitOf b).2 Fd gd gr bn bt g w (.returned .nilIface) w4 from ⟨_, F4, rfl, by rw [Hcf.out, keptOf_ok n4, n4]; exact ErrV.nil, by rw [Hcf.out, keptOf_ok n4]; exact hB4'⟩)
        clear hE4 n4 hB4'
        go_wp2_with (first | (go_at_call 50; refine Hk.out.mono ?_; rintro e w' ⟨rfl, rfl⟩))
        go_ret
        exact Hfin.out
      · have Hk := Lib.hid (kept_err hB4'.inn n4 hE4)
        have HE4 := Lib.hid hE4; have HN4 := Lib.hid n4; have HB4 := Lib.hid hB4'
        have hnl := hB4'.inn.lt
        have hcg := hB4'.inn.cell 0
        have Hcg := Lib.hid hcg
        clear hE4 n4 hB4' hcg
        go_wp2_with (first | (go_at_call 50; refine Hk.out.mono ?_))
        rintro e w5 ⟨rfl, hi5, hg5⟩
        have hE5 := HE4.out.other (r := g) (fun s => by rw [Hcg.out]; simp [bookCells]) hg5
        have hB5 := HB4.out.break hi5 hg5
        have Hfin := Lib.hid (show BkT (commitOf b).1 (commitOf b).2 Fd gd gr bn bt g w (.returned v4) w5 from ⟨_, F4, rfl, by rw [Hcf.out, keptOf_err HN4.out]; exact hE5, by rw [Hcf.out, keptOf_err HN4.out]; exact hB5⟩)
        clear hi5 hg5 hE5 hB5 HE4 HB4 Hk Hcg
        go_wp2
        go_ret
        exact Hfin.out
set_option maxRecDepth 100000 in
/-- Commit. -/
theorem Commit_in (h : BkIn b Fd gd gr bn bt g w) (hO : b.Ok) (hp : b.broken = false → b.S.ats.length ≤ 10000) : Calls Tryz.prog 20 #[.pointer (some ⟨g, 0, none⟩)] w (BkT (commitOf b).1 (commitOf b).2 Fd gd gr bn bt g w) := by
  have Hc := Lib.hid (commit_in h hO hp)
  obtain ⟨r, hr⟩ : ∃ r, commitOf b = r := ⟨_, rfl⟩
  rw [hr] at Hc ⊢
  clear h hO hp hr
  go_enter Tryz.func20, Tryz.ntmps20
  go_wp2_with (first | (go_at_call 48; refine Hc.out.mono ?_))
  rintro e w1 ⟨v, F, rfl, hE, hB⟩
  have Hi := Lib.hid (in_err ⟨#[112, 97, 103, 101, 115, 46, 67, 111, 109, 109, 105, 116]⟩ _ v w1 hE)
  have HB := Lib.hid hB
  clear hE hB Hc
  go_wp2_with (first | (go_at_call 35; refine Hi.out.mono ?_))
  rintro e w2 ⟨v2, rfl, hE2, hb2⟩
  have Hfin := Lib.hid (show BkT r.1 r.2 Fd gd gr bn bt g w (.returned v2) w2 from ⟨v2, F, rfl, hE2, HB.out.below hb2⟩)
  clear hE2 hb2 HB Hi
  go_wp2
  go_ret
  exact Hfin.out
set_option maxRecDepth 100000 in
set_option maxHeartbeats 4000000 in
/-- Sync. -/
theorem Sync_in (h : BkIn b Fd gd gr bn bt g w) (hO : b.Ok) (hp : b.broken = false → b.S.ats.length ≤ 10000) : Calls Tryz.prog 21 #[.pointer (some ⟨g, 0, none⟩)] w (BkT (syncOf b).1 (syncOf b).2 Fd gd gr bn bt g w) := by
  have hs := sound_any h
  cases hbr : b.broken with
  | true =>
    have e10 : errVal (soundN b) = .iface 84 (.int .i64 10) := by unfold soundN; rw [hbr]; rfl
    rw [e10] at hs
    have Hs := Lib.hid hs
    have hq := neq_held 84 (.int .i64 10)
    have hc : syncOf b = (b, 10) := by unfold syncOf; rw [if_pos hbr]
    have Hc := Lib.hid hc; have HB := Lib.hid (Br.start h)
    have Hi := Lib.hid (in_err ⟨#[112, 97, 103, 101, 115, 46, 83, 121, 110, 99]⟩ 10 (.iface 84 (.int .i64 10)) w (.inr ⟨by decide, [], rfl⟩))
    clear h hO hs e10 hc hbr
    go_enter Tryz.func21, Tryz.ntmps21
    go_wp2_with (first
      | (go_at_call 49; refine Hs.out.mono ?_; rintro e w' ⟨rfl, rfl⟩)
      | (go_at_call 35; refine Hi.out.mono ?_))
    rintro e w2 ⟨v2, rfl, hE2, hb2⟩
    have Hfin := Lib.hid (show BkT (syncOf b).1 (syncOf b).2 Fd gd gr bn bt g w (.returned v2) w2 from ⟨v2, Fd, rfl, by rw [Hc.out]; exact hE2, by rw [Hc.out]; exact HB.out.below hb2⟩)
    clear hE2 hb2 HB Hi
    go_wp2
    go_ret
    exact Hfin.out
  | false =>
    have e10 : errVal (soundN b) = .nilIface := by unfold soundN; rw [hbr]; rfl
    rw [e10] at hs
    have Hs := Lib.hid hs
    obtain ⟨c0, _⟩ := h.cells
    have hp' := hp hbr
    have hc : syncOf b = keptOf ({ b with S := (flushOf b.S).1 }, (flushOf b.S).2) := by unfold syncOf; rw [if_neg (by simp [hbr])]
    have Hc := Lib.hid hc; have HB := Lib.hid (Br.start h); have HO := Lib.hid hO
    have Hfl := Lib.hid (pd_flush h.disk hO.good (by omega))
    clear h hO hs e10 hc hbr hp hp'
    go_enter Tryz.func21, Tryz.ntmps21
    go_wp2_with (first
      | (go_at_call 49; refine Hs.out.mono ?_; rintro e w' ⟨rfl, rfl⟩)
      | (go_at_call 51; refine Hfl.out.mono ?_))
    rintro e w1 ⟨v1, rfl, hT1⟩
    obtain ⟨F1, hE1, hB1, _⟩ := HB.out.disk hT1 (flush_firm _)
    clear hT1 Hfl HB c0
    by_cases n1 : (flushOf b.S).2 = 0
    · rw [n1] at hE1
      obtain rfl := ErrV.zero hE1
      have Hk := Lib.hid (kept_nil hB1.inn)
      have Hi := Lib.hid (in_err ⟨#[112, 97, 103, 101, 115, 46, 83, 121, 110, 99]⟩ 0 .nilIface w1 ErrV.nil)
      have HB1 := Lib.hid hB1; have N1 := Lib.hid n1
      clear hE1 hB1 n1
      go_wp2_with (first
        | (go_at_call 50; refine Hk.out.mono ?_; rintro e w' ⟨rfl, rfl⟩)
        | (go_at_call 35; refine Hi.out.mono ?_))
      rintro e w2 ⟨v2, rfl, hE2, hb2⟩
      have Hfin := Lib.hid (show BkT (syncOf b).1 (syncOf b).2 Fd gd gr bn bt g w (.returned v2) w2 from ⟨v2, F1, rfl, by rw [Hc.out, keptOf_ok N1.out]; show ErrV w2 (flushOf b.S).2 v2; rw [N1.out]; exact hE2, by rw [Hc.out, keptOf_ok N1.out]; exact HB1.out.below hb2⟩)
      clear hE2 hb2 HB1 Hi
      go_wp2
      go_ret
      exact Hfin.out
    · have Hk := Lib.hid (kept_err hB1.inn n1 hE1)
      have HE1 := Lib.hid hE1; have HN1 := Lib.hid n1; have HB1 := Lib.hid hB1
      have Hcg := Lib.hid (hB1.inn.cell 0)
      clear hE1 n1 hB1
      go_wp2_with (first | (go_at_call 50; refine Hk.out.mono ?_))
      rintro e w5 ⟨rfl, hi5, hg5⟩
      have hE5 := HE1.out.other (r := g) (fun s => by rw [Hcg.out]; simp [bookCells]) hg5
      have hB5 := HB1.out.break hi5 hg5
      have Hi := Lib.hid (in_err ⟨#[112, 97, 103, 101, 115, 46, 83, 121, 110, 99]⟩ _ v1 w5 hE5)
      have HB5 := Lib.hid hB5
      clear hi5 hg5 hE5 hB5 HE1 HB1 Hk Hcg
      go_wp2_with (first | (go_at_call 35; refine Hi.out.mono ?_))
      rintro e w6 ⟨v6, rfl, hE6, hb6⟩
      have Hfin := Lib.hid (show BkT (syncOf b).1 (syncOf b).2 Fd gd gr bn bt g w (.returned v6) w6 from ⟨v6, F1, rfl, by rw [Hc.out, keptOf_err HN1.out]; exact hE6, by rw [Hc.out, keptOf_err HN1.out]; exact HB5.out.below hb6⟩)
      clear hE6 hb6 HB5 Hi
      go_wp2
      go_ret
      exact Hfin.out
/-- Undo. -/
theorem Undo_in (h : BkIn b Fd gd gr bn bt g w) : Calls Tryz.prog 24 #[.pointer (some ⟨g, 0, none⟩)] w fun e w' => e = .returned (.tuple #[]) ∧ Br Fd gd gr bn bt g w { b with txn := [] } Fd w' := by
  refine (undo_in h).mono ?_
  rintro e w' ⟨rfl, hi, hg⟩
  exact ⟨rfl, hi, Only.of_grown (F := fun k => BFoot Fd gr bn bt g k) hg (fun k e => .inr (.inr (.inr (.inl (by simpa using e.symm))))), fun k hk => .inl hk⟩
/-- page, whatever the number. -/
theorem page_any (h : BkIn b Fd gd gr bn bt g w) (hO : b.Ok) (i : Int) : Calls Tryz.prog 109 #[.pointer (some ⟨g, 0, none⟩), .int .i64 i] w (PageP (pageOf b i).1 (pageOf b i).2 w) := by
  cases hbr : b.broken with
  | true =>
    have e : pageOf b i = (List.replicate 64 0, 10) := by unfold pageOf; rw [if_pos hbr]
    rw [e]; exact page_broken h hbr i
  | false =>
    by_cases hi : 0 ≤ i ∧ i < (b.pages : Int)
    · obtain ⟨j, rfl⟩ : ∃ j : Nat, i = (j : Int) := ⟨i.toNat, by omega⟩
      exact page_in h hO hbr j (by omega)
    · have e : pageOf b i = (List.replicate 64 0, 1) := by unfold pageOf; rw [if_neg (by simp [hbr]), if_pos (by omega)]
      rw [e]; exact page_out h hbr i hi
theorem page_len (hO : b.Ok) (i : Int) : (pageOf b i).1.length = 64 := by
  unfold pageOf
  split
  · simp
  · split
    · simp
    · split
      · rename_i p hp; exact (hO.txnW _ (mem_of_getM hp)).2
      · split
        · rename_i p hp; exact (hO.newsW _ (mem_of_getM hp)).2
        · have hPb : BP (readOf b.S (2 + b.n + i)).1 := by
            unfold readOf readN
            split
            · rw [List.getD_eq_getElem?_getD]
              cases hg : b.S.newest[(2 + (b.n : Int) + i).toNat]? with
              | none => exact zero_bytes
              | some p => exact flushS_mem _ _ _ hO.byt.1 hO.byt.2 _ (List.mem_of_getElem? hg)
            · exact zero_bytes
          exact hPb.bytes.2
theorem page_zero {i : Int} (h : (pageOf b i).2 = 0) : b.broken = false ∧ 0 ≤ i ∧ i < (b.pages : Int) := by
  unfold pageOf at h
  split at h
  · simp at h
  · rename_i hbr
    split at h
    · simp at h
    · exact ⟨by simpa using hbr, by omega, by omega⟩
end
end Go.Proofs.YtjkkbceddbkejaaGreatDoor
