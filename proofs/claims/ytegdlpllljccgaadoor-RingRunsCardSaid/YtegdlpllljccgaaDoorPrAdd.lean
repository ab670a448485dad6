/-
  The program's ring: add.
-/
import Derived.Test.YtegdlpllljccgaaDoorPrWrites
set_option linter.unusedSimpArgs false
set_option linter.unusedVariables false
namespace Go.Proofs.YtegdlpllljccgaaDoor
open Go.RowKit Sh Go.Extern.Stop Go.Stop Go.Extern

structure AdW (g gd first n : Nat) (m : Mk) (used : Nat) (b : Nat) (pgs : List (List UInt8)) (S0 : St) (k : Nat) (F : Nat → Prop) (S : St) (G : Nat → Prop) (w1 wr : World) : Prop where
  ring : PrAt g gd first n m used wr
  rec_ : RecAt b pgs wr
  disk : PD S G gd wr
  good : Good S
  firm : S.firm = S0.firm
  cnt : S.ats.length ≤ S0.ats.length + k
  new : ∀ j, G j → F j ∨ w1.heap.size ≤ j
  only : Only F w1 wr
  eqn : writesOf first n S0 m.place pgs = writesOf first n S (m.place + k) (pgs.drop k)
/-- What add leaves. -/
def AddP (g gd first n : Nat) (m : Mk) (used : Nat) (m2 : Mk) (used2 : Nat) (r : St × Int) (F : Nat → Prop) (w : World) (e : Ending) (w' : World) : Prop :=
  ∃ v G, e = .returned v ∧ ErrV w' r.2 v ∧ PD r.1 G gd w' ∧ ((r.2 = 0 ∧ PrAt g gd first n m2 used2 w') ∨ (r.2 ≠ 0 ∧ PrAt g gd first n m used w')) ∧ Only (fun j => j = g ∨ F j) w w' ∧ ∀ j, G j → F j ∨ w.heap.size ≤ j
/-- In of an error. -/
def InP (n : Int) (w : World) (e : Ending) (w' : World) : Prop := ∃ v, e = .returned v ∧ ErrV w' n v ∧ Below w.heap.size w w'
theorem in_err (s : ByteArray) (n : Int) (v : Value) (w : World) (h : ErrV w n v) : Calls Tryd.prog 37 #[.string s, v] w (InP n w) := by
  rcases h with ⟨rfl, rfl⟩ | ⟨h0, ss, hC⟩
  · exact (in_nil s w).mono fun e w' ⟨he, hw⟩ => ⟨_, he, ErrV.nil, by rw [hw]; exact Below.refl _ _⟩
  · exact (in_more s n ss v w hC).mono fun e w' ⟨he, hc, hb⟩ => ⟨_, he, .inr ⟨h0, _, hc⟩, hb⟩
section
variable {g gd first n used : Nat} {m : Mk} {S : St} {F : Nat → Prop} {w w' : World}
set_option maxRecDepth 100000 in
set_option maxHeartbeats 8000000 in
/-- add: a record that fits. -/
theorem padd_fits (h : PrAt g gd first n m used w) (hO : RingOk first n m used) (hD : PD S F gd w) (hgF : ¬ F g) (hG : Good S) (hin : first + n ≤ S.firm.length) (hcnt : S.ats.length ≤ 1000000)
    (l : List Chg) (bp : Option Addr) (cap : Nat) (hl : Fit l) (hC : Chgs w.heap.size w bp l) (hfit : takes l.length ≤ n - used) :
    Calls Tryd.prog 45 #[.pointer (some ⟨g, 0, none⟩), .slice bp l.length cap] w
      (AddP g gd first n m used (endM n m l) (used + takes l.length) (writesOf first n S m.place (sectors m l)) F w) := by
  obtain ⟨k, hk⟩ : ∃ k, l.length = k := ⟨_, rfl⟩
  obtain ⟨T, hT⟩ : ∃ T, takes l.length = T := ⟨_, rfl⟩
  have hk1 : 1 ≤ k := by rw [← hk]; exact hl.one
  have hk60 : k ≤ 60 := by rw [← hk]; exact hl.le
  have hTk : takes k = T := by rw [← hk]; exact hT
  have hT65 : 3 ≤ T ∧ T ≤ 65 := by rw [← hTk]; unfold takes; omega
  rw [hT] at hfit ⊢
  have hyes : fitsB (n - used) k = true := (fitsB_iff _ _).2 ⟨hk1, hk60, by rw [hTk]; exact hfit⟩
  have Hft := Lib.hid (fun W (hW : Below w.heap.size w W) => by have := fits_any (h.below hW) hO k (by omega); rw [hyes] at this; exact this)
  have Hsc := Lib.hid (fun W (hW : Below w.heap.size w W) => by have := sectors_any m l bp cap hl h.last ((hC.below hW).mono hW.size); rw [hk] at this; exact this)
  have hmr := h.mark
  obtain ⟨mv, Hmv⟩ : ∃ mv : List Value, Hid (mv = markCells m) := ⟨_, rfl⟩
  have hmvl : mv.length = 34 := by rw [Hmv.out]; simp [markCells, h.last]
  have hmi : Hid ((Tryd.prog.info? 25).map (·.size) = some mv.length) := by rw [hmvl]; exact infoPMark
  rw [← Hmv.out] at hmr Hsc
  rw [hk]
  have Hk := Lib.hid hk; have HT := Lib.hid hT
  clear hk hT hmvl
  have hgl := h.lt
  have h1 : ¬ (k < 1) := by omega
  have h2 : ¬ (60 < k) := by omega
  go_enter Tryd.func45, Tryd.ntmps45
  go_wp2_with (first
    | (go_at_call 20; refine (Hft.out _ (Below.refl _ _)).mono ?_))
  rintro e w0 ⟨rfl, mq, rfl⟩
  have hb0 := below_drewN w mq w.heap.size
  generalize w.drewN mq = w0 at hb0 ⊢
  have Hmr := Lib.hid (show w0.rangeAt g 3 mv from fun j v hj => (hb0.cell (p := ⟨g, 3 + j, none⟩) hgl).trans (hmr j v hj))
  clear Hft hmr
  go_wp2_with (first
    | (refine wpList_load_mid rfl 25 _ rfl g 3 rfl mv _ Hmr.out Tryd.underlying25 rfl hmi.out ?_)
    | (go_at_call 65; refine (Hsc.out _ hb0).mono ?_))
  rintro e w1 ⟨b, hb, rfl, hr1, hb1'⟩
  have hb1 := hb0.trans (hb1'.mono hb0.size)
  have hs0 := hb0.size
  have hTT : takes l.length = T := HT.out
  rw [hTT]
  have hps : (sectors m l).length = T := by rw [sectors_length]; exact hTT
  have hA0 : AdW g gd first n m used b (sectors m l) S 0 F S F w1 w1 := ⟨h.below hb1, hr1, hD.below hb1, hG, rfl, by omega, fun j hj => .inl hj, Only.refl _ _, rfl⟩
  have hFlt : ∀ j, F j → j < w.heap.size := fun j hj => hD.lt hj
  obtain ⟨pgs, Hpgs⟩ : ∃ pgs, Hid (pgs = sectors m l) := ⟨_, rfl⟩
  rw [← Hpgs.out] at hA0 hps ⊢
  have Hps := Lib.hid hps
  have hbl1 := hr1.lt
  clear Hsc Hmr hmi hr1 hps hC h hb1'
  go_wp2
  go_loopg [35] T (fun gg i wr => ∃ c Sk Gk, c ≤ T ∧ gg = T - c ∧ i = .int .i64 (c : Nat) ∧ AdW g gd first n m used b pgs S c F Sk Gk w1 wr)
  case atStart => exact ⟨0, S, F, by omega, rfl, rfl, hA0⟩
  case round =>
    clear hA0
    obtain ⟨c, Sk, Gk, hc, rfl, rfl, hW⟩ := hrel
    by_cases hlt : c < T
    · have hlt' : (c : Int) < T := by omega
      obtain ⟨q, hq⟩ : ∃ q, pgs[c]? = some q := ⟨_, List.getElem?_eq_getElem (by rw [Hps.out]; exact hlt)⟩
      have hq64 : q.length = 64 := hW.rec_.len _ (List.mem_of_getElem? hq)
      have hr := hW.rec_.range hq 0 64 (by omega)
      rw [List.drop_zero, List.take_of_length_le (by omega), Nat.add_zero] at hr
      obtain ⟨qv, Hqv⟩ : ∃ qv : List Value, Hid (qv = q.map cu8) := ⟨_, rfl⟩
      rw [← Hqv.out] at hr
      have hqvl : qv.length = 64 := by rw [Hqv.out, List.length_map, hq64]
      have hqi : Hid ((Tryd.prog.info? 63).map (·.size) = some qv.length) := by rw [hqvl]; exact info64
      have hqi2 : Hid ((Tryd.prog.info? 63).map (·.size) = some qv.toArray.size) := by rw [List.size_toArray, hqvl]; exact info64
      have hqz : Hid (zeros64.size = qv.toArray.size) := by rw [show qv.toArray.size = 64 from by rw [List.size_toArray, hqvl]]; exact (rfl : zeros64.size = 64)
      have hq1 : Hid (qv.toArray.all (·.oneCell') = true) := by rw [Hqv.out]; exact bytes_one _
      have hqp : IsPage qv := by rw [Hqv.out]; exact bytes_page hq64
      have Hr := Lib.hid hr
      have hdrop : pgs.drop c = q :: pgs.drop (c + 1) := by
        obtain ⟨hcl, hcq⟩ := List.getElem?_eq_some_iff.1 hq
        rw [List.drop_eq_getElem_cons hcl, hcq]
      have heqn := hW.eqn
      rw [hdrop] at heqn
      unfold writesOf at heqn
      obtain ⟨Q, hQ⟩ : ∃ Q : Nat, first + (m.place + c) % n = Q := ⟨_, rfl⟩
      rw [hQ, ← Hqv.out] at heqn
      have Heqn : Hid (writesOf first n S m.place pgs = if (writeOf Sk (Q : Int) qv).2 = 0 then writesOf first n (writeOf Sk (Q : Int) qv).1 (m.place + c + 1) (pgs.drop (c + 1)) else writeOf Sk (Q : Int) qv) := by
        rw [← heqn]; cases pgs <;> rfl
      have hba : Below wr.heap.size wr (wr.alloc (.cells qv.toArray 63)) := (Below.refl _ _).alloc (Nat.le_refl _) _
      have hxa : (wr.alloc (.cells qv.toArray 63)).heap[wr.heap.size]? = some (.cells qv.toArray 63 (0, 0)) := heap_alloc_new wr _
      clear hr heqn hdrop
      go_upto_region 11 with (first
        | (refine wpList_alloc_arr rfl 63 rfl _ alloc64 ?_)
        | (refine wpList_load_mid rfl 63 _ rfl b (c * 64) rfl qv _ Hr.out Tryd.underlying63 rfl hqi.out ?_)
        | (refine wpList_store_new rfl 63 _ _ rfl wr.heap.size rfl qv.toArray rfl rfl 63 _ hqi2.out hqz.out hq1.out ?_))
      clear Hr hqi2 hqz hq1
      generalize wr.alloc (.cells qv.toArray 63) = wa at hba hxa ⊢
      obtain ⟨x, hx⟩ : ∃ x, wr.heap.size = x := ⟨_, rfl⟩
      rw [hx] at hxa ⊢
      have hring := hW.ring.below hba
      have hdisk := hW.disk.below hba
      refine wp_region_up 8 (fun w' => Below wa.heap.size wa w') (by kernel_rfl) ?_
      have hb2 : Below wa.heap.size wa { wa with drawn := wa.drawn + 1 } := ⟨rfl, rfl, rfl, Nat.le_refl _, fun _ _ => rfl⟩
      obtain ⟨wd, hdr⟩ : ∃ wd : World, ({ wa with drawn := wa.drawn + 1 } : World) = wd := ⟨_, rfl⟩
      rw [hdr] at hb2 ⊢
      clear hdr
      have HS := Lib.hid hring
      have HDk := Lib.hid hdisk
      have Hsec := Lib.hid (fun W (hW2 : Below wa.heap.size wa W) => by have := sector_any (hring.below hW2) hO c (by omega); rw [hQ] at this; exact this)
      have hgood := hW.good
      have hcount := hW.cnt
      have Hwr := Lib.hid (fun W (hW2 : Below wa.heap.size wa W) => pd_write (hdisk.below hW2) hgood (by omega) (Q : Int) qv hqp)
      have hxl : x < wa.heap.size := (Array.getElem?_eq_some_iff.1 hxa).1
      have HLd := Lib.hid (fun W (hW2 : Below wa.heap.size wa W) => run_loadAt_mid (P := Tryd.prog) W x 0 63 qv _ (fun j v hj => by
        rw [Nat.zero_add, cell_of_row W x j _ _ _ ((hW2.block x hxl).trans hxa)]; simpa using hj) Tryd.underlying63 rfl hqi.out)
      clear hring hdisk hQ hxa
      refine up_take (i := 0) (v := .pointer (some ⟨g, 0, none⟩)) rfl (by kernel_rfl) (by kernel_rfl) (fun _ _ _ h => h) (Or.inl ⟨by rfl, ?_⟩) hb2 ?_
      · intro w' _; go_simp
      try simp only [List.getElem_toArray, List.getElem_cons_succ, List.getElem_cons_zero, Act.put, List.setIfInBounds_toArray, List.set]
      refine up_take (i := 1) (v := .pointer (some ⟨g, 0, none⟩)) rfl (by kernel_rfl) (by kernel_rfl) (fun _ _ _ h => h) (Or.inl ⟨by rfl, ?_⟩) hb2 ?_
      · intro w' _; go_simp
      try simp only [List.getElem_toArray, List.getElem_cons_succ, List.getElem_cons_zero, Act.put, List.setIfInBounds_toArray, List.set]
      refine up_take (i := 2) (v := .pointer (some ⟨g, 0, none⟩)) rfl (by kernel_rfl) (by kernel_rfl) (fun _ _ _ h => h) (Or.inl ⟨by rfl, ?_⟩) hb2 ?_
      · intro w' _; go_simp
      try simp only [List.getElem_toArray, List.getElem_cons_succ, List.getElem_cons_zero, Act.put, List.setIfInBounds_toArray, List.set]
      refine up_take (i := 3) (v := .pointer (some ⟨gd, 0, none⟩)) rfl (by kernel_rfl) (by kernel_rfl) (fun _ _ _ h => h) (Or.inl ⟨by rfl, ?_⟩) hb2 ?_
      · intro w' hS'
        obtain ⟨c0, _⟩ := PrAt.cells (HS.out.below hS')
        clear hS'
        go_simp
      try simp only [List.getElem_toArray, List.getElem_cons_succ, List.getElem_cons_zero, Act.put, List.setIfInBounds_toArray, List.set]
      refine up_take (i := 4) (v := .pointer (some ⟨g, 0, none⟩)) rfl (by kernel_rfl) (by kernel_rfl) (fun _ _ _ h => h) (Or.inl ⟨by rfl, ?_⟩) hb2 ?_
      · intro w' _; go_simp
      try simp only [List.getElem_toArray, List.getElem_cons_succ, List.getElem_cons_zero, Act.put, List.setIfInBounds_toArray, List.set]
      refine up_take (i := 5) (v := .int .i64 c) rfl (by kernel_rfl) (by kernel_rfl) (fun _ _ _ h => h) (Or.inl ⟨by rfl, ?_⟩) hb2 ?_
      · intro w' _; go_simp
      try simp only [List.getElem_toArray, List.getElem_cons_succ, List.getElem_cons_zero, Act.put, List.setIfInBounds_toArray, List.set]
      refine up_take (i := 7) (v := .agg qv.toArray) rfl (by kernel_rfl) (by kernel_rfl) (fun _ _ _ h => h) (Or.inl ⟨by rfl, ?_⟩) hb2 ?_
      · intro w' hS'; exact exec_load _ _ 63 _ rfl x 0 rfl _ (HLd.out w' hS')
      try simp only [List.getElem_toArray, List.getElem_cons_succ, List.getElem_cons_zero, Act.put, List.setIfInBounds_toArray, List.set]
      refine up_one 6 _ rfl (by kernel_rfl) (by decide) (by rfl) (fun K hK => ?_)
      go_simp
      refine (Hsec.out _ hb2).mono ?_
      rintro e w7 ⟨rfl, mq, rfl⟩
      have hb3 := hb2.trans (below_drewN wd mq _)
      generalize hwn : wd.drewN mq = w3 at *
      refine hK _ _ hb3 ?_
      clear hK K
      try simp only [List.getElem_toArray, List.getElem_cons_succ, List.getElem_cons_zero, Act.put, List.setIfInBounds_toArray, List.set]
      clear hwn
      refine up_tail ?_
      refine up_last 8 _ rfl (by kernel_rfl) (by decide) (by rfl) (fun K hK => ?_)
      go_simp
      refine (Hwr.out _ hb3).mono ?_
      rintro e w5 ⟨v4, rfl, G4, hE4, hP4, ho4, hn4⟩
      refine hK _ _ ?_
      clear hK K
      try simp only [List.getElem_toArray, List.getElem_cons_succ, List.getElem_cons_zero, Act.put, List.setIfInBounds_toArray, List.set]
      refine up_last 9 _ rfl (by kernel_rfl) (by decide) (by rfl) (fun K hK => ?_)
      go_simp
      refine hK _ _ ?_
      clear hK K
      try simp only [List.getElem_toArray, List.getElem_cons_succ, List.getElem_cons_zero, Act.put, List.setIfInBounds_toArray, List.set]
      refine up_done (by kernel_rfl) ?_ _
      -- what stands behind the write
      have hba3 := hba.trans (hb3.mono hba.size)
      have hring4 : PrAt g gd first n m used w5 := (hW.ring.below hba3).of_block (ho4.block g (by have := hba3.size; have := hW.ring.lt; omega) (fun hG => (hW.new g hG).elim hgF (fun h1 => by omega)))
      have hrec4 : RecAt b pgs w5 := (hW.rec_.below hba3).of_block (ho4.block b (by have := hba3.size; have := hW.rec_.lt; omega) (fun hG => (hW.new b hG).elim (fun h1 => by have := hFlt b h1; omega) (fun h1 => by omega)))
      have honly4 : Only F w1 w5 := (hW.only.trans (Only.of_below (F := fun _ => False) hba3) (fun j hj => hj.elim)).trans ho4 (fun j hj => hW.new j hj)
      have hnew4 : ∀ j, G4 j → F j ∨ w1.heap.size ≤ j := fun j hj => by
        rcases hn4 j hj with h1 | h1
        · exact hW.new j h1
        · right; have := hW.only.size; have := hba3.size; omega
      have hfirm4 : (writeOf Sk (Q : Int) qv).1.firm = S.firm := by rw [write_firm, hW.firm]
      have hgood4 := good_write hgood (Q : Int) qv
      have hcnt4 := write_count Sk (Q : Int) qv
      clear HS HDk Hsec Hwr HLd hb2 hb3 hba hba3 ho4 hn4 hW hxl
      obtain ⟨r4, hr4⟩ : ∃ r4, writeOf Sk (Q : Int) qv = r4 := ⟨_, rfl⟩
      rw [hr4] at Heqn hE4 hP4 hfirm4 hgood4 hcnt4
      by_cases hz : r4.2 = 0
      · rw [hz] at hE4
        obtain rfl := ErrV.zero hE4
        have heq4 : writesOf first n S m.place pgs = writesOf first n r4.1 (m.place + (c + 1)) (pgs.drop (c + 1)) := by rw [Heqn.out, if_pos hz, ← Nat.add_assoc]
        have hW4 : AdW g gd first n m used b pgs S (c + 1) F r4.1 G4 w1 w5 := ⟨hring4, hrec4, hP4, hgood4, hfirm4, by omega, hnew4, honly4, heq4⟩
        clear hz Heqn heq4 hring4 hrec4 hP4 hgood4 hfirm4 hcnt4 hnew4 honly4 hE4
        go_wp2
        go_roundg (T - (c + 1))
        case measure => omega
        case rel => exact ⟨c + 1, _, _, by omega, rfl, by go_num, hW4⟩
      · have hne := hE4.neqNil w5
        rw [decide_eq_false hz] at hne
        have heq4 : writesOf first n S m.place pgs = r4 := by rw [Heqn.out, if_neg hz]
        have hfin : AddP g gd first n m used (endM n m l) (used + T) (writesOf first n S m.place pgs) F w (.returned v4) w5 := by
          rw [heq4]
          exact ⟨v4, G4, rfl, hE4, hP4, .inr ⟨hz, hring4⟩, (Only.of_below hb1).trans honly4 (fun j hj => .inl (.inr hj)), fun j hj => (hnew4 j hj).imp id (fun h1 => by have := hb1.size; omega)⟩
        obtain ⟨tv, xv, rfl⟩ : ∃ t x, v4 = .iface t x := by
          rcases hE4 with ⟨h0, _⟩ | ⟨_, ss, hC4⟩
          · exact absurd h0 hz
          · exact hC4.iface
        have Hfin := Lib.hid hfin
        clear hfin heq4 Heqn hring4 hrec4 hP4 hgood4 hfirm4 hcnt4 hnew4 honly4 hE4
        go_wp2
        go_ret
        rw [← Hpgs.out]
        exact Hfin.out
    · obtain rfl : c = T := by omega
      have heqn := hW.eqn
      rw [List.drop_of_length_le (by rw [Hps.out]; exact Nat.le_refl _)] at heqn
      have heqn2 : writesOf first n S m.place pgs = (Sk, 0) := heqn
      have hrec := hW.rec_
      rw [Hpgs.out] at hrec
      have hpass := pass_any hW.ring hO (p := firstOf m l) (ps := body l) hrec (by have := hW.ring.lt; omega) c c (by omega) (by omega) k hTk
      rw [firstOf_dig, ← Hk.out] at hpass
      have hem : behind n m l.length (dig (textOf m l)) = endM n m l := rfl
      rw [hem] at hpass
      have Heqn2 := Lib.hid heqn2
      clear heqn heqn2 hem hrec
      go_wp2_with (go_at_call 58; refine hpass.mono ?_)
      rintro e w6 ⟨rfl, hring6, ho6⟩
      have hdisk6 := hW.disk.keep ho6 (fun j hj e => by rw [e] at hj; exact (hW.new g hj).elim hgF (fun h1 => by omega))
      have honly6 : Only (fun j => j = g ∨ F j) w w6 := ((Only.of_below hb1).trans hW.only (fun j hj => .inl (.inr hj))).trans ho6 (fun j hj => .inl (.inl hj))
      have hnew6 := fun j hj => (hW.new j hj).imp id (fun h1 => (by have := hb1.size; omega : w.heap.size ≤ j))
      clear hpass hW
      go_wp2
      go_ret
      rw [← Hpgs.out, Heqn2.out]
      exact ⟨.nilIface, Gk, rfl, ErrV.nil, hdisk6, .inl ⟨rfl, hring6⟩, honly6, hnew6⟩
/-- add: what is refused. -/
theorem padd_large (h : PrAt g gd first n m used w) (bp : Option Addr) (L cap : Nat) (hL : L < 1 ∨ 60 < L) (hL2 : L ≤ 9223372036854775807) :
    Calls Tryd.prog 45 #[.pointer (some ⟨g, 0, none⟩), .slice bp L cap] w fun e w' => e = .returned (.iface 93 (.int .i64 11)) ∧ w = w' := by
  clear h
  rcases hL with hL | hL
  · go_enter Tryd.func45, Tryd.ntmps45
    go_wp2
    go_ret
    exact ⟨rfl, rfl⟩
  · have h1 : ¬ L < 1 := by omega
    go_enter Tryd.func45, Tryd.ntmps45
    go_wp2
    go_ret
    exact ⟨rfl, rfl⟩
theorem padd_space (h : PrAt g gd first n m used w) (hO : RingOk first n m used) (bp : Option Addr) (L cap : Nat) (h1 : 1 ≤ L) (h60 : L ≤ 60) (hfit : ¬ takes L ≤ n - used) :
    Calls Tryd.prog 45 #[.pointer (some ⟨g, 0, none⟩), .slice bp L cap] w fun e w' => e = .returned (.iface 93 (.int .i64 20)) ∧ Below w.heap.size w w' := by
  have hno : fitsB (n - used) L = false := by
    cases hc : fitsB (n - used) L
    · rfl
    · exact absurd ((fitsB_iff _ _).1 hc).2.2 hfit
  have hft := fits_any h hO L (by omega)
  rw [hno] at hft
  have g1 : ¬ L < 1 := by omega
  have g2 : ¬ 60 < L := by omega
  go_enter Tryd.func45, Tryd.ntmps45
  go_wp2_with (first
    | (go_at_call 20; refine hft.mono ?_; rintro e w' ⟨rfl, mq, rfl⟩))
  go_ret
  exact ⟨rfl, below_drewN _ _ _⟩
theorem padd_nil (v : Value) : Calls Tryd.prog 45 #[.pointer none, v] w fun e w' => e = .returned (.iface 93 (.int .i64 10)) ∧ w = w' := by
  go_enter Tryd.func45, Tryd.ntmps45
  go_wp2
  go_ret
  exact ⟨rfl, rfl⟩
/-- Add. -/
theorem padd_any (h : PrAt g gd first n m used w) (hO : RingOk first n m used) (hD : PD S F gd w) (hgF : ¬ F g) (hG : Good S) (hin : first + n ≤ S.firm.length) (hcnt : S.ats.length ≤ 1000000)
    (l : List Chg) (bp : Option Addr) (cap : Nat) (hl : Fit l) (hC : Chgs w.heap.size w bp l) (hfit : takes l.length ≤ n - used) :
    Calls Tryd.prog 22 #[.pointer (some ⟨g, 0, none⟩), .slice bp l.length cap] w
      (AddP g gd first n m used (endM n m l) (used + takes l.length) (writesOf first n S m.place (sectors m l)) F w) := by
  have hadd := padd_fits h hO hD hgF hG hin hcnt l bp cap hl hC hfit
  obtain ⟨L, hL⟩ : ∃ L, l.length = L := ⟨_, rfl⟩
  rw [hL] at hadd ⊢
  obtain ⟨r, Hr⟩ : ∃ r, Hid (r = writesOf first n S m.place (sectors m l)) := ⟨_, rfl⟩
  rw [← Hr.out] at hadd ⊢
  have HL := Lib.hid hL
  clear hL hC hfit
  go_enter Tryd.func22, Tryd.ntmps22
  go_wp2_with (go_at_call 45; refine hadd.mono ?_)
  rintro e w1 ⟨v, G, rfl, hE, hP, hring, ho, hn⟩
  go_wp2_with (go_at_call 37; refine (in_err _ _ v _ hE).mono ?_)
  rintro e w2 ⟨v2, rfl, hE2, hb2⟩
  clear hadd
  obtain ⟨rv, hrv⟩ : ∃ rv : Value, rv = v2 := ⟨_, rfl⟩
  have hfin : AddP g gd first n m used (endM n m l) (used + takes L) r F w (.returned v2) w2 :=
    ⟨v2, G, rfl, hE2, hP.below hb2, hring.imp (fun ⟨a, b⟩ => ⟨a, b.below hb2⟩) (fun ⟨a, b⟩ => ⟨a, b.below hb2⟩), ho.trans (Only.of_below (F := fun _ => False) hb2) (fun j hj => hj.elim), hn⟩
  have Hfin := Lib.hid hfin
  rcases hE2 with ⟨_, rfl⟩ | ⟨_, ss, hC2⟩
  · clear hE hP hring ho hn hfin
    go_wp2
    go_ret
    exact Hfin.out
  · obtain ⟨tv, xv, rfl⟩ := hC2.iface
    clear hE hP hring ho hn hfin hC2
    go_wp2
    go_ret
    exact Hfin.out
end
end Go.Proofs.YtegdlpllljccgaaDoor
