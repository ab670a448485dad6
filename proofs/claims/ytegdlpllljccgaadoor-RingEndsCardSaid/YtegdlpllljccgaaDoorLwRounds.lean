/-
  'RingRounds': its walk.
-/
import Derived.Test.YtegdlpllljccgaaDoorLwRound
import Derived.Test.YtegdlpllljccgaaDoorLwPairs
set_option linter.unusedSimpArgs false
set_option linter.unusedVariables false
namespace Go.Proofs.YtegdlpllljccgaaDoor
open Go.RowKit Sh Go.Extern.Stop Go.Stop Go.Extern

theorem allocPair (w : World) : (Instr.alloc 27 true (.tuple #[])).run Tryd.prog w = .ok (.pointer (some ⟨w.heap.size, 0, none⟩)) (w.alloc (.cells #[.int .i64 0, .int .i64 0] 27)) := by kernel_rfl
theorem infoPair : (Tryd.prog.info? 27).map (·.size) = some 2 := by kernel_rfl
theorem infoPairs : (Tryd.prog.info? 27).map (fun i => (i.zero, i.size, i.bytes)) = some (some (.agg #[.int .i64 0, .int .i64 0]), 2, 16) := by kernel_rfl
theorem infoSlot : (Tryd.prog.info? 58).map (fun i => (i.zero, i.size, i.bytes)) = some (some (.slice none 0 0), 1, 24) := by kernel_rfl
theorem built_m07 : Tryd.prog.built 25 [(1, .int .u64 7)] = some (markCells m07).toArray := by kernel_rfl
def key (k : Nat) : List UInt8 := UInt8.ofNat k :: 3 :: List.replicate 30 0
theorem built_key (b : UInt8) : Tryd.prog.built 23 [(0, cu8 b), (1, .int .u8 3)] = some ((b :: 3 :: List.replicate 30 0 : List UInt8).map cu8).toArray := by kernel_rfl
def roundN (a : Int) : Nat := (((a.tmod 60 + 60).tmod 60) + 1).toNat
theorem roundN_in (a : Int) : 1 ≤ roundN a ∧ roundN a ≤ 60 ∧ ((roundN a : Nat) : Int) = (a.tmod 60 + 60).tmod 60 + 1 := by
  have h1 := Int.tmod_lt_of_pos (a.tmod 60 + 60) (show (0 : Int) < 60 by omega)
  have h2 : -60 < a.tmod 60 := by
    have := Int.lt_tmod_of_pos a (show (0 : Int) < 60 by omega)
    omega
  have h3 : 0 ≤ (a.tmod 60 + 60).tmod 60 := Int.tmod_nonneg 60 (by omega)
  unfold roundN
  omega
theorem lround_any (a x : Int) (ha : -9223372036854775808 ≤ a ∧ a ≤ 9223372036854775807) (w : World) : Calls Tryd.prog 19 #[.int .i64 (wrap64 ((wrap64 (a.tmod 60 + 60)).tmod 60 + 1)), .int .i64 x] w (OwnP 91 (chgs (roundN a) (x % 16777216).toNat) w) := by
  obtain ⟨h1, h2, h3⟩ := roundN_in a
  have h4 := Int.tmod_lt_of_pos a (show (0 : Int) < 60 by omega)
  have h5 : -60 < a.tmod 60 := by
    have := Int.lt_tmod_of_pos a (show (0 : Int) < 60 by omega)
    omega
  have e1 : wrap64 (a.tmod 60 + 60) = a.tmod 60 + 60 := IntWalk.wrap64_in _ (by omega)
  have e2 : wrap64 ((a.tmod 60 + 60).tmod 60 + 1) = ((roundN a : Nat) : Int) := (IntWalk.wrap64_in _ (by omega)).trans h3.symm
  rw [e1, e2]
  exact lchanges_any (roundN a) (by omega) x w
set_option maxRecDepth 100000 in
set_option maxHeartbeats 16000000 in
theorem ringRounds_any (bp : Option Addr) (l : List (Int × Int)) (cap : Nat) (w : World) (h63 : l.length ≤ 9223372036854775807) (hC : PairsAt w.heap.size w bp l) (h0 : bp = none → l.length = 0 ∧ cap = 0) (hI : ∀ q ∈ l, InInt q) :
    Calls Tryd.prog 8 #[.slice bp l.length cap] w fun e w' => e = .returned (.bool true) ∧ Below w.heap.size w w' := by
  obtain ⟨L, hLn⟩ : ∃ L, l.length = L := ⟨_, rfl⟩
  rw [hLn] at h0 h63 ⊢
  obtain ⟨bf, hbf⟩ : ∃ bf, decide (L ≤ 40) = bf := ⟨_, rfl⟩
  go_enter Tryd.func8, Tryd.ntmps8
  go_wp2_with (go_at_call 10; refine (stands_any _).mono ?_)
  rintro e w1 ⟨rfl, hb1⟩
  have s1 := hb1.size
  have s0 : w.heap.size ≤ w.heap.size := Nat.le_refl _
  have hfew := few_any bp L cap
  cases bf with
  | false =>
    have hL40 : ¬ L ≤ 40 := of_decide_eq_false hbf
    go_wp2_with (go_at_call 11; refine (hfew (by omega) w1).mono ?_)
    rintro e w2 ⟨rfl, rfl⟩
    rw [hbf]
    go_wp2
    go_ret
    exact ⟨rfl, hb1⟩
  | true =>
    have hL40 : L ≤ 40 := of_decide_eq_true hbf
    go_wp2_with (go_at_call 11; refine (hfew (by omega) w1).mono ?_)
    rintro e w2 ⟨rfl, rfl⟩
    rw [hbf]
    clear hbf hfew
    go_wp2_with (go_at_call 12; refine (pd_new 100 (by omega) (by omega) _).mono ?_)
    rintro e w2 ⟨v, rfl, hN⟩
    obtain ⟨gd, F1, rfl, hP1, hF1, hb2⟩ := hN.next s1 hb1
    clear hN hb1
    have s2 := hb2.size
    obtain ⟨hl, Hl⟩ : ∃ hl : List Value, Hid (hl = markCells m07) := ⟨_, rfl⟩
    have hbm : Hid (Tryd.prog.built 25 [(1, .int .u64 7)] = some hl.toArray) := by rw [Hl.out]; exact built_m07
    have hop1 := openv_any hP1 (good_new 100 (by omega) (by omega)) (byt_new 100) rfl (first := 0) (n := 100) (m := m07) (by rw [newS_len]; omega) (by omega) (by omega) (by decide) (by decide) (by decide) (Rnd.new.found (by omega)) (used := 0) rfl (by omega)
    have k0 : ((0 : Nat) : Int) = 0 := rfl
    have k100 : ((100 : Nat) : Int) = 100 := rfl
    rw [← Hl.out, k0, k100] at hop1
    have Hop1 := Lib.hid hop1
    clear hop1 k0 k100
    go_wp2_with (first
      | (refine wpList_build_to rfl 25 _ rfl hl.toArray (Eq.trans (congrArg (Program.built _ _) (by simp [Act.eval, Act.put])) hbm.out) ?_)
      | (go_at_call 14; refine Hop1.out.mono ?_))
    rintro e w3 ⟨g, ap0, cp0, rfl, hg, hring, hok, _, hb3⟩
    have hb03 := hb2.trans (hb3.mono s2)
    have s3 := hb03.size
    have hP3 := hP1.below hb3
    have hgF : ¬ F1 g := fun h => by have := hP1.lt h; omega
    have hgl3 := hring.lt
    have e07 : lastOf 100 m07 [] = m07 := rfl
    rw [e07] at hring hok
    have hhd := head_any hring
    rw [← Hl.out] at hhd
    have Hhd := Lib.hid hhd
    clear Hop1 hP1 hhd e07 hb2 hb3 hok
    -- the box
    have hmi : Hid ((Tryd.prog.info? 25).map (·.size) = some hl.toArray.size) := by rw [List.size_toArray, Hl.out]; exact infoPMark
    have hmz : Hid (zMark.toArray.size = hl.toArray.size) := by rw [Hl.out]; rfl
    have hmone : Hid (hl.toArray.all (·.oneCell') = true) := by rw [Hl.out]; exact all_oneCell_toArray (mark_one m07)
    go_wp2_with (go_at_call 25; refine Hhd.out.mono ?_)
    rintro e w4 ⟨rv, hrv, rfl, hb4⟩
    obtain rfl := hrv.out
    have hP4 := hP3.below hb4
    have hring4 := hring.below hb4
    have hb04 := hb03.trans (hb4.mono s3)
    have s4 := hb04.size
    have hx4 : Below w4.heap.size w4 (w4.alloc (.cells hl.toArray 25)) := (Below.refl _ _).alloc (Nat.le_refl _) _
    have hbox : (w4.alloc (.cells hl.toArray 25)).heap[w4.heap.size]? = some (.cells hl.toArray 25 (0, 0)) := heap_alloc_new w4 _
    have hP5 := hP4.below hx4
    have hring5 := hring4.below hx4
    have hb05 := hb04.trans (hx4.mono s4)
    have s5 := hb05.size
    have hg4 : g < w4.heap.size := hring4.lt
    have hF4 : ∀ b, F1 b → b < w4.heap.size := fun b hb => hP4.lt hb
    have hs45 : (w4.alloc (.cells hl.toArray 25)).heap.size = w4.heap.size + 1 := by simp
    have HCa : Hid (∀ W, Below w.heap.size w W → ∀ ad, bp = some ad → ∀ j u, (prsC l)[j]? = some u → W.cell? (ad.add j) = some u) := fun W hW => (hC.below hW).cells
    have hprl : Hid ((prsC l).length = L * 2) := by rw [prsC_length, hLn]; rfl
    obtain ⟨pr, hpr⟩ : ∃ pr, prsC l = pr := ⟨_, rfl⟩
    have hone : Hid (∀ u ∈ pr, u.oneCell' = true) := by rw [← hpr]; exact prsC_one l
    rw [hpr] at HCa hprl
    have Hpr := Lib.hid hpr
    obtain ⟨ip, hip, hipz⟩ := Option.map_eq_some_iff.1 infoPairs
    simp only [Prod.mk.injEq] at hipz
    obtain ⟨hip0, hip1, hip2⟩ := hipz
    have Hip := Lib.hid hip; have Hip0 := Lib.hid hip0; have Hip1 := Lib.hid hip1; have Hip2 := Lib.hid hip2
    clear hip hip0 hip1 hip2 hpr hC hx4 hb4 hb03 hP3 hring Hhd hP4 hring4 hb04
    go_upto_region 11 with (first
      | (refine wpList_alloc_arr rfl 25 rfl _ allocMark ?_)
      | (refine wpList_store_new rfl 25 _ _ rfl w4.heap.size rfl hl.toArray rfl rfl 25 _ hmi.out hmz.out hmone.out ?_))
    generalize hw5 : w4.alloc (.cells hl.toArray 25) = w5 at hbox hP5 hring5 hb05 s5 hs45 ⊢
    obtain ⟨x, hx⟩ : ∃ x, w4.heap.size = x := ⟨_, rfl⟩
    rw [hx] at hbox hg4 hF4 hs45 s4 ⊢
    clear hx hw5 hmi hmz hmone
    go_wp2_with (first
      | (refine wpList_append_any rfl _ _ 26 rfl w5.heap.size 27 ip _ 2 16 Tryd.underlying26 Hip.out Hip0.out Hip1.out Hip2.out rfl (by omega) (.slice none 0 0) 0 [] rfl (World.ownsRow_nil _ _ _ _) bp L cap pr rfl h0 hprl.out (HCa.out _ hb05) hone.out (by unfold maxLen; omega) (by omega) (Nat.le_refl _) ?_; intro v6 w6 hown6 hgr6)
      | (have hb56 : Below w5.heap.size w5 w6 := below_own (Below.refl _ _) (World.ownsRow_nil w5 w5.heap.size 27 2) hgr6 (Nat.le_refl _)
         refine wpList_append_any rfl _ _ 26 rfl w5.heap.size 27 ip _ 2 16 Tryd.underlying26 Hip.out Hip0.out Hip1.out Hip2.out rfl (by omega) v6 (0 + L) ([] ++ pr) rfl hown6 bp L cap pr rfl h0 hprl.out (HCa.out _ (hb05.trans (hb56.mono s5))) hone.out (by unfold maxLen; omega) (by omega) hb56.size ?_; intro v7 w7 hown7 hgr7; obtain ⟨M, hM⟩ : ∃ M, 0 + L + L = M := ⟨_, rfl⟩; rw [hM] at hown7; obtain ⟨ap7, cp7, hv7⟩ := row_form hown7; subst hv7))
    have hb57 : Below w5.heap.size w5 w7 := below_own hb56 hown6 hgr7 hb56.size
    rw [List.nil_append] at hown7
    have hprl2 : (pr ++ pr).length = M * 2 := by rw [List.length_append, hprl.out]; omega
    have hgetp : Hid (∀ (k : Nat) (q : Int × Int), (l ++ l)[k]? = some q → (pr ++ pr)[k * 2]? = some (.int .i64 q.1) ∧ (pr ++ pr)[k * 2 + 1]? = some (.int .i64 q.2)) := fun k q h => by
      rw [← Hpr.out, ← prsC_append]; exact prsC_at h
    have hll : (l ++ l).length = M := by rw [List.length_append, hLn]; omega
    obtain ⟨pp, hpp⟩ : ∃ pp, pr ++ pr = pp := ⟨_, rfl⟩
    rw [hpp] at hown7 hprl2 hgetp
    have hM80 : M ≤ 80 := by omega
    have hq : ∃ q, pp = [] ∨ ap7 = some ⟨q, 0, none⟩ := by
      rcases hown7.2 with ⟨_, h⟩ | ⟨g', c', cur, hv, _⟩
      · exact ⟨0, .inl (List.length_eq_zero_iff.1 (by omega))⟩
      · simp only [Value.slice.injEq] at hv
        exact ⟨g', .inr hv.1⟩
    obtain ⟨q, hq⟩ := hq
    have hKlt : ∀ b, ap7 = some ⟨b, 0, none⟩ → w5.heap.size ≤ b ∧ b < w7.heap.size := fun b hb => hown7.lt b (by rw [hb]; rfl)
    have hRW : RW w.heap.size gd g x q F1 (fun j => ap7 = some ⟨j, 0, none⟩) (newS 100) 0 100 m07 m07 0 (.slice none 0 0) [] [] pp w7 := {
      disk := hP5.below hb57
      ring := hring5.below hb57
      box := (hb57.block x (by omega)).trans (by rw [← Hl.out]; exact hbox)
      row := by
        rcases hq with h | h
        · subst h; exact fun j v hj => by simp at hj
        · subst h
          exact fun j v hj => by
            rw [Nat.zero_add, hown7.cellAt j (by rw [← hprl2]; exact (List.getElem?_eq_some_iff.1 hj).1)]; exact hj
      all := World.ownsRow_nil _ _ _ _
      recs := RecsK.nil _ _
      Kq := hq
      dK := fun b hb => by
        have h1 := hKlt b hb
        exact ⟨⟨fun hf => by have := hF4 b hf; omega, by omega, by omega⟩, by simp [Value.ownBlock], h1.2⟩
      dg := ⟨hgF, by omega, by simp [Value.ownBlock]⟩
      dx := ⟨fun hf => by have := hF4 x hf; omega, by simp [Value.ownBlock]⟩
      dv := fun b e => by simp [Value.ownBlock] at e
      low := ⟨fun b hf => by have := hF1 b hf; omega, by omega, s4⟩ }
    have hb07 := hb05.trans (hb57.mono s5)
    have HRW := Lib.hid hRW
    obtain ⟨is, his, hisz⟩ := Option.map_eq_some_iff.1 infoSlot
    simp only [Prod.mk.injEq] at hisz
    obtain ⟨his0, his1, his2⟩ := hisz
    have His := Lib.hid his; have His0 := Lib.hid his0; have His1 := Lib.hid his1; have His2 := Lib.hid his2
    clear his his0 his1 his2
    have Hgetp := Lib.hid hgetp; have Hll := Lib.hid hll; have Hq := Lib.hid hq
    clear hRW hgetp hll hown7 hgr7 hown6 hgr6 hb56 hb57 hKlt hP5 hring5 hbox hF4 hgF HCa hprl hone hpp hprl2 Hpr hq hbm Hip Hip0 Hip1 Hip2 h63 h0
    go_loopg [41, 9] M (fun gg i v wr => ∃ (k : Nat) (F K : Nat → Prop) (S : St) (m0 : Mk) (rs : List (List Chg)) (vs : List Value) (ap : Option Addr) (cp : Nat), k ≤ M ∧ gg = M - k ∧ i = .int .i64 (k : Nat) ∧ v = .slice ap rs.length cp ∧ Rnd k S m0 rs ∧ RW w.heap.size gd g x q F K S 0 100 m0 (lastOf 100 m0 rs) (takesAll rs) (.slice ap rs.length cp) vs rs pp wr ∧ Below w.heap.size w wr)
    case atStart => exact ⟨0, F1, _, newS 100, m07, [], [], none, 0, by omega, rfl, rfl, rfl, Rnd.new, HRW.out, hb07⟩
    case round =>
      obtain ⟨k, F, K, S, m0, rs, vs, ap, cp, hk, rfl, rfl, rfl, hR, hW, hbel⟩ := hrel
      clear HRW hb07
      by_cases hlt : k < M
      · have hlt' : (k : Int) < M := by omega
        obtain ⟨⟨a0, a1⟩, hqq⟩ : ∃ p, (l ++ l)[k]? = some p := ⟨_, List.getElem?_eq_getElem (by rw [Hll.out]; exact hlt)⟩
        obtain ⟨hp0, hp1⟩ := Hgetp.out k _ hqq
        have hin : InInt (a0, a1) := by
          have := List.mem_of_getElem? hqq
          exact (List.mem_append.1 this).elim (hI _) (hI _)
        have hppne : pp ≠ [] := fun h => by rw [h] at hp0; simp at hp0
        obtain rfl : ap7 = some ⟨q, 0, none⟩ := Hq.out.resolve_left hppne
        obtain ⟨pc, Hpc⟩ : ∃ pc : List Value, Hid (pc = [.int .i64 a0, .int .i64 a1]) := ⟨_, rfl⟩
        have hrg : wr.rangeAt q (k * 2) pc := by
          rw [Hpc.out]
          intro j u hj
          have r0 := hW.row (k * 2) _ hp0
          have r1 := hW.row (k * 2 + 1) _ hp1
          rw [Nat.zero_add] at r0 r1
          match j, hj with
          | 0, hj => rw [← hj]; exact r0
          | 1, hj => rw [← hj]; exact r1
        have Hrg := Lib.hid hrg
        have hci : Hid ((Tryd.prog.info? 27).map (·.size) = some pc.length) := by rw [Hpc.out]; exact infoPair
        have hci2 : Hid ((Tryd.prog.info? 27).map (·.size) = some pc.toArray.size) := by rw [Hpc.out]; exact infoPair
        have hcz : Hid ((#[.int .i64 0, .int .i64 0] : Array Value).size = pc.toArray.size) := by show (#[.int .i64 0, .int .i64 0] : Array Value).size = pc.toArray.size; rw [Hpc.out]; rfl
        have hcone : Hid (pc.toArray.all (·.oneCell') = true) := by rw [Hpc.out]; exact all_oneCell_toArray (fun u hu => by simp only [List.mem_cons, List.not_mem_nil, or_false] at hu; rcases hu with rfl | rfl <;> rfl)
        have hbx : Below wr.heap.size wr (wr.alloc (.cells pc.toArray 27)) := (Below.refl _ _).alloc (Nat.le_refl _) _
        have hxx : (wr.alloc (.cells pc.toArray 27)).heap[wr.heap.size]? = some (.cells pc.toArray 27 (0, 0)) := heap_alloc_new wr _
        have hWx := hW.below hbx
        have hbelx := hbel.trans (hbx.mono hbel.size)
        clear hp0 hp1 hqq hppne hrg hW hbel
        go_upto_region 14 with (first
          | (refine wpList_alloc_arr rfl 27 rfl _ allocPair ?_)
          | (refine wpList_load_mid rfl 27 _ rfl q (k * 2) rfl pc _ Hrg.out Tryd.underlying27 rfl hci.out ?_)
          | (refine wpList_store_new rfl 27 _ _ rfl wr.heap.size rfl pc.toArray rfl rfl 27 _ hci2.out hcz.out hcone.out ?_))
        generalize hwx : wr.alloc (.cells pc.toArray 27) = wx at hbx hxx hWx hbelx ⊢
        obtain ⟨y, hy⟩ : ∃ y, wr.heap.size = y := ⟨_, rfl⟩
        rw [hy] at hxx ⊢
        have c0 : wx.cell? ⟨y, 0, none⟩ = some (.int .i64 a0) := by rw [cell_of_row wx y 0 _ _ _ hxx, Hpc.out]; rfl
        have c1 : wx.cell? ⟨y, 1, none⟩ = some (.int .i64 a1) := by rw [cell_of_row wx y 1 _ _ _ hxx, Hpc.out]; rfl
        clear hy hwx hbx hxx Hrg hci hci2 hcz hcone
        go_wp2_with (go_at_call 19; refine (lround_any a0 a1 hin.1 wx).mono ?_)
        rintro e w8 ⟨ap8, cp8, rfl, hown8, hb8⟩
        obtain ⟨n1, n60, _⟩ := roundN_in a0
        obtain ⟨X, hX⟩ : ∃ X, (a1 % 16777216).toNat = X := ⟨_, rfl⟩
        obtain ⟨N, hN⟩ : ∃ N, roundN a0 = N := ⟨_, rfl⟩
        have hX24 : X < 16777216 := by omega
        rw [hX, hN] at hown8
        rw [hX, hN]
        rw [hN] at n1 n60
        rw [chgs_length] at hown8 ⊢
        have hIr := hR.num
        have hR0 : rs.length ≤ 7 + k := by omega
        clear hX hN c0 c1
        have hfit8 := chgs_fit N X n1 n60 hX24
        obtain ⟨b8, rfl, hb8lo, hb8hi, hr8⟩ := own_ranges hfit8.what (chgs_length N X) (by omega) hown8
        have hW8 := hWx.fresh hb8 hb8lo hb8hi
        have hR8 : RecsK (fun j => K j ∨ j = b8) w8 [Value.slice (some ⟨b8, 0, none⟩) (chgs N X).length cp8] [chgs N X] := RecsK.one (.inr rfl) hr8
        rw [chgs_length] at hR8
        have hbel8 := hbelx.trans (hb8.mono hbelx.size)
        obtain ⟨bb, hbb⟩ : ∃ bb, fitsB (100 - takesAll rs) N = bb := ⟨_, rfl⟩
        have hfb := fits_any hW8.ring (hR.ring (by omega)) N (by omega)
        rw [hbb] at hfb
        have Hfb := Lib.hid hfb
        obtain ⟨K8, hK8⟩ : ∃ K8 : Nat → Prop, (fun j => K j ∨ j = b8) = K8 := ⟨_, rfl⟩
        rw [hK8] at hW8 hR8
        clear hfb hown8 hr8 hb8lo hb8hi hWx hb8 hbelx hK8 hIr
        cases bb with
        | true =>
          have hfit : takesAll rs + takes N ≤ 100 := by have := ((fitsB_iff _ _).1 hbb).2.2; have := hR.room; omega
          go_wp2_with (go_at_call 20; refine Hfb.out.mono ?_)
          rintro e w9 ⟨rfl, mq, rfl⟩
          have hW9 := hW8.below (below_drewN w8 mq _)
          have hR9 := hR8.keep (hW8.sameBelow (below_drewN w8 mq _))
          have hbel9 := hbel8.trans (below_drewN w8 mq _)
          generalize w8.drewN mq = w9 at hW9 hR9 hbel9 ⊢
          clear hW8 hR8 hbel8 Hfb hbb
          have hadd := padd_any hW9.ring (hR.ring (by omega)) hW9.disk hW9.dg.1 hR.good (by rw [hR.firm]; omega) (by have := hR.ats; omega) (chgs N X) (some ⟨b8, 0, none⟩) cp8 hfit8 (hR9.chgs (fun b hb => (hW9.dK b hb).2.2)) (by rw [chgs_length]; omega)
          obtain ⟨hz, hRn⟩ := hR.add (by omega) n1 n60 hX24 hfit
          obtain ⟨cg, hcg⟩ : ∃ cg, chgs N X = cg := ⟨_, rfl⟩
          have hcgl : cg.length = N := by rw [← hcg, chgs_length]
          rw [hcg] at hadd hz hRn hR9 hfit8
          have he1 : endM 100 (lastOf 100 m0 rs) cg = lastOf 100 m0 (rs ++ [cg]) := by rw [lastOf_append]; rfl
          have he2 : takesAll rs + takes cg.length = takesAll (rs ++ [cg]) := by rw [takesAll_append]; simp [takesAll]
          rw [he1, he2] at hadd
          obtain ⟨r, Hr⟩ : ∃ r, writesOf 0 100 S (lastOf 100 m0 rs).place (sectors (lastOf 100 m0 rs) cg) = r := ⟨_, rfl⟩
          rw [Hr] at hadd hz hRn
          obtain ⟨mc, Hmc⟩ : ∃ mc, lastOf 100 m0 rs = mc := ⟨_, rfl⟩
          obtain ⟨us, Hus⟩ : ∃ us, takesAll rs = us := ⟨_, rfl⟩
          rw [Hmc, Hus] at hadd hW9
          rw [hcgl] at hadd
          have Hadd := Lib.hid hadd
          have Hz := Lib.hid hz; have HRn := Lib.hid hRn
          clear hadd hz hRn Hr Hmc Hus he1 he2 hcg hR hX24 hfit
          go_wp2_with (go_at_call 22; refine Hadd.out.mono ?_)
          rintro e w10 ⟨v10, G, rfl, hE, hP, hrg, ho, hn⟩
          rw [Hz.out] at hE
          obtain rfl := ErrV.zero hE
          have hW10 := hW9.added hP (hrg.elim (·.2) (fun h => absurd Hz.out h.1)) ho hn
          have hR10 := hR9.keep (hW9.sameAdded ho)
          have hbel10 := hW9.baseAdded hbel9 ho
          have htl := told_any cg (some ⟨b8, 0, none⟩) cp8 hfit8.what (by have := hfit8.le; omega) w10 (hR10.chgs (fun b hb => (hW10.dK b hb).2.2))
          rw [hcgl] at htl
          have Htl := Lib.hid htl
          clear Hadd htl hE hP hrg ho hn hW9 hR9 hbel9 Hz
          go_wp2_with (go_at_call 24; refine Htl.out.mono ?_)
          rintro e w11 ⟨ap11, cp11, rfl, hown11, hb11⟩
          rw [hcgl] at hown11 ⊢
          obtain ⟨b11, rfl, hb11lo, hb11hi, hr11⟩ := own_ranges hfit8.what hcgl (by omega) hown11
          have hW11 := hW10.fresh hb11 hb11lo hb11hi
          have hbel11 := hbel10.trans (hb11.mono hbel10.size)
          have hxs : Below w11.heap.size w11 (w11.alloc (.cells #[.slice (some ⟨b11, 0, none⟩) N cp11] 58)) := (Below.refl _ _).alloc (Nat.le_refl _) _
          have hW12 := hW11.below hxs
          have hbel12 := hbel11.trans (hxs.mono hbel11.size)
          have hr12 : ∀ j c, cg[j]? = some c → (w11.alloc (.cells #[.slice (some ⟨b11, 0, none⟩) N cp11] 58)).rangeAt b11 (j * 65) (chgC c) := fun j c hj => range_keep (hr11 j c hj) (hxs.block b11 hb11hi)
          have hcell : ∀ (j : Nat) (u : Value), [Value.slice (some ⟨b11, 0, none⟩) N cp11][j]? = some u → (w11.alloc (.cells #[.slice (some ⟨b11, 0, none⟩) N cp11] 58)).cell? ((⟨w11.heap.size, 0, none⟩ : Addr).add j) = some u := fun j u hu => by
            match j with
            | 0 =>
              obtain rfl : Value.slice (some ⟨b11, 0, none⟩) N cp11 = u := by simpa using hu
              exact cell_of_row _ w11.heap.size _ _ _ _ (heap_alloc_new w11 _)
            | j + 1 => simp at hu
          have Hcell := Lib.hid hcell
          have hrl : rs.length ≤ 200 := by have := hR0; omega
          have hown12 := hW12.all
          have HW12 := Lib.hid hW12; have Hr12 := Lib.hid hr12
          clear hcell hxs hown11 hb11 hb11lo hb11hi hr11 hW10 hR10 hbel10 hW11 hbel11 Htl hW12 hr12
          go_upto_region 21 with (first
            | (refine wpList_append_lies _ rfl _ _ 43 rfl w.heap.size 58 is _ 1 24 Tryd.underlying43 His.out His0.out His1.out His2.out rfl (by omega) _ rs.length vs rfl hown12 ⟨w11.heap.size, 0, none⟩ 1 1 [Value.slice (some ⟨b11, 0, none⟩) N cp11] rfl rfl Hcell.out (fun u hu => by rw [List.mem_singleton.1 hu]; rfl) (by omega) (by unfold maxLen; omega) (by omega) hbel12.size _ rfl ?_; intro g13 cp13 w13 hown13 hgr13 hg13 hlt13))
          have hv13 : (Value.slice (some ⟨g13, 0, none⟩) (rs.length + 1) cp13).ownBlock = _ ∨ ∀ j, (Value.slice (some ⟨g13, 0, none⟩) (rs.length + 1) cp13).ownBlock = some j → (w11.alloc (.cells #[.slice (some ⟨b11, 0, none⟩) N cp11] 58)).heap.size ≤ j := hg13.imp (fun e => e.symm) (fun e j hj => by
            have hj' : some g13 = some j := hj
            have := Option.some.inj hj'
            omega)
          have hW13 := HW12.out.told (l := cg) (cap := cp11) (.inr rfl) Hr12.out (by rw [hcgl]; exact hown13) hgr13 hv13
          have hbel13 := below_own hbel12 hown12 hgr13 hbel12.size
          obtain ⟨mv, Hmv⟩ : ∃ mv : List Value, Hid (mv = markCells m0) := ⟨_, rfl⟩
          have hmvi : Hid ((Tryd.prog.info? 25).map (·.size) = some mv.toArray.size) := by
            have e : mv.length = 34 := by rw [Hmv.out]; simp [markCells, HRn.out.last]
            rw [List.size_toArray, e]; exact infoPMark
          have Hbox13 := Lib.hid hW13.box
          rw [← Hmv.out] at Hbox13
          have hop := openv_any hW13.disk HRn.out.good HRn.out.byt HRn.out.lit.on (first := 0) (n := 100) (m := m0) (by rw [HRn.out.firm]; omega) (by omega) (by omega) HRn.out.place (by have := HRn.out.num; omega) HRn.out.last (HRn.out.found (by omega)) (used := takesAll (rs ++ [cg])) rfl HRn.out.room
          have k0 : ((0 : Nat) : Int) = 0 := rfl
          have k100 : ((100 : Nat) : Int) = 100 := rfl
          have hA : (rs ++ [cg]).length = rs.length + 1 := by simp
          rw [← Hmv.out, k0, k100] at hop
          unfold OpenV at hop
          rw [hA] at hop
          have Hop := Lib.hid hop
          clear hop k0 k100 hgr13 hown13 hv13 hg13 HW12 Hr12 Hcell hown12 hbel12 hlt13
          go_wp2_with (first
            | (refine wpList_load_row rfl 25 _ rfl x rfl 25 mv.toArray (0, 0) _ Hbox13.out Tryd.underlying25 rfl hmvi.out ?_)
            | (go_at_call 14; refine Hop.out.mono ?_))
          rintro e w14 ⟨g14, ap14, cp14, rfl, _, _, _, hrv14, hb14⟩
          have hW14 := hW13.below hb14
          have hbel14 := hbel13.trans (hb14.mono hbel13.size)
          have hsm := same_any (rs ++ [cg]) (rs ++ [cg]) ap14 (some ⟨g13, 0, none⟩) cp14 cp13 w14 hrv14 (hW14.recs.recsV (cp := cp13) (by rw [hA]; have := hW14.all; rw [hA] at this; exact this) HRn.out.fit (fun b hb => (hW14.dK b hb).2.2)) ⟨by rw [hA]; omega, by rw [hA]; omega⟩
          rw [decide_eq_true rfl, hA] at hsm
          have Hsm := Lib.hid hsm
          clear Hop hsm hW13 hb14 hrv14 hbel13 Hbox13
          go_wp2_with (go_at_call 18; refine Hsm.out.mono ?_)
          rintro e w15 ⟨rfl, hb15⟩
          have hW15 := hW14.below hb15
          have hbel15 := hbel14.trans (hb15.mono hbel14.size)
          have HW15 := Lib.hid hW15
          clear Hsm hW14 hb15 hbel14 hW15
          go_wp2
          go_roundg (M - (k + 1))
          case measure => omega
          case rel => exact ⟨k + 1, G, _, r.1, m0, rs ++ [cg], _, some ⟨g13, 0, none⟩, cp13, by omega, rfl, by go_num, by rw [hA], HRn.out, by rw [hA]; exact HW15.out, hbel15⟩
        | false =>
          go_wp2_with (go_at_call 20; refine Hfb.out.mono ?_)
          rintro e w9 ⟨rfl, mq, rfl⟩
          have hnofit : ¬ takes N ≤ 100 - takesAll rs := fun h => by have := (fitsB_iff (100 - takesAll rs) N).2 ⟨n1, n60, h⟩; rw [hbb] at this; cases this
          have hW9 := hW8.below (below_drewN w8 mq _)
          have hR9 := hR8.keep (hW8.sameBelow (below_drewN w8 mq _))
          have hbel9 := hbel8.trans (below_drewN w8 mq _)
          generalize w8.drewN mq = w9 at hW9 hR9 hbel9 ⊢
          obtain ⟨kv, Hkv⟩ : ∃ kv : List Value, Hid (kv = (key k).map cu8) := ⟨_, rfl⟩
          have hbk : Hid (Tryd.prog.built 23 [(0, .int .u8 (k : Int)), (1, .int .u8 3)] = some kv.toArray) := by
            have e : Value.int .u8 (k : Int) = cu8 (UInt8.ofNat k) := by rw [cu8, bz_eq, UInt8.toNat_ofNat']; congr 1; omega
            rw [e, Hkv.out]; exact built_key (UInt8.ofNat k)
          have hcut := cut_any hW9.ring (key k) (by simp [key])
          rw [← Hkv.out] at hcut
          have Hcut := Lib.hid hcut
          clear hcut hW8 hR8 hbel8 Hfb hbb
          go_wp2_with (first
            | (refine wpList_build_to rfl 23 _ rfl kv.toArray (Eq.trans (congrArg (Program.built _ _) (by simp [Act.eval, Act.put])) hbk.out) ?_)
            | (go_at_call 27; refine Hcut.out.mono ?_))
          rintro e w10 ⟨rfl, hring10, ho10⟩
          have hW10 := hW9.turned hring10 ho10
          have hR10 := hR9.keep (hW9.sameTurned ho10)
          have hbel10 := hW9.baseTurned hbel9 s0 ho10
          have hRc := hR.cut (by omega) (key k) (by simp [key])
          obtain ⟨mk, Hmk⟩ : ∃ mk : Mk, Hid (mk = ⟨(lastOf 100 m0 rs).place, (lastOf 100 m0 rs).num, key k⟩) := ⟨_, rfl⟩
          rw [← Hmk.out] at hW10 hRc
          obtain ⟨mv2, Hmv2⟩ : ∃ mv2 : List Value, Hid (mv2 = markCells mk) := ⟨_, rfl⟩
          have hmv2l : mv2.length = 34 := by rw [Hmv2.out]; simp [markCells, hRc.last]
          have hmv2i : Hid ((Tryd.prog.info? 25).map (·.size) = some mv2.toArray.size) := by rw [List.size_toArray, hmv2l]; exact infoPMark
          obtain ⟨mv1, Hmv1⟩ : ∃ mv1 : List Value, Hid (mv1 = markCells m0) := ⟨_, rfl⟩
          have hmv1l : mv1.length = 34 := by rw [Hmv1.out]; simp [markCells, hR.last]
          have hhd2 := head_any hW10.ring
          rw [← Hmv2.out] at hhd2
          have Hhd2 := Lib.hid hhd2
          have hmv2one : ∀ u ∈ mv2.toArray.toList, u.oneCell' = true := by rw [Hmv2.out]; exact mark_one mk
          have Hmv2one := Lib.hid hmv2one
          clear Hcut hhd2 hW9 hR9 hbel9 hring10 ho10 hnofit Hmk hbk hR hR0 hmv2one
          go_wp2_with (go_at_call 25; refine Hhd2.out.mono ?_)
          rintro e w11 ⟨rv11, hrv11, rfl, hb11⟩
          obtain rfl := hrv11.out
          have hW11 := hW10.below hb11
          have hR11 := hR10.keep (hW10.sameBelow hb11)
          have hbel11 := hbel10.trans (hb11.mono hbel10.size)
          have Hbox11 := Lib.hid hW11.box
          rw [← Hmv1.out] at Hbox11
          clear hW10 hR10 hbel10 hb11 Hhd2
          go_upto_region 18 with (first
            | (refine wpList_store_into rfl 25 _ _ rfl x 0 mv2.toArray rfl rfl mv1 25 Hbox11.out hmv2i.out (by rw [List.size_toArray, hmv2l, hmv1l]; exact Nat.le_refl _) Hmv2one.out ?_; intro w12 hx12 hgr12))
          have hx12' : w12.heap[x]? = some (.cells (markCells mk).toArray 25 (0, 0)) := by
            have e : splice mv1 0 mv2.toArray.toList = markCells mk := by
              rw [← Hmv2.out]
              unfold splice
              rw [List.take_zero, List.nil_append, List.drop_of_length_le (by rw [hmv1l, Nat.zero_add]; show _ ≤ mv2.length; omega), List.append_nil]
            rw [← e]; exact hx12.out
          have hW12 := hW11.boxed hx12' hgr12.out
          have hR12 := hR11.keep (hW11.sameBoxed hgr12.out)
          have hbel12 := hW11.baseBoxed hbel11 hgr12.out
          have hpack : ∃ (m1 : Mk) (rs1 : List (List Chg)) (vs1 : List Value), Rnd k S m1 rs1 ∧ RW w.heap.size gd g x q F K8 S 0 100 m1 (lastOf 100 m1 rs1) (takesAll rs1) (.slice none 0 0) vs1 rs1 pp w12 ∧ takesAll rs1 + takes N ≤ 100 ∧ rs1.length ≤ 7 + k :=
            ⟨mk, [], [], hRc, hW12, by show 0 + takes N ≤ 100; unfold takes; omega, by simp⟩
          clear hW11 hR11 hbel11 hx12 hx12' hgr12 hW12 hRc Hbox11 hmv1l hmv2l hmv2i Hmv2one
          obtain ⟨m1, rs1, vs1, hR, hW9, hfit, hR0⟩ := hpack
          have hR9 := hR12
          have hbel9 := hbel12
          clear hR12 hbel12
          have hadd := padd_any hW9.ring (hR.ring (by omega)) hW9.disk hW9.dg.1 hR.good (by rw [hR.firm]; omega) (by have := hR.ats; omega) (chgs N X) (some ⟨b8, 0, none⟩) cp8 hfit8 (hR9.chgs (fun b hb => (hW9.dK b hb).2.2)) (by rw [chgs_length]; omega)
          obtain ⟨hz, hRn⟩ := hR.add (by omega) n1 n60 hX24 hfit
          obtain ⟨cg, hcg⟩ : ∃ cg, chgs N X = cg := ⟨_, rfl⟩
          have hcgl : cg.length = N := by rw [← hcg, chgs_length]
          rw [hcg] at hadd hz hRn hR9 hfit8
          have he1 : endM 100 (lastOf 100 m1 rs1) cg = lastOf 100 m1 (rs1 ++ [cg]) := by rw [lastOf_append]; rfl
          have he2 : takesAll rs1 + takes cg.length = takesAll (rs1 ++ [cg]) := by rw [takesAll_append]; simp [takesAll]
          rw [he1, he2] at hadd
          obtain ⟨r, Hr⟩ : ∃ r, writesOf 0 100 S (lastOf 100 m1 rs1).place (sectors (lastOf 100 m1 rs1) cg) = r := ⟨_, rfl⟩
          rw [Hr] at hadd hz hRn
          obtain ⟨mc, Hmc⟩ : ∃ mc, lastOf 100 m1 rs1 = mc := ⟨_, rfl⟩
          obtain ⟨us, Hus⟩ : ∃ us, takesAll rs1 = us := ⟨_, rfl⟩
          rw [Hmc, Hus] at hadd hW9
          rw [hcgl] at hadd
          have Hadd := Lib.hid hadd
          have Hz := Lib.hid hz; have HRn := Lib.hid hRn
          clear hadd hz hRn Hr Hmc Hus he1 he2 hcg hR hX24 hfit
          go_wp2_with (go_at_call 22; refine Hadd.out.mono ?_)
          rintro e w10 ⟨v10, G, rfl, hE, hP, hrg, ho, hn⟩
          rw [Hz.out] at hE
          obtain rfl := ErrV.zero hE
          have hW10 := hW9.added hP (hrg.elim (·.2) (fun h => absurd Hz.out h.1)) ho hn
          have hR10 := hR9.keep (hW9.sameAdded ho)
          have hbel10 := hW9.baseAdded hbel9 ho
          have htl := told_any cg (some ⟨b8, 0, none⟩) cp8 hfit8.what (by have := hfit8.le; omega) w10 (hR10.chgs (fun b hb => (hW10.dK b hb).2.2))
          rw [hcgl] at htl
          have Htl := Lib.hid htl
          clear Hadd htl hE hP hrg ho hn hW9 hR9 hbel9 Hz
          go_wp2_with (go_at_call 24; refine Htl.out.mono ?_)
          rintro e w11 ⟨ap11, cp11, rfl, hown11, hb11⟩
          rw [hcgl] at hown11 ⊢
          obtain ⟨b11, rfl, hb11lo, hb11hi, hr11⟩ := own_ranges hfit8.what hcgl (by omega) hown11
          have hW11 := hW10.fresh hb11 hb11lo hb11hi
          have hbel11 := hbel10.trans (hb11.mono hbel10.size)
          have hxs : Below w11.heap.size w11 (w11.alloc (.cells #[.slice (some ⟨b11, 0, none⟩) N cp11] 58)) := (Below.refl _ _).alloc (Nat.le_refl _) _
          have hW12 := hW11.below hxs
          have hbel12 := hbel11.trans (hxs.mono hbel11.size)
          have hr12 : ∀ j c, cg[j]? = some c → (w11.alloc (.cells #[.slice (some ⟨b11, 0, none⟩) N cp11] 58)).rangeAt b11 (j * 65) (chgC c) := fun j c hj => range_keep (hr11 j c hj) (hxs.block b11 hb11hi)
          have hcell : ∀ (j : Nat) (u : Value), [Value.slice (some ⟨b11, 0, none⟩) N cp11][j]? = some u → (w11.alloc (.cells #[.slice (some ⟨b11, 0, none⟩) N cp11] 58)).cell? ((⟨w11.heap.size, 0, none⟩ : Addr).add j) = some u := fun j u hu => by
            match j with
            | 0 =>
              obtain rfl : Value.slice (some ⟨b11, 0, none⟩) N cp11 = u := by simpa using hu
              exact cell_of_row _ w11.heap.size _ _ _ _ (heap_alloc_new w11 _)
            | j + 1 => simp at hu
          have Hcell := Lib.hid hcell
          have hrl : rs1.length ≤ 200 := by have := hR0; omega
          have hown12 := hW12.all
          have HW12 := Lib.hid hW12; have Hr12 := Lib.hid hr12
          clear hcell hxs hown11 hb11 hb11lo hb11hi hr11 hW10 hR10 hbel10 hW11 hbel11 Htl hW12 hr12
          go_upto_region 21 with (first
            | (refine wpList_append_lies _ rfl _ _ 43 rfl w.heap.size 58 is _ 1 24 Tryd.underlying43 His.out His0.out His1.out His2.out rfl (by omega) _ rs1.length vs1 rfl hown12 ⟨w11.heap.size, 0, none⟩ 1 1 [Value.slice (some ⟨b11, 0, none⟩) N cp11] rfl rfl Hcell.out (fun u hu => by rw [List.mem_singleton.1 hu]; rfl) (by omega) (by unfold maxLen; omega) (by omega) hbel12.size _ rfl ?_; intro g13 cp13 w13 hown13 hgr13 hg13 hlt13))
          have hv13 : (Value.slice (some ⟨g13, 0, none⟩) (rs1.length + 1) cp13).ownBlock = _ ∨ ∀ j, (Value.slice (some ⟨g13, 0, none⟩) (rs1.length + 1) cp13).ownBlock = some j → (w11.alloc (.cells #[.slice (some ⟨b11, 0, none⟩) N cp11] 58)).heap.size ≤ j := hg13.imp (fun e => e.symm) (fun e j hj => by
            have hj' : some g13 = some j := hj
            have := Option.some.inj hj'
            omega)
          have hW13 := HW12.out.told (l := cg) (cap := cp11) (.inr rfl) Hr12.out (by rw [hcgl]; exact hown13) hgr13 hv13
          have hbel13 := below_own hbel12 hown12 hgr13 hbel12.size
          obtain ⟨mv, Hmv⟩ : ∃ mv : List Value, Hid (mv = markCells m1) := ⟨_, rfl⟩
          have hmvi : Hid ((Tryd.prog.info? 25).map (·.size) = some mv.toArray.size) := by
            have e : mv.length = 34 := by rw [Hmv.out]; simp [markCells, HRn.out.last]
            rw [List.size_toArray, e]; exact infoPMark
          have Hbox13 := Lib.hid hW13.box
          rw [← Hmv.out] at Hbox13
          have hop := openv_any hW13.disk HRn.out.good HRn.out.byt HRn.out.lit.on (first := 0) (n := 100) (m := m1) (by rw [HRn.out.firm]; omega) (by omega) (by omega) HRn.out.place (by have := HRn.out.num; omega) HRn.out.last (HRn.out.found (by omega)) (used := takesAll (rs1 ++ [cg])) rfl HRn.out.room
          have k0 : ((0 : Nat) : Int) = 0 := rfl
          have k100 : ((100 : Nat) : Int) = 100 := rfl
          have hA : (rs1 ++ [cg]).length = rs1.length + 1 := by simp
          rw [← Hmv.out, k0, k100] at hop
          unfold OpenV at hop
          rw [hA] at hop
          have Hop := Lib.hid hop
          clear hop k0 k100 hgr13 hown13 hv13 hg13 HW12 Hr12 Hcell hown12 hbel12 hlt13
          go_wp2_with (first
            | (refine wpList_load_row rfl 25 _ rfl x rfl 25 mv.toArray (0, 0) _ Hbox13.out Tryd.underlying25 rfl hmvi.out ?_)
            | (go_at_call 14; refine Hop.out.mono ?_))
          rintro e w14 ⟨g14, ap14, cp14, rfl, _, _, _, hrv14, hb14⟩
          have hW14 := hW13.below hb14
          have hbel14 := hbel13.trans (hb14.mono hbel13.size)
          have hsm := same_any (rs1 ++ [cg]) (rs1 ++ [cg]) ap14 (some ⟨g13, 0, none⟩) cp14 cp13 w14 hrv14 (hW14.recs.recsV (cp := cp13) (by rw [hA]; have := hW14.all; rw [hA] at this; exact this) HRn.out.fit (fun b hb => (hW14.dK b hb).2.2)) ⟨by rw [hA]; omega, by rw [hA]; omega⟩
          rw [decide_eq_true rfl, hA] at hsm
          have Hsm := Lib.hid hsm
          clear Hop hsm hW13 hb14 hrv14 hbel13 Hbox13
          go_wp2_with (go_at_call 18; refine Hsm.out.mono ?_)
          rintro e w15 ⟨rfl, hb15⟩
          have hW15 := hW14.below hb15
          have hbel15 := hbel14.trans (hb15.mono hbel14.size)
          have HW15 := Lib.hid hW15
          clear Hsm hW14 hb15 hbel14 hW15
          go_wp2
          go_roundg (M - (k + 1))
          case measure => omega
          case rel => exact ⟨k + 1, G, _, r.1, m1, rs1 ++ [cg], _, some ⟨g13, 0, none⟩, cp13, by omega, rfl, by go_num, by rw [hA], HRn.out, by rw [hA]; exact HW15.out, hbel15⟩
      · obtain rfl : k = M := by omega
        go_wp2
        go_ret
        exact ⟨rfl, hbel⟩
end Go.Proofs.YtegdlpllljccgaaDoor
