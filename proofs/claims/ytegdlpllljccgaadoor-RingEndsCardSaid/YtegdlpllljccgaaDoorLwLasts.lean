/-
  'RingLasts': its walk.
-/
import Derived.Test.YtegdlpllljccgaaDoorLwRV
import Derived.Test.YtegdlpllljccgaaDoorLwLst
import Derived.Test.YtegdlpllljccgaaDoorLwChains
import Derived.Test.YtegdlpllljccgaaDoorLwAddE
import Derived.Test.YtegdlpllljccgaaDoorLwRounds
import Derived.Test.YtegdlpllljccgaaDoorLwOpen
set_option linter.unusedSimpArgs false
set_option linter.unusedVariables false
namespace Go.Proofs.YtegdlpllljccgaaDoor
open Go.RowKit Sh Go.Extern.Stop Go.Stop Go.Extern

def tenN (a : Int) : Nat := (((a.tmod 10 + 10).tmod 10) + 1).toNat
theorem tenN_in (a : Int) : 1 ≤ tenN a ∧ tenN a ≤ 10 ∧ ((tenN a : Nat) : Int) = (a.tmod 10 + 10).tmod 10 + 1 := by
  have h1 := Int.tmod_lt_of_pos (a.tmod 10 + 10) (show (0 : Int) < 10 by omega)
  have h2 : -10 < a.tmod 10 := by
    have := Int.lt_tmod_of_pos a (show (0 : Int) < 10 by omega)
    omega
  have h3 : 0 ≤ (a.tmod 10 + 10).tmod 10 := Int.tmod_nonneg 10 (by omega)
  unfold tenN
  omega
theorem lten_any (a x : Int) (ha : -9223372036854775808 ≤ a ∧ a ≤ 9223372036854775807) (w : World) : Calls Tryd.prog 19 #[.int .i64 (wrap64 ((wrap64 (a.tmod 10 + 10)).tmod 10 + 1)), .int .i64 x] w (OwnP 91 (chgs (tenN a) (x % 16777216).toNat) w) := by
  obtain ⟨h1, h2, h3⟩ := tenN_in a
  have h4 := Int.tmod_lt_of_pos a (show (0 : Int) < 10 by omega)
  have h5 : -10 < a.tmod 10 := by
    have := Int.lt_tmod_of_pos a (show (0 : Int) < 10 by omega)
    omega
  have e1 : wrap64 (a.tmod 10 + 10) = a.tmod 10 + 10 := IntWalk.wrap64_in _ (by omega)
  have e2 : wrap64 ((a.tmod 10 + 10).tmod 10 + 1) = ((tenN a : Nat) : Int) := (IntWalk.wrap64_in _ (by omega)).trans h3.symm
  rw [e1, e2]
  exact lchanges_any (tenN a) (by omega) x w
/-- '[]T{x}' of a value of some cells, under a guard, too. -/
theorem wpList_row1g {ops : Array Oper} {Q : Exit → Act → World → Prop} {a : Act} {w : World} {o : Oper} {rest : List Oper} (ST T : TypeId) (x : Operand) (ho : o.op = .buildSlice ST 1 #[(0, x)]) (c : List Value) (n : Nat) (z : List Value) (bytes : Nat)
    (hST : Tryd.prog.underlying ST = some (.slice T)) (hinfo : (Tryd.prog.info? T).map (fun i => (i.zero, i.size, i.bytes)) = some (some (.agg z.toArray), n, bytes)) (hn : 0 < n) (hn2 : n ≤ 100) (hz : z.length = n) (hc : c.length = n) (hx : a.eval x = .agg c.toArray) (hw : Region.wanted o (yielded ops a.tmps) = true)
    (h : wpList Tryd.prog ops Q rest (a.put o.dst (.slice (some ⟨w.heap.size, 0, none⟩) 1 1)) (w.alloc (.cells c.toArray T))) : wpList Tryd.prog ops Q (o :: rest) a w := by
  refine wpList_step fun K hK => ?_
  rw [if_pos hw]
  obtain ⟨i, hi, hzz⟩ := Option.map_eq_some_iff.1 hinfo
  simp only [Prod.mk.injEq] at hzz
  obtain ⟨hz0, hs, hb⟩ := hzz
  refine wp_buildSlice (P := Tryd.prog) ST T 1 _ ho c.toArray i _ hST hi hz0 (by rw [hs]; omega) (by rw [hs]; omega) ?_ (hK _ _ h)
  rw [hs]
  have hl : ((#[(0, x)] : Array (Nat × Operand)).map fun (i, x) => (i, a.eval x)).toList = [(0, .agg c.toArray)] := by simp [hx]
  rw [hl]
  have hf := Great.fill_whole (s := n) hn [.agg c.toArray] ((Array.range (1 * n)).map ((Value.agg z.toArray).cells[· % (Value.agg z.toArray).cells.size]!)) (fun v hv => by
    obtain rfl := List.mem_singleton.1 hv
    show c.toArray.size = n
    rw [List.size_toArray]; exact hc) (by simp)
  simpa [Value.cells] using hf
theorem cutAt_zero (bp : Option Addr) (cap : Nat) : cutAt bp cap 0 = bp := by
  unfold cutAt
  split
  · rfl
  · cases bp with
    | none => rfl
    | some ad => rfl
theorem run_first {P : Program} (T E : TypeId) (hT : P.underlying T = some (.slice E)) (hs : (P.info? E).map (·.size) = some 1) (bp : Option Addr) (len cap hi : Nat) (h2 : hi ≤ cap) (w : World) :
    (Instr.sliceAt T (.slice bp len cap) none (some (.int .i64 (hi : Int))) none).run P w = .ok (.slice bp hi cap) w := by
  rw [run_slice_head T E hT hs bp len cap hi h2 w, cutAt_zero, Nat.sub_zero, Nat.sub_zero]
theorem builtSeen : Tryd.prog.built 74 [] = some #[.slice none 0 0, .int .i64 0] := by kernel_rfl
theorem infoMarkL : (Tryd.prog.info? 25).map (fun i => (i.zero, i.size, i.bytes)) = some (some (.agg zMark.toArray), 34, 48) := by kernel_rfl
theorem RecsV.take {N : Nat} {w : World} {vp : Option Addr} {rs : List (List Chg)} (h : RecsV N w vp rs) (j : Nat) : RecsV N w vp (rs.take j) := by
  refine ⟨fun l hl => h.what l (List.mem_of_mem_take hl), fun l hl => h.len l (List.mem_of_mem_take hl), ?_⟩
  rcases h.lies with h0 | ⟨g, h1, h2, h3⟩
  · left; rw [h0]; simp
  · refine .inr ⟨g, h1, h2, fun i l hi => h3 i l ?_⟩
    have hij : i < j := by have := (List.getElem?_eq_some_iff.1 hi).1; rw [List.length_take] at this; omega
    rwa [List.getElem?_take_of_lt hij] at hi
theorem cap_ge {w : World} {B : Nat} {e : TypeId} {ap : Option Addr} {n cp : Nat} {xs : List Value} (h : w.ownsRow B e 1 (.slice ap n cp) n xs) : n ≤ cp := by
  rcases h.2 with ⟨h1, h2⟩ | ⟨g, cap, cur, hv, _, _, hc, _⟩
  · omega
  · simp only [Value.slice.injEq] at hv
    obtain ⟨_, _, rfl⟩ := hv
    exact hc
theorem ErrV.held {w : World} {n : Int} {v : Value} (h : ErrV w n v) (hn : n ≠ 0) : ∃ t x, v = .iface t x ∧ (∀ W : World, (binOp .neq 32 v .nilIface).run Tryd.prog W = .ok (.bool true) W) := by
  rcases h with ⟨h0, _⟩ | ⟨_, ss, hC⟩
  · exact absurd h0 hn
  · obtain ⟨t, x, rfl⟩ := hC.iface
    exact ⟨t, x, rfl, fun W => run_neq_held_nil W 32 t x Tryd.methodsError⟩
theorem open_count {n : Nat} {pg : Nat → List UInt8} : ∀ (f free : Nat) (m : Mk), (openAll n pg f free m).1.length ≤ free
  | 0, _, _ => Nat.zero_le _
  | f + 1, free, m => by
    unfold openAll
    split
    · rename_i hh
      have h3 := hh.1.2.2.2
      have h4 := takes_pos (kOf pg m)
      have := open_count (n := n) (pg := pg) f (free - takes (kOf pg m)) (behind n m (kOf pg m) (dig (rawText pg m)))
      simp only [List.length_cons]
      omega
    · exact Nat.zero_le _
set_option maxRecDepth 100000 in
set_option maxHeartbeats 16000000 in
theorem ringLasts_any (bp : Option Addr) (l : List (Int × Int)) (cap : Nat) (w : World) (h63 : l.length ≤ 9223372036854775807) (hC : PairsAt w.heap.size w bp l) (h0 : bp = none → l.length = 0 ∧ cap = 0) (hI : ∀ q ∈ l, InInt q)
    (fl : Int) (hfl : -9223372036854775808 ≤ fl ∧ fl ≤ 9223372036854775807) (zp : Option Addr) (zs : List Int) (zcap : Nat) (hz : Nums w.heap.size w zp zs) (hz63 : zs.length ≤ 9223372036854775807) (hL : Laid w) :
    Calls Tryd.prog 4 #[.slice bp l.length cap, .int .i64 fl, .slice zp zs.length zcap] w fun e w' => e = .returned (.bool true) ∧ Below w.heap.size w w' := by
  obtain ⟨L, hLn⟩ : ∃ L, l.length = L := ⟨_, rfl⟩
  obtain ⟨Z, hZn⟩ : ∃ Z, zs.length = Z := ⟨_, rfl⟩
  rw [hLn] at h0 h63 ⊢
  rw [hZn] at hz63 ⊢
  obtain ⟨bf, hbf⟩ : ∃ bf, decide (L ≤ 40) = bf := ⟨_, rfl⟩
  go_enter Tryd.func4, Tryd.ntmps4
  go_wp2_with (go_at_call 10; refine (stands_any _).mono ?_)
  rintro e w1 ⟨rfl, hb1⟩
  have s1 := hb1.size
  have s0 : w.heap.size ≤ w.heap.size := Nat.le_refl _
  have hfew := few_any bp L cap
  cases bf with
  | false =>
    have hL40 : ¬ L ≤ 40 := of_decide_eq_false hbf
    go_wp2_with (go_at_call 11; refine (hfew (by omega) w1).mono ?_)
    rintro e w2 ⟨rfl, rfl⟩
    rw [hbf]
    go_wp2
    go_ret
    exact ⟨rfl, hb1⟩
  | true =>
    have hL40 : L ≤ 40 := of_decide_eq_true hbf
    go_wp2_with (go_at_call 11; refine (hfew (by omega) w1).mono ?_)
    rintro e w2 ⟨rfl, rfl⟩
    rw [hbf]
    clear hbf hfew
    go_wp2_with (go_at_call 12; refine (pd_new 300 (by omega) (by omega) _).mono ?_)
    rintro e w2 ⟨v, rfl, hN⟩
    obtain ⟨gd, F1, rfl, hP1, hF1, hb2⟩ := hN.next s1 hb1
    clear hN hb1
    have s2 := hb2.size
    obtain ⟨hl, Hl⟩ : ∃ hl : List Value, Hid (hl = zMark) := ⟨_, rfl⟩
    have hbm : Hid (Tryd.prog.built 25 [] = some hl.toArray) := by rw [Hl.out]; exact builtPMark
    have hop1 := openv_any hP1 (good_new 300 (by omega) (by omega)) (byt_new 300) rfl (first := 0) (n := 300) (m := m00) (by rw [newS_len]; omega) (by omega) (by omega) (by decide) (by decide) (by decide) Lst.new.found (used := 0) (by simp [takesAll]) (by omega)
    have k0 : ((0 : Nat) : Int) = 0 := rfl
    have k300 : ((300 : Nat) : Int) = 300 := rfl
    rw [← zMark_m00, ← Hl.out, k0, k300] at hop1
    have Hop1 := Lib.hid hop1
    clear hop1 k0 k300
    go_wp2_with (first
      | (refine wpList_buildZ 25 rfl hl.toArray hbm.out rfl ?_)
      | (go_at_call 14; refine Hop1.out.mono ?_))
    rintro e w3 ⟨g, ap0, cp0, rfl, hg, hring, hok, _, hb3⟩
    have hb03 := hb2.trans (hb3.mono s2)
    have s3 := hb03.size
    have hgF : ¬ F1 g := fun h => by have := hP1.lt h; omega
    have hRV : RV w.heap.size gd g F1 (fun _ => False) (newS 300) 0 300 (lastOf 300 m00 []) 0 (.slice none 0 0) [] [] w3 := {
      disk := hP1.below hb3
      ring := hring
      all := World.ownsRow_nil _ _ _ _
      recs := RecsK.nil _ _
      dK := fun b hb => hb.elim
      dg := ⟨hgF, by simp [Value.ownBlock]⟩
      dv := fun b e => by simp [Value.ownBlock] at e
      low := ⟨fun b hf => by have := hF1 b hf; omega, by omega⟩ }
    obtain ⟨is, his, hisz⟩ := Option.map_eq_some_iff.1 infoSlot
    simp only [Prod.mk.injEq] at hisz
    have His := Lib.hid (And.intro his hisz)
    have HC := Lib.hid hC; have HRV := Lib.hid hRV; have HLn := Lib.hid hLn; have HI := Lib.hid hI; have HZ := Lib.hid hz; have HZn := Lib.hid hZn
    clear Hop1 hP1 hb2 hb3 hok hring his hisz hRV hC hLn hI hz hZn hgF hF1
    go_wp2
    go_loopg [12, 13, 40] L (fun gg av sv i wr => ∃ (k : Nat) (F K : Nat → Prop) (S : St) (rs : List (List Chg)) (vs : List Value) (ap : Option Addr) (cp sure R : Nat), k ≤ L ∧ gg = L - k ∧ i = .int .i64 (k : Nat) ∧ Hid (rs.length = R) ∧ R ≤ k ∧ av = .slice ap R cp ∧ sv = .int .i64 (sure : Nat) ∧ Lst S rs sure ∧ RV w.heap.size gd g F K S 0 300 (lastOf 300 m00 rs) (takesAll rs) (.slice ap R cp) vs rs wr ∧ Below w.heap.size w wr)
    case atStart => exact ⟨0, F1, _, newS 300, [], [], none, 0, 0, 0, by omega, by omega, rfl, rfl, by omega, rfl, rfl, Lst.new, HRV.out, hb03⟩
    case round =>
      clear HRV hb03
      obtain ⟨k, F, K, S, rs, vs, ap, cp, sure, R, hk, rfl, rfl, HR, hRk, rfl, rfl, hLs, hW, hbel⟩ := hrel
      by_cases hlt : k < L
      case' pos =>
        have hlt' : (k : Int) < L := by omega
        obtain ⟨⟨a0, a1⟩, hqq⟩ : ∃ p, l[k]? = some p := ⟨_, List.getElem?_eq_getElem (by rw [HLn.out]; exact hlt)⟩
        have hin : InInt (a0, a1) := HI.out _ (List.mem_of_getElem? hqq)
        have hCw := HC.out.below hbel
        obtain ⟨b, o, rfl, _, hcs⟩ := hCw.resolve_left (fun h => by rw [h] at hqq; simp at hqq)
        obtain ⟨hp0, hp1⟩ := hcs k _ hqq
        obtain ⟨pc, Hpc⟩ : ∃ pc : List Value, Hid (pc = [.int .i64 a0, .int .i64 a1]) := ⟨_, rfl⟩
        have hrg : wr.rangeAt b (o + k * 2) pc := by
          rw [Hpc.out]
          intro j u hj
          match j, hj with
          | 0, hj => rw [← hj]; exact hp0
          | 1, hj => rw [← hj]; exact hp1
        have Hrg := Lib.hid hrg
        have hci : Hid ((Tryd.prog.info? 27).map (·.size) = some pc.length) := by rw [Hpc.out]; exact infoPair
        have hci2 : Hid ((Tryd.prog.info? 27).map (·.size) = some pc.toArray.size) := by rw [Hpc.out]; exact infoPair
        have hcz : Hid ((#[.int .i64 0, .int .i64 0] : Array Value).size = pc.toArray.size) := by show (#[.int .i64 0, .int .i64 0] : Array Value).size = pc.toArray.size; rw [Hpc.out]; rfl
        have hcone : Hid (pc.toArray.all (·.oneCell') = true) := by rw [Hpc.out]; exact all_oneCell_toArray (fun u hu => by simp only [List.mem_cons, List.not_mem_nil, or_false] at hu; rcases hu with rfl | rfl <;> rfl)
        have hbx : Below wr.heap.size wr (wr.alloc (.cells pc.toArray 27)) := (Below.refl _ _).alloc (Nat.le_refl _) _
        have hxx : (wr.alloc (.cells pc.toArray 27)).heap[wr.heap.size]? = some (.cells pc.toArray 27 (0, 0)) := heap_alloc_new wr _
        have hWx := hW.below hbx
        have hbelx := hbel.trans (hbx.mono hbel.size)
        clear hp0 hp1 hqq hrg hW hbel hcs hCw
        go_upto_region 14 with (first
          | (refine wpList_alloc_arr rfl 27 rfl _ allocPair ?_)
          | (refine wpList_load_mid rfl 27 _ rfl b (o + k * 2) rfl pc _ Hrg.out Tryd.underlying27 rfl hci.out ?_)
          | (refine wpList_store_new rfl 27 _ _ rfl wr.heap.size rfl pc.toArray rfl rfl 27 _ hci2.out hcz.out hcone.out ?_))
        generalize hwx : wr.alloc (.cells pc.toArray 27) = wx at hbx hxx hWx hbelx ⊢
        obtain ⟨y, hy⟩ : ∃ y, wr.heap.size = y := ⟨_, rfl⟩
        rw [hy] at hxx ⊢
        have c0 : wx.cell? ⟨y, 0, none⟩ = some (.int .i64 a0) := by rw [cell_of_row wx y 0 _ _ _ hxx, Hpc.out]; rfl
        have c1 : wx.cell? ⟨y, 1, none⟩ = some (.int .i64 a1) := by rw [cell_of_row wx y 1 _ _ _ hxx, Hpc.out]; rfl
        clear hy hwx hbx hxx Hrg hci hci2 hcz hcone
        go_wp2_with (go_at_call 19; refine (lten_any a0 a1 hin.1 wx).mono ?_)
        rintro e w8 ⟨ap8, cp8, rfl, hown8, hb8⟩
        obtain ⟨n1, n10, _⟩ := tenN_in a0
        obtain ⟨X, hX⟩ : ∃ X, (a1 % 16777216).toNat = X := ⟨_, rfl⟩
        obtain ⟨N, hN⟩ : ∃ N, tenN a0 = N := ⟨_, rfl⟩
        have hX24 : X < 16777216 := by omega
        rw [hX, hN] at hown8
        rw [hX, hN]
        rw [hN] at n1 n10
        rw [chgs_length] at hown8 ⊢
        clear hX hN c0 c1 hin
        have hfit8 := chgs_fit N X n1 (by omega) hX24
        obtain ⟨b8, rfl, hb8lo, hb8hi, hr8⟩ := own_ranges hfit8.what (chgs_length N X) (by omega) hown8
        have hW8 := hWx.fresh hb8 hb8lo hb8hi
        have hR8 : RecsK (fun j => K j ∨ j = b8) w8 [Value.slice (some ⟨b8, 0, none⟩) (chgs N X).length cp8] [chgs N X] := RecsK.one (.inr rfl) hr8
        rw [chgs_length] at hR8
        have hbel8 := hbelx.trans (hb8.mono hbelx.size)
        obtain ⟨K8, hK8⟩ : ∃ K8 : Nat → Prop, (fun j => K j ∨ j = b8) = K8 := ⟨_, rfl⟩
        have hKb8 : K8 b8 := by rw [← hK8]; exact .inr rfl
        rw [hK8] at hW8 hR8
        clear hown8 hr8 hb8lo hb8hi hWx hb8 hbelx hK8
        by_cases hfit : takesAll rs + takes N ≤ 300
        case pos =>
          have hadd := padd_any hW8.ring hLs.ring hW8.disk hW8.dg.1 hLs.good (by rw [hLs.firm]; omega) (by have := hLs.ats; have := takesAll_ge rs; have := hLs.room; omega) (chgs N X) (some ⟨b8, 0, none⟩) cp8 hfit8 (hR8.chgs (fun b hb => (hW8.dK b hb).2.2)) (by rw [chgs_length]; omega)
          obtain ⟨hz, hLn⟩ := hLs.add n1 (by omega) hX24 hfit
          obtain ⟨cg, hcg⟩ : ∃ cg, chgs N X = cg := ⟨_, rfl⟩
          have hcgl : cg.length = N := by rw [← hcg, chgs_length]
          rw [hcg] at hadd hz hLn hR8 hfit8
          have he1 : endM 300 (lastOf 300 m00 rs) cg = lastOf 300 m00 (rs ++ [cg]) := by rw [lastOf_append]; rfl
          have he2 : takesAll rs + takes cg.length = takesAll (rs ++ [cg]) := by rw [takesAll_append]; simp [takesAll]
          rw [he1, he2] at hadd
          obtain ⟨r, Hr⟩ : ∃ r, writesOf 0 300 S (lastOf 300 m00 rs).place (sectors (lastOf 300 m00 rs) cg) = r := ⟨_, rfl⟩
          rw [Hr] at hadd hz hLn
          obtain ⟨mc, Hmc⟩ : ∃ mc, lastOf 300 m00 rs = mc := ⟨_, rfl⟩
          obtain ⟨us, Hus⟩ : ∃ us, takesAll rs = us := ⟨_, rfl⟩
          rw [Hmc, Hus] at hadd hW8
          rw [hcgl] at hadd
          have Hadd := Lib.hid hadd
          have Hz := Lib.hid hz; have HLs := Lib.hid hLn
          clear hadd hz hLn Hr Hmc Hus he1 he2 hcg hLs hX24 hfit
          go_wp2_with (go_at_call 22; refine Hadd.out.mono ?_)
          rintro e w10 ⟨v10, G, rfl, hE, hP, hrg, ho, hn⟩
          rw [Hz.out] at hE
          obtain rfl := ErrV.zero hE
          have hW10 := hW8.added hP (hrg.elim (·.2) (fun h => absurd Hz.out h.1)) ho hn
          have hR10 := hR8.keep (hW8.sameAdded ho)
          have hbel10 := hW8.baseAdded hbel8 ho
          have htl := told_any cg (some ⟨b8, 0, none⟩) cp8 hfit8.what (by have := hfit8.le; omega) w10 (hR10.chgs (fun b hb => (hW10.dK b hb).2.2))
          rw [hcgl] at htl
          have Htl := Lib.hid htl
          clear Hadd htl hE hP hrg ho hn hW8 hR8 hbel8 Hz
          go_wp2_with (go_at_call 24; refine Htl.out.mono ?_)
          rintro e w11 ⟨ap11, cp11, rfl, hown11, hb11⟩
          rw [hcgl] at hown11 ⊢
          obtain ⟨b11, rfl, hb11lo, hb11hi, hr11⟩ := own_ranges hfit8.what hcgl (by omega) hown11
          have hW11 := hW10.fresh hb11 hb11lo hb11hi
          have hbel11 := hbel10.trans (hb11.mono hbel10.size)
          have hxs : Below w11.heap.size w11 (w11.alloc (.cells #[.slice (some ⟨b11, 0, none⟩) N cp11] 58)) := (Below.refl _ _).alloc (Nat.le_refl _) _
          have hW12 := hW11.below hxs
          have hbel12 := hbel11.trans (hxs.mono hbel11.size)
          have hr12 : ∀ j c, cg[j]? = some c → (w11.alloc (.cells #[.slice (some ⟨b11, 0, none⟩) N cp11] 58)).rangeAt b11 (j * 65) (chgC c) := fun j c hj => range_keep (hr11 j c hj) (hxs.block b11 hb11hi)
          have hcell : ∀ (j : Nat) (u : Value), [Value.slice (some ⟨b11, 0, none⟩) N cp11][j]? = some u → (w11.alloc (.cells #[.slice (some ⟨b11, 0, none⟩) N cp11] 58)).cell? ((⟨w11.heap.size, 0, none⟩ : Addr).add j) = some u := fun j u hu => by
            match j with
            | 0 =>
              obtain rfl : Value.slice (some ⟨b11, 0, none⟩) N cp11 = u := by simpa using hu
              exact cell_of_row _ w11.heap.size _ _ _ _ (heap_alloc_new w11 _)
            | j + 1 => simp at hu
          have Hcell := Lib.hid hcell
          have hown12 := hW12.all
          rw [HR.out] at hown12
          have HW12 := Lib.hid hW12; have Hr12 := Lib.hid hr12
          clear hcell hxs hown11 hb11 hb11lo hb11hi hr11 hW10 hR10 hbel10 hW11 hbel11 Htl hW12 hr12
          go_upto_region 17 with (first
            | (refine wpList_append_lies _ rfl _ _ 43 rfl w.heap.size 58 is _ 1 24 Tryd.underlying43 His.out.1 His.out.2.1 His.out.2.2.1 His.out.2.2.2 rfl (by omega) _ R vs rfl hown12 ⟨w11.heap.size, 0, none⟩ 1 1 [Value.slice (some ⟨b11, 0, none⟩) N cp11] rfl rfl Hcell.out (fun u hu => by rw [List.mem_singleton.1 hu]; rfl) (by omega) (by unfold maxLen; omega) (by omega) hbel12.size _ rfl ?_; intro g13 cp13 w13 hown13 hgr13 hg13 hlt13))
          have hv13 : (Value.slice (some ⟨g13, 0, none⟩) (R + 1) cp13).ownBlock = _ ∨ ∀ j, (Value.slice (some ⟨g13, 0, none⟩) (R + 1) cp13).ownBlock = some j → (w11.alloc (.cells #[.slice (some ⟨b11, 0, none⟩) N cp11] 58)).heap.size ≤ j := hg13.imp (fun e => e.symm) (fun e j hj => by
            have hj' : some g13 = some j := hj
            have := Option.some.inj hj'
            omega)
          have hW13 := HW12.out.told (l := cg) (cap := cp11) (.inr rfl) Hr12.out (by rw [hcgl, HR.out]; exact hown13) hgr13 hv13
          have hbel13 := below_own hbel12 hown12 hgr13 hbel12.size
          have hA : Hid ((rs ++ [cg]).length = R + 1) := by show (rs ++ [cg]).length = R + 1; rw [List.length_append, HR.out]; rfl
          clear hgr13 hown13 hv13 hg13 HW12 Hr12 Hcell hown12 hbel12 hlt13
          by_cases hkf : (k : Int) = fl
          · obtain ⟨hfz, hLf⟩ := HLs.out.flush
            have hflu := pd_flush hW13.disk HLs.out.good (by have := HLs.out.ats; have := takesAll_ge (rs ++ [cg]); have := HLs.out.room; omega)
            rw [hfz] at hflu
            have Hflu := Lib.hid hflu
            clear hflu
            go_wp2_with (go_at_call 30; refine Hflu.out.mono ?_)
            rintro e w14 ⟨v14, rfl, G14, hE14, hP14, ho14, hn14⟩
            obtain rfl := ErrV.zero hE14
            have hW14 := hW13.flushed hP14 ho14 hn14
            have hbel14 := hW13.baseFlushed hbel13 ho14
            clear Hflu hfz hW13 hbel13 hE14 hP14 ho14 hn14
            rw [hA.out] at hLf
            go_wp2
            go_roundg (L - (k + 1))
            case measure => omega
            case rel => exact ⟨k + 1, G14, _, _, rs ++ [cg], _, some ⟨g13, 0, none⟩, cp13, R + 1, R + 1, by omega, rfl, by go_num, hA, by omega, rfl, by go_num, hLf, hW14, hbel14⟩
          · go_wp2
            go_roundg (L - (k + 1))
            case measure => omega
            case rel => exact ⟨k + 1, G, _, r.1, rs ++ [cg], _, some ⟨g13, 0, none⟩, cp13, sure, R + 1, by omega, rfl, by go_num, hA, by omega, rfl, rfl, HLs.out, hW13, hbel13⟩
        case' neg =>
          have hadd := padd_no hW8.ring hLs.ring (some ⟨b8, 0, none⟩) N cp8 (fun h => hfit (by have := hLs.room; omega)) (by omega) 20 (by rw [if_pos ⟨n1, by omega⟩])
          have Hadd := Lib.hid hadd
          clear hadd
          go_wp2_with (go_at_call 22; refine Hadd.out.mono ?_)
          rintro e w10 ⟨v10, rfl, hE, hb10⟩
          obtain ⟨tv, xv, rfl, hne⟩ := hE.held (by decide)
          have hW9 := hW8.below hb10
          have hbel9 := hbel8.trans (hb10.mono hbel8.size)
          obtain ⟨w9, hw9⟩ : ∃ w9 : World, w10 = w9 := ⟨_, rfl⟩
          obtain ⟨K9, hK9⟩ : ∃ K9 : Nat → Prop, K8 = K9 := ⟨_, rfl⟩
          rw [hw9] at hW9 hbel9 ⊢
          rw [hK9] at hW9
          have HLs := Lib.hid hLs
          clear hw9 hK9 hW8 hR8 hbel8 Hadd hb10 hE hfit hfit8 hKb8 hLs hlt hlt' n1 n10 hX24 HC HI HLn Hpc
          go_upto_region 22 with (fail)
      case' neg =>
        obtain ⟨w9, hw9⟩ : ∃ w9 : World, wr = w9 := ⟨_, rfl⟩
        obtain ⟨K9, hK9⟩ : ∃ K9 : Nat → Prop, K = K9 := ⟨_, rfl⟩
        have hlt' : ¬ (k : Int) < L := by omega
        have hW9 := hW
        have hbel9 := hbel
        rw [hw9] at hW9 hbel9 ⊢
        rw [hK9] at hW9
        have HLs := Lib.hid hLs
        clear hw9 hK9 hLs hW hbel HC HI HLn
        go_upto_region 22 with (fail)
        clear hlt hlt'
      all_goals
        have hsR : sure ≤ R := by have := HLs.out.sureLe; have := HR.out; omega
        have hR300 : R ≤ 300 := by have := takesAll_ge rs; have := HLs.out.room; have := HR.out; omega
        have hcnt : S.ats.length ≤ 1048576 := by have := HLs.out.ats; have := HR.out; omega
        obtain ⟨sv, Hsv⟩ : ∃ sv : Array Value, Hid (sv = #[.slice none 0 0, .int .i64 0]) := ⟨_, rfl⟩
        have hbS : Hid (Tryd.prog.built 74 [] = some sv) := by rw [Hsv.out]; exact builtSeen
        go_upto_region 23 with (first
          | (refine wpList_buildZ 74 rfl sv hbS.out rfl ?_))
        have hbA : Below w9.heap.size w9 (w9.alloc (.cells sv 74)) := (Below.refl _ _).alloc (Nat.le_refl _) _
        have hqA : (w9.alloc (.cells sv 74)).heap[w9.heap.size]? = some (.cells #[.slice none 0 0, .int .i64 0] 74 (0, 0)) := by rw [← Hsv.out]; exact heap_alloc_new w9 _
        have hszA : (w9.alloc (.cells sv 74)).heap.size = w9.heap.size + 1 := by simp
        generalize w9.alloc (.cells sv 74) = wA at hbA hqA hszA ⊢
        obtain ⟨q, hq⟩ : ∃ q, w9.heap.size = q := ⟨_, rfl⟩
        rw [hq] at hqA hszA ⊢
        have Hq := Lib.hid hq
        have hSA : SeenW q q (fun _ => False) (.slice none 0 0) [] [] wA := ⟨hqA, World.ownsRow_nil _ _ _ _, rfl, fun i im h => by simp at h, fun b h => h.elim, by simp [Value.ownBlock], Nat.le_refl _⟩
        have hlA := look_any hSA (hW9.disk.below hbA) HLs.out.byt HLs.out.lit.on 300 HLs.out.firm (by omega) (by omega) (by omega) (by simp)
        have HlA := Lib.hid hlA; have HbA := Lib.hid hbA; have HW9 := Lib.hid hW9; have Hbel9 := Lib.hid hbel9
        clear hlA hSA hqA hq hbA hW9 hbel9 hbS Hsv
        go_wp2_with (go_at_call 31; refine HlA.out.mono ?_)
        rintro e wB ⟨rfl, vB, bB, cB, hbB, hSB, hoB, hvB⟩
        have hAB : Below w9.heap.size wA wB := hoB.base (by have := Hq.out; omega) (fun j hj => by
          have hqo := Hq.out
          rcases hj with h | h
          · omega
          · simp [Value.ownBlock] at h)
        have h9B : Below w9.heap.size w9 wB := HbA.out.trans hAB
        have hwB : Below w.heap.size w wB := Hbel9.out.trans (h9B.mono Hbel9.out.size)
        have hcr := pd_crash (HW9.out.disk.below h9B) HLs.out.good hcnt zp zcap zs ((HZ.out.below hwB).mono hwB.size) (by rw [HZn.out]; exact hz63)
        rw [HZn.out] at hcr
        have Hcr := Lib.hid hcr
        clear HlA hcr hoB hAB
        go_wp2_with (go_at_call 32; refine Hcr.out.mono ?_)
        rintro e wC ⟨vC, rfl, gd2, F2, rfl, hP2, hbC, hF2⟩
        have hSC := hSB.below hbC
        have hwC := hwB.trans (hbC.mono hwB.size)
        have hqC : q ≤ wC.heap.size := by have := hbC.size; have := hSB.lt; omega
        have hgC : Good (crashOf S zs) := good_crash HLs.out.good zs
        have hyC : Byt (crashOf S zs) := byt_crash HLs.out.byt zs
        have hfC : (crashOf S zs).firm.length = 300 := by rw [crash_firm]; exact HLs.out.firm
        have hlC := look_any hSC hP2 hyC rfl 300 hfC (by omega) (by omega) hqC (by simp)
        have h9C : Below w9.heap.size w9 wC := h9B.trans (hbC.mono h9B.size)
        have HlC := Lib.hid hlC
        have hqB := hSB.lt
        have hvlB := fun j (e : vB.ownBlock = some j) => (hSB.own.lt j e)
        clear hlC Hcr hbC hSC hwB
        go_wp2_with (go_at_call 31; refine HlC.out.mono ?_)
        rintro e wD ⟨rfl, vD, bD, cD, hbD, hSD, hoD, hvD⟩
        have hCD : Below w9.heap.size wC wD := hoD.base h9C.size (fun j hj => by
          have hqo := Hq.out
          rcases hj with h | h
          · omega
          · rcases hvB j h with h' | h'
            · simp [Value.ownBlock] at h'
            · omega)
        have h9D : Below w9.heap.size w9 wD := h9C.trans hCD
        have hwD := Hbel9.out.trans (h9D.mono Hbel9.out.size)
        have hP2D : PD (crashOf S zs) F2 gd2 wD := hP2.keep hoD (fun k hk hG => by
          have := hF2 k hk
          rcases hG with h | h
          · omega
          · have := hvlB k h; omega)
        have hopn := open_any hP2D hgC hyC rfl (first := 0) (n := 300) (m := m00) (by rw [hfC]; omega) (by omega) (by omega) (by decide) (by decide) (by decide)
        have k0 : ((0 : Nat) : Int) = 0 := rfl
        have k300 : ((300 : Nat) : Int) = 300 := rfl
        rw [← zMark_m00, ← Hl.out, k0, k300] at hopn
        have hpg64 : ∀ i, (pgOf (imgB (crashOf S zs)) 0 300 i).length = 64 := fun i => pg_len hyC (by rw [hfC]; omega) (by omega) i
        have Hopn := Lib.hid hopn
        clear HlC hopn k0 k300 hoD hCD h9C hvlB hvB hP2 hF2 hSB hqC hqB hP2D hwC
        go_wp2_with (first
          | (refine wpList_buildZ 25 rfl hl.toArray hbm.out rfl ?_)
          | (go_at_call 14; refine Hopn.out.mono ?_))
        rintro e wE ⟨g3, vE, vsE, usE, rfl, _, _, _, _, hownE, hrecE, hbE⟩
        obtain ⟨apE, cpE, rfl⟩ := row_form hownE
        have hrv := recsV_found hpg64 hownE hrecE
        have hcrash := HLs.out.crash zs
        have htx := HLs.out.texts
        obtain ⟨A, HA⟩ : ∃ A, Hid (A = (openAll 300 (pgOf (imgB (crashOf S zs)) 0 300) 300 300 m00).1) := ⟨_, rfl⟩
        rw [← HA.out] at hrv hcrash hownE ⊢
        have h9E := h9D.trans (hbE.mono h9D.size)
        have hwE := hwD.trans (hbE.mono hwD.size)
        have hWE := HW9.out.below (h9E)
        have hSE := hSD.below hbE
        have hrall : RecsV wE.heap.size wE ap rs := hWE.recs.recsV (cp := cp) (by have := hWE.all; rw [HR.out] at this ⊢; exact this) HLs.out.fit (fun b hb => (hWE.dK b hb).2.2)
        have hcap : R ≤ cp := by have := hWE.all; rw [HR.out] at this; exact cap_ge this
        have hAR : A.length ≤ 300 := by
          have h1 : A.length ≤ takesAll A := takesAll_ge A
          rcases hcrash with ⟨j, _, hj, e⟩ | _
          · rw [e, List.length_take]; have := HR.out; omega
          · rw [HA.out]; exact open_count _ _ _
        obtain ⟨AL, hAL⟩ : ∃ AL, A.length = AL := ⟨_, rfl⟩
        have hsl := fun (h : AL ≤ cp) W => run_first (P := Tryd.prog) 43 58 Tryd.underlying43 (by kernel_rfl) ap R cp AL h W
        have hwf : w.heap.size ≤ wE.heap.size := hwE.size
        by_cases hgood : sure ≤ AL ∧ AL ≤ R ∧ A = rs.take AL
        · obtain ⟨hg1, hg2, hg3⟩ := hgood
          have hg1' : (sure : Int) ≤ (AL : Int) := by omega
          have hg2' : (AL : Int) ≤ (R : Int) := by omega
          have hsl' := hsl (by omega)
          have htl : (rs.take AL).length = AL := by rw [List.length_take]; have := HR.out; omega
          have hsm := same_any A (rs.take AL) apE ap cpE cp wE hrv (hrall.take AL) ⟨by omega, by omega⟩
          rw [hAL, htl, decide_eq_true hg3] at hsm
          rw [hAL]
          have Hsm := Lib.hid hsm
          clear hsm hg3 hcrash htx hrv hrall hSE hWE hownE hrecE hSD hbD hsl HA hg1 hg2 htl hAL Hopn
          go_wp2_with (go_at_call 18; refine Hsm.out.mono ?_)
          rintro e wF ⟨rfl, hbF⟩
          go_wp2
          go_ret
          exact ⟨rfl, hwE.trans (hbF.mono hwf)⟩
        · have hclash : Clashes (textsOf 300 m00 rs) (chainAll 300 (pgOf (imgB (crashOf S zs)) 0 300) 300 300 m00).1 := by
            rcases hcrash with ⟨j, h1, h2, h3⟩ | h
            · refine absurd ⟨?_, ?_, ?_⟩ hgood
              · rw [← hAL, h3, List.length_take]; omega
              · rw [← hAL, h3, List.length_take]; have := HR.out; omega
              · have : AL = j := by rw [← hAL, h3, List.length_take]; omega
                rw [this]; exact h3
            · exact h
          have hi1 : (imgB S).length = 300 := HLs.out.img_len
          have hi2 : (imgB (crashOf S zs)).length = 300 := by rw [imgB_length, hfC]
          have hchains : ∀ (W : World), Below wE.heap.size wE W → Calls Tryd.prog 33 #[.pointer (some ⟨q, 0, none⟩), .slice (some ⟨W.heap.size, 0, none⟩) 1 1] (W.alloc (.cells hl.toArray 25)) (fun e w' => e = .returned (.bool true) ∧ Below W.heap.size W w') := fun W hW => by
            have hbW : Below W.heap.size W (W.alloc (.cells hl.toArray 25)) := (Below.refl _ _).alloc (Nat.le_refl _) _
            refine (chains_any (bm := W.heap.size) ((hSE.below hW).below hbW) (by rw [Hl.out, zMark_m00]; exact heap_alloc_new W _) (fun im him => ?_) (by simp) (by simp) 1).mono ?_
            · simp only [List.nil_append, List.cons_append, List.mem_cons, List.not_mem_nil, or_false] at him
              rcases him with rfl | rfl
              · rw [hi1]; omega
              · rw [hi2]; omega
            · rintro e w' ⟨b, rfl, hb, hcl⟩
              refine ⟨?_, hbW.trans (hb.mono hbW.size)⟩
              cases b with
              | true => rfl
              | false =>
                exfalso
                obtain ⟨t, ht, u, hu, hne, hd⟩ := hclash
                have e1 : imgTexts (imgB S) = textsOf 300 m00 rs := by unfold imgTexts; rw [hi1]; exact htx
                have e2 : imgTexts (imgB (crashOf S zs)) = (chainAll 300 (pgOf (imgB (crashOf S zs)) 0 300) 300 300 m00).1 := by unfold imgTexts; rw [hi2]
                refine hne (hcl rfl t ?_ u ?_ hd)
                · simp only [List.nil_append, List.cons_append, List.flatMap_cons, List.flatMap_nil, List.append_nil, List.mem_append]
                  left; rw [e1]; exact ht
                · simp only [List.nil_append, List.cons_append, List.flatMap_cons, List.flatMap_nil, List.append_nil, List.mem_append]
                  right; rw [e2]; exact hu
          have hll : hl.length = 34 := by rw [Hl.out]; rfl
          have hmo := infoMarkL
          have Hch := Lib.hid hchains; have Hll := Lib.hid hll
          rw [hAL]
          clear hchains hclash hcrash htx hSE hWE hownE hrecE hSD hbD Hopn hi1 hi2 hll
          by_cases hg1 : sure ≤ AL
          · have hg1' : (sure : Int) ≤ (AL : Int) := by omega
            by_cases hg2 : AL ≤ R
            · have hg2' : (AL : Int) ≤ (R : Int) := by omega
              have hsl' := hsl (by omega)
              have htl : (rs.take AL).length = AL := by rw [List.length_take]; have := HR.out; omega
              have hsm := same_any A (rs.take AL) apE ap cpE cp wE hrv (hrall.take AL) ⟨by omega, by omega⟩
              rw [hAL, htl, decide_eq_false (fun h => hgood ⟨hg1, hg2, h⟩)] at hsm
              have Hsm := Lib.hid hsm
              clear hsm hrv hrall hsl HA hg1 hg2 htl hAL hgood
              go_wp2_with (go_at_call 18; refine Hsm.out.mono ?_)
              rintro e wF ⟨rfl, hbF⟩
              have Hc := Lib.hid (Hch.out wF hbF)
              clear Hsm Hch
              go_wp2_with (first
                | (refine wpList_buildZ 25 rfl hl.toArray hbm.out rfl ?_)
                | (refine wpList_row1g 117 25 _ rfl hl 34 zMark 48 Tryd.underlying117 hmo (by omega) (by omega) zMark_len Hll.out rfl rfl ?_)
                | (go_at_call 33; refine Hc.out.mono ?_))
              rintro e wG ⟨rfl, hbG⟩
              go_wp2
              go_ret
              exact ⟨rfl, (hwE.trans (hbF.mono hwf)).trans (hbG.mono (Nat.le_trans hwf hbF.size))⟩
            · have hg2' : ¬ (AL : Int) ≤ (R : Int) := by omega
              have Hc := Lib.hid (Hch.out wE (Below.refl _ _))
              clear Hch hrv hrall hsl HA hg1 hg2 hAL hgood
              go_wp2_with (first
                | (refine wpList_buildZ 25 rfl hl.toArray hbm.out rfl ?_)
                | (refine wpList_row1g 117 25 _ rfl hl 34 zMark 48 Tryd.underlying117 hmo (by omega) (by omega) zMark_len Hll.out rfl rfl ?_)
                | (go_at_call 33; refine Hc.out.mono ?_))
              rintro e wG ⟨rfl, hbG⟩
              go_wp2
              go_ret
              exact ⟨rfl, hwE.trans (hbG.mono hwf)⟩
          · have hg1' : ¬ (sure : Int) ≤ (AL : Int) := by omega
            have Hc := Lib.hid (Hch.out wE (Below.refl _ _))
            clear Hch hrv hrall hsl HA hg1 hAL hgood
            go_wp2_with (first
              | (refine wpList_buildZ 25 rfl hl.toArray hbm.out rfl ?_)
              | (refine wpList_row1g 117 25 _ rfl hl 34 zMark 48 Tryd.underlying117 hmo (by omega) (by omega) zMark_len Hll.out rfl rfl ?_)
              | (go_at_call 33; refine Hc.out.mono ?_))
            rintro e wG ⟨rfl, hbG⟩
            go_wp2
            go_ret
            exact ⟨rfl, hwE.trans (hbG.mono hwf)⟩
end Go.Proofs.YtegdlpllljccgaaDoor
