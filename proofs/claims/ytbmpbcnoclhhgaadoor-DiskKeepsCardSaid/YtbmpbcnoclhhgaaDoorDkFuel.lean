/-
  'DiskFuel': its walk.
-/
import Derived.Test.YtbmpbcnoclhhgaaDoorDkNone
namespace Go.Proofs.YtbmpbcnoclhhgaaDoor
open Go.RowKit Sh Go.Extern.Stop Go.Stop Go.Extern

theorem tmod_in (a d : Int) (hd : 0 < d) : -d < a.tmod d ∧ a.tmod d < d := ⟨Int.lt_tmod_of_pos a hd, Int.tmod_lt_of_pos a hd⟩
theorem posmod (n d : Int) (hd : 0 < d) : ∃ m : Nat, (n.tmod d + d).tmod d = (m : Int) ∧ (m : Int) < d := by
  have h1 := tmod_in n d hd
  have h2 := tmod_in (n.tmod d + d) d hd
  have h3 := Int.tmod_nonneg d (show 0 ≤ n.tmod d + d by omega)
  exact ⟨((n.tmod d + d).tmod d).toNat, by omega, by omega⟩
theorem natmod (k : Nat) (d : Int) (hd : 0 < d) : ∃ m : Nat, (k : Int).tmod d = (m : Int) ∧ (m : Int) < d ∧ (k : Int) % d = (m : Int) := by
  have e : (k : Int).tmod d = (k : Int) % d := Int.tmod_eq_emod_of_nonneg (by omega)
  have h1 := Int.emod_nonneg (k : Int) (show d ≠ 0 by omega)
  have h2 := Int.emod_lt_of_pos (k : Int) hd
  exact ⟨((k : Int) % d).toNat, by rw [e]; omega, by omega, by omega⟩

/-- What a disk of four sectors with fuel f is behind i tries. -/
structure Inv (S : St) (f i : Nat) : Prop where
  four : S.firm.length = 4
  few : S.ats.length ≤ i
  on : i ≤ f → S.fuel = (f : Int) - i ∧ S.off = false
  gone : f < i → S.off = true
  good : Good S
  byt : Byt S
theorem inv_new (f : Nat) (hf : (f : Int) ≤ 40) : Inv (fuelOf (newS 4) f) f 0 :=
  ⟨by simp [fuelOf, newS], by simp [fuelOf, newS], fun _ => ⟨by simp [fuelOf], rfl⟩, fun h => by omega, good_fuel (good_new 4 (by omega) (by omega)) _ (by omega), byt_fuel (byt_new 4) _⟩
theorem Inv.read {S : St} {f i : Nat} (h : Inv S f i) (q : Nat) (hq : (q : Int) < 4) : (readOf S q).2 = if i ≤ f then 0 else 10 := by
  unfold readOf readN reachN
  rw [S.newest_length, h.four]
  by_cases hi : i ≤ f
  · rw [(h.on hi).2]
    have hq2 : ¬ ((q : Int) < 0 ∨ ((4 : Nat) : Int) ≤ q) := by omega
    simp only [Bool.false_eq_true, if_false, if_neg hq2, if_true, if_pos hi]
  · rw [h.gone (by omega)]
    simp [hi]
theorem Inv.write {S : St} {f i : Nat} (h : Inv S f i) (q : Nat) (hq : (q : Int) < 4) {p : List Value} (hp : BP p) : Inv (writeOf S q p).1 f (i + 1) ∧ (writeOf S q p).2 = if i < f then 0 else 10 := by
  have hno : noWrite S.firm S.fuel S.off q = if i < f then none else some (S.fuel, true, 10) := by
    unfold noWrite
    rw [h.four]
    by_cases hi : i ≤ f
    · obtain ⟨h1, h2⟩ := h.on hi
      have hq2 : ¬ ((q : Int) < 0 ∨ ((4 : Nat) : Int) ≤ q) := by omega
      rw [h2, if_neg (by simp), if_neg hq2]
      by_cases hf : i < f
      · rw [if_neg (by omega), if_pos hf]
      · rw [if_pos (by omega), if_neg hf]
    · rw [h.gone (by omega), if_pos rfl, if_neg (by omega)]
  have hg := good_write h.good q p
  have hb := byt_write h.byt q hp
  have hc := write_count S q p
  have hfm := write_firm S q p
  refine ⟨⟨by rw [hfm]; exact h.four, by have := h.few; omega, fun hi => ?_, fun hi => ?_, hg, hb⟩, ?_⟩
  · obtain ⟨h1, h2⟩ := h.on (by omega)
    unfold writeOf
    rw [hno, if_pos (by omega)]
    refine ⟨?_, rfl⟩
    show (stepS S.fuel false).1 = _
    unfold stepS
    rw [if_neg (by omega), if_neg (by simp), if_pos (by omega)]
    show S.fuel - 1 = _
    omega
  · unfold writeOf
    rw [hno, if_neg (by omega)]
  · unfold writeOf
    by_cases hi : i < f
    · rw [hno, if_pos hi, if_pos hi]
    · rw [hno, if_neg hi, if_neg hi]
theorem Inv.flush {S : St} {f i : Nat} (h : Inv S f i) : Inv (flushOf S).1 f (i + 1) ∧ (flushOf S).2 = if i < f then 0 else 10 := by
  have hno : (S.off = true ∨ S.fuel = 0) ↔ ¬ i < f := by
    by_cases hi : i ≤ f
    · obtain ⟨h1, h2⟩ := h.on hi
      rw [h2, h1]; simp; omega
    · rw [h.gone (by omega)]; simp; omega
  have hg := good_flush h.good
  have hb := byt_flush h.byt
  have hc := flush_count S
  have hfm := flush_firm S
  refine ⟨⟨by rw [hfm]; exact h.four, by have := h.few; omega, fun hi => ?_, fun hi => ?_, hg, hb⟩, ?_⟩
  · obtain ⟨h1, h2⟩ := h.on (by omega)
    unfold flushOf
    rw [if_neg (by rw [hno]; omega)]
    refine ⟨?_, rfl⟩
    show (stepS S.fuel false).1 = _
    unfold stepS
    rw [if_neg (by omega), if_neg (by simp), if_pos (by omega)]
    show S.fuel - 1 = _
    omega
  · unfold flushOf
    rw [if_pos (by rw [hno]; omega)]
  · unfold flushOf
    by_cases hi : i < f
    · rw [if_neg (by rw [hno]; omega), if_pos hi]
    · rw [if_pos (by rw [hno]; exact hi), if_neg hi]

theorem ErrV.ten {w : World} {v : Value} (h : ErrV w 10 v) : ∃ t x, v = .iface t x ∧ (∀ W : World, (binOp .eql 26 v .nilIface).run Tryd.prog W = .ok (.bool false) W) ∧ (∀ W : World, (binOp .neq 26 v .nilIface).run Tryd.prog W = .ok (.bool true) W) ∧ ∀ o1 o2 : Operand, eqGuard .eql 26 o1 o2 v .nilIface = pure () := by
  rcases h with ⟨h0, _⟩ | ⟨_, ss, hC⟩
  · cases h0
  · obtain ⟨t, x, rfl⟩ := hC.iface
    exact ⟨t, x, rfl, hC.notNil, fun W => run_neq_held_nil W 26 t x Tryd.methodsError, hC.guard⟩
theorem zeros_eq {p : List Value} (h : IsPage p) : Hid (zeros64.size = p.toArray.size) := by
  have : p.toArray.size = 64 := by rw [List.size_toArray]; exact h.1
  rw [this]; exact (rfl : zeros64.size = 64)

set_option maxRecDepth 100000 in
set_option maxHeartbeats 4000000 in
theorem diskFuel_any (a b : Int) (w : World) (hL : Laid w) : Calls Tryd.prog 6 #[.int .i64 a, .int .i64 b] w fun e w' => e = .returned (.bool true) ∧ Below w.heap.size w w' := by
  have hpos := hL.pos
  have ta := tmod_in a 40 (by omega)
  have tb := tmod_in b 60 (by omega)
  obtain ⟨f, hf, hf1⟩ := posmod a 40 (by omega)
  obtain ⟨t, ht, ht1⟩ := posmod b 60 (by omega)
  have a2 : IntKind.i64.wrap (a.tmod 40) = a.tmod 40 := IntWalk.i64_in _ (by omega)
  have a3 : IntKind.i64.wrap (a.tmod 40 + 40) = a.tmod 40 + 40 := IntWalk.i64_in _ (by omega)
  have a4 : IntKind.i64.wrap (f : Int) = (f : Int) := IntWalk.i64_in _ (by omega)
  have b2 : IntKind.i64.wrap (b.tmod 60) = b.tmod 60 := IntWalk.i64_in _ (by omega)
  have b3 : IntKind.i64.wrap (b.tmod 60 + 60) = b.tmod 60 + 60 := IntWalk.i64_in _ (by omega)
  have b4 : IntKind.i64.wrap (t : Int) = (t : Int) := IntWalk.i64_in _ (by omega)
  obtain ⟨p1, H1⟩ : ∃ p, Hid (p = page1 1) := ⟨_, rfl⟩
  have bp1 : BP p1 := by rw [H1.out]; exact page1_bytes 1
  have HB1 : Hid (Tryd.prog.built 42 [(0, .int .u8 1)] = some p1.toArray) := by rw [H1.out]; exact built_one 1
  clear H1
  go_enter Tryd.func6, Tryd.ntmps6
  go_wp2_with (first
    | (go_at_call 9; refine (stands_any _).mono ?_; rintro e w1 ⟨rfl, hb1⟩)
    | (go_at_call 10; refine (pd_new 4 (by omega) (by omega) _).mono ?_))
  rintro e w2 ⟨v, rfl, hN⟩
  obtain ⟨g, F, rfl, hP2, hF2, hb2⟩ := hN.next hb1.size hb1
  have s1 := hb1.size
  have s2 := hb2.size
  have hF2' : ∀ k, F k → w.heap.size ≤ k := fun k hk => by have := hF2 k hk; omega
  have hfu := pd_fuel hP2 f
  clear hN hb1 hF2
  go_wp2_with (go_at_call 22; refine hfu.mono ?_; rintro e w3 ⟨rfl, hP3, ho3⟩)
  have hb3 := hb2.trans (ho3.base s2 hF2')
  clear hfu hP2 ho3 hb2 s1 s2 ta tb a2 a3 b2 b3
  have hI0 := inv_new f (by omega)
  go_loopg [7, 29] t (fun m dn v wr => ∃ (k : Nat) (S : St) (F : Nat → Prop), m = t - k ∧ k ≤ t ∧ dn = .int .i64 (min f k : Nat) ∧ v = .int .i64 k ∧ Inv S f k ∧ PD S F g wr ∧ (∀ k, F k → w.heap.size ≤ k) ∧ Below w.heap.size w wr)
  case atStart => exact ⟨0, _, F, rfl, by omega, by simp, rfl, hI0, hP3, hF2', hb3⟩
  case round =>
    clear hP3 hb3 hF2' hI0
    obtain ⟨k, S, F, rfl, hk, rfl, rfl, hI, hP, hF, hb⟩ := hrel
    by_cases hlt : k < t
    · have hlt' : (k : Int) < (t : Int) := by omega
      obtain ⟨m4, e4, l4, _⟩ := natmod k 4 (by omega)
      obtain ⟨m3, e3, l3, _⟩ := natmod k 3 (by omega)
      have x4 : IntKind.i64.wrap (m4 : Int) = (m4 : Int) := IntWalk.i64_in _ (by omega)
      have x3 : IntKind.i64.wrap (m3 : Int) = (m3 : Int) := IntWalk.i64_in _ (by omega)
      have hwk : IntKind.i64.wrap ((k : Int) + 1) = ((k + 1 : Nat) : Int) := by rw [IntWalk.i64_in _ (by omega)]; omega
      have hrn := hI.read m4 l4
      have hrb := (byt_read hI.byt m4).page
      have hrd := pd_read hP m4
      obtain ⟨pg, hpg⟩ : ∃ pg, (readOf S m4).1 = pg := ⟨_, rfl⟩
      rw [hpg] at hrb hrd
      have hz1 := page_size hrb
      have hz2 := page_all hrb
      have hz3 := zeros_eq hrb
      have sb := hb.size
      have hfew : S.ats.length ≤ 1048576 := by have := hI.few; omega
      clear hpg
      rcases Nat.lt_trichotomy k f with hkf | hkf | hkf
      · rw [if_pos (by omega)] at hrn
        rw [hrn] at hrd
        have hoff : S.off = false := (hI.on (by omega)).2
        have h1 : (k : Int) < (f : Int) := by omega
        have h2 : (k : Int) ≤ (f : Int) := by omega
        have h2' : ¬ (f : Int) < (k : Int) := by omega
        have hmn : (min f k : Nat) = k := by omega
        rw [hmn]
        by_cases hm : m3 = 2
        · have hm3 : (m3 : Int) = 2 := by omega
          obtain ⟨hI', hnum⟩ := hI.flush
          rw [if_pos (by omega)] at hnum
          go_wp2_with (go_at_call 17; refine hrd.mono ?_)
          rintro e w2 ⟨v1, rfl, hE1, hb2⟩
          obtain rfl := ErrV.zero hE1
          have h3 := hb2.alloc hb2.size (.cells pg.toArray 42)
          have hP3 := hP.below h3
          have hb3 := hb.trans (h3.mono sb)
          have hof := pd_off hP3
          rw [hoff] at hof
          obtain ⟨w3, hw3⟩ : ∃ w3, Hid (w2.alloc (.cells pg.toArray 42) = w3) := ⟨_, rfl⟩
          rw [hw3.out] at hP3 hb3 hof
          have s3 := hb3.size
          have hdo := pd_flush hP3 hI.good hfew
          rw [hnum] at hdo
          clear hE1 hrd hb2 h3
          have tokA : True := trivial
          have tokS : True := trivial
          go_wp2_with (first
            | (have _t := tokA; refine wpList_alloc_arr rfl 42 rfl _ alloc64 ?_; clear tokA)
            | (have _t := tokS; refine wpList_store_new rfl 42 _ _ rfl w2.heap.size rfl pg.toArray rfl rfl 42 _ hz1.out hz3.out hz2.out ?_; rw [hw3.out]; clear tokS)
            | (go_at_call 14; refine hof.mono ?_))
          rintro e w' ⟨rfl, rfl⟩
          go_wp2_with (go_at_call 20; refine hdo.mono ?_)
          rintro e w4 ⟨v2, rfl, hT⟩
          obtain ⟨F4, hE2, hP4, hF4, hb4⟩ := hT.next s3 hF hb3
          obtain rfl := ErrV.zero hE2
          clear hT hE2 hdo hof
          go_wp2
          go_roundg (t - (k + 1))
          case measure => omega
          case rel => exact ⟨k + 1, _, F4, rfl, by omega, by (rw [show (min f (k + 1) : Nat) = k + 1 by omega]; first | rfl | simp), by first | rfl | simp, hI', hP4, hF4, hb4⟩
        · have hm3' : ¬ (m3 : Int) = 2 := by omega
          have hm3 : ((m3 : Int) == 2) = false := by simpa using hm3'
          obtain ⟨hI', hnum⟩ := hI.write m4 l4 bp1
          rw [if_pos (by omega)] at hnum
          go_wp2_with (go_at_call 17; refine hrd.mono ?_)
          rintro e w2 ⟨v1, rfl, hE1, hb2⟩
          obtain rfl := ErrV.zero hE1
          have h3 := hb2.alloc hb2.size (.cells pg.toArray 42)
          have hP3 := hP.below h3
          have hb3 := hb.trans (h3.mono sb)
          have hof := pd_off hP3
          rw [hoff] at hof
          obtain ⟨w3, hw3⟩ : ∃ w3, Hid (w2.alloc (.cells pg.toArray 42) = w3) := ⟨_, rfl⟩
          rw [hw3.out] at hP3 hb3 hof
          have s3 := hb3.size
          have hdo := pd_write hP3 hI.good hfew m4 p1 bp1.page
          rw [hnum] at hdo
          clear hE1 hrd hb2 h3
          have tokA : True := trivial
          have tokS : True := trivial
          go_wp2_with (first
            | (have _t := tokA; refine wpList_alloc_arr rfl 42 rfl _ alloc64 ?_; clear tokA)
            | (have _t := tokS; refine wpList_store_new rfl 42 _ _ rfl w2.heap.size rfl pg.toArray rfl rfl 42 _ hz1.out hz3.out hz2.out ?_; rw [hw3.out]; clear tokS)
            | (go_at_call 14; refine hof.mono ?_))
          rintro e w' ⟨rfl, rfl⟩
          go_wp2_with (first
            | (refine wpList_build1 (.const (.int .u8 1)) rfl _ rfl _ HB1.out (by rfl) ?_)
            | (go_at_call 19; refine hdo.mono ?_))
          rintro e w4 ⟨v2, rfl, hT⟩
          obtain ⟨F4, hE2, hP4, hF4, hb4⟩ := hT.next s3 hF hb3
          obtain rfl := ErrV.zero hE2
          clear hT hE2 hdo hof
          go_wp2
          go_roundg (t - (k + 1))
          case measure => omega
          case rel => exact ⟨k + 1, _, F4, rfl, by omega, by (rw [show (min f (k + 1) : Nat) = k + 1 by omega]; first | rfl | simp), by first | rfl | simp, hI', hP4, hF4, hb4⟩
      · rw [if_pos (by omega)] at hrn
        rw [hrn] at hrd
        have hoff : S.off = false := (hI.on (by omega)).2
        have h2 : (k : Int) ≤ (f : Int) := by omega
        have h2' : ¬ (f : Int) < (k : Int) := by omega
        have hmn' : (min f (k + 1) : Nat) = min f k := by omega
        by_cases hm : m3 = 2
        · have hm3 : (m3 : Int) = 2 := by omega
          obtain ⟨hI', hnum⟩ := hI.flush
          rw [if_neg (by omega)] at hnum
          clear hkf
          go_wp2_with (go_at_call 17; refine hrd.mono ?_)
          rintro e w2 ⟨v1, rfl, hE1, hb2⟩
          obtain rfl := ErrV.zero hE1
          have h3 := hb2.alloc hb2.size (.cells pg.toArray 42)
          have hP3 := hP.below h3
          have hb3 := hb.trans (h3.mono sb)
          have hof := pd_off hP3
          rw [hoff] at hof
          obtain ⟨w3, hw3⟩ : ∃ w3, Hid (w2.alloc (.cells pg.toArray 42) = w3) := ⟨_, rfl⟩
          rw [hw3.out] at hP3 hb3 hof
          have s3 := hb3.size
          have hdo := pd_flush hP3 hI.good hfew
          rw [hnum] at hdo
          clear hE1 hrd hb2 h3
          have tokA : True := trivial
          have tokS : True := trivial
          go_wp2_with (first
            | (have _t := tokA; refine wpList_alloc_arr rfl 42 rfl _ alloc64 ?_; clear tokA)
            | (have _t := tokS; refine wpList_store_new rfl 42 _ _ rfl w2.heap.size rfl pg.toArray rfl rfl 42 _ hz1.out hz3.out hz2.out ?_; rw [hw3.out]; clear tokS)
            | (go_at_call 14; refine hof.mono ?_))
          rintro e w' ⟨rfl, rfl⟩
          go_wp2_with (go_at_call 20; refine hdo.mono ?_)
          rintro e w4 ⟨v2, rfl, hT⟩
          obtain ⟨F4, hE2, hP4, hF4, hb4⟩ := hT.next s3 hF hb3
          obtain ⟨tv, xv, rfl, hnn, hnn2, hng⟩ := ErrV.ten hE2
          clear hT hdo hof
          go_wp2_with (go_at_call 12; refine (num_any 10 _ _ (hL.below hpos hb4) hE2).mono ?_; rintro e w5 ⟨rfl, hb5⟩)
          go_roundg (t - (k + 1))
          case measure => omega
          case rel => exact ⟨k + 1, _, F4, rfl, by omega, by rw [hmn'], by first | rfl | simp, hI', hP4.below hb5, hF4, hb4.trans (hb5.mono hb4.size)⟩
        · have hm3' : ¬ (m3 : Int) = 2 := by omega
          have hm3 : ((m3 : Int) == 2) = false := by simpa using hm3'
          obtain ⟨hI', hnum⟩ := hI.write m4 l4 bp1
          rw [if_neg (by omega)] at hnum
          clear hkf
          go_wp2_with (go_at_call 17; refine hrd.mono ?_)
          rintro e w2 ⟨v1, rfl, hE1, hb2⟩
          obtain rfl := ErrV.zero hE1
          have h3 := hb2.alloc hb2.size (.cells pg.toArray 42)
          have hP3 := hP.below h3
          have hb3 := hb.trans (h3.mono sb)
          have hof := pd_off hP3
          rw [hoff] at hof
          obtain ⟨w3, hw3⟩ : ∃ w3, Hid (w2.alloc (.cells pg.toArray 42) = w3) := ⟨_, rfl⟩
          rw [hw3.out] at hP3 hb3 hof
          have s3 := hb3.size
          have hdo := pd_write hP3 hI.good hfew m4 p1 bp1.page
          rw [hnum] at hdo
          clear hE1 hrd hb2 h3
          have tokA : True := trivial
          have tokS : True := trivial
          go_wp2_with (first
            | (have _t := tokA; refine wpList_alloc_arr rfl 42 rfl _ alloc64 ?_; clear tokA)
            | (have _t := tokS; refine wpList_store_new rfl 42 _ _ rfl w2.heap.size rfl pg.toArray rfl rfl 42 _ hz1.out hz3.out hz2.out ?_; rw [hw3.out]; clear tokS)
            | (go_at_call 14; refine hof.mono ?_))
          rintro e w' ⟨rfl, rfl⟩
          go_wp2_with (first
            | (refine wpList_build1 (.const (.int .u8 1)) rfl _ rfl _ HB1.out (by rfl) ?_)
            | (go_at_call 19; refine hdo.mono ?_))
          rintro e w4 ⟨v2, rfl, hT⟩
          obtain ⟨F4, hE2, hP4, hF4, hb4⟩ := hT.next s3 hF hb3
          obtain ⟨tv, xv, rfl, hnn, hnn2, hng⟩ := ErrV.ten hE2
          clear hT hdo hof
          go_wp2_with (go_at_call 12; refine (num_any 10 _ _ (hL.below hpos hb4) hE2).mono ?_; rintro e w5 ⟨rfl, hb5⟩)
          go_roundg (t - (k + 1))
          case measure => omega
          case rel => exact ⟨k + 1, _, F4, rfl, by omega, by rw [hmn'], by first | rfl | simp, hI', hP4.below hb5, hF4, hb4.trans (hb5.mono hb4.size)⟩
      · rw [if_neg (by omega)] at hrn
        rw [hrn] at hrd
        have hoff : S.off = true := hI.gone (by omega)
        have h2 : ¬ (k : Int) ≤ (f : Int) := by omega
        have h2' : (f : Int) < (k : Int) := by omega
        have hmn' : (min f (k + 1) : Nat) = min f k := by omega
        by_cases hm : m3 = 2
        · have hm3 : (m3 : Int) = 2 := by omega
          obtain ⟨hI', hnum⟩ := hI.flush
          rw [if_neg (by omega)] at hnum
          clear hkf
          go_wp2_with (go_at_call 17; refine hrd.mono ?_)
          rintro e w2 ⟨v1, rfl, hE1, hb2⟩
          obtain ⟨tv, xv, rfl, hnn, hnn2, hng⟩ := ErrV.ten hE1
          have h3 := hb2.alloc hb2.size (.cells pg.toArray 42)
          have hP3 := hP.below h3
          have hb3 := hb.trans (h3.mono sb)
          have hof := pd_off hP3
          rw [hoff] at hof
          obtain ⟨w3, hw3⟩ : ∃ w3, Hid (w2.alloc (.cells pg.toArray 42) = w3) := ⟨_, rfl⟩
          rw [hw3.out] at hP3 hb3 hof
          have s3 := hb3.size
          have hdo := pd_flush hP3 hI.good hfew
          rw [hnum] at hdo
          clear hE1 hrd hb2 h3
          have tokA : True := trivial
          have tokS : True := trivial
          go_wp2_with (first
            | (have _t := tokA; refine wpList_alloc_arr rfl 42 rfl _ alloc64 ?_; clear tokA)
            | (have _t := tokS; refine wpList_store_new rfl 42 _ _ rfl w2.heap.size rfl pg.toArray rfl rfl 42 _ hz1.out hz3.out hz2.out ?_; rw [hw3.out]; clear tokS)
            | (go_at_call 14; refine hof.mono ?_))
          rintro e w' ⟨rfl, rfl⟩
          go_wp2_with (go_at_call 20; refine hdo.mono ?_)
          rintro e w4 ⟨v2, rfl, hT⟩
          obtain ⟨F4, hE2, hP4, hF4, hb4⟩ := hT.next s3 hF hb3
          clear hnn hnn2 hng
          obtain ⟨tv, xv, rfl, hnn, hnn2, hng⟩ := ErrV.ten hE2
          clear hT hdo hof
          go_wp2_with (go_at_call 12; refine (num_any 10 _ _ (hL.below hpos hb4) hE2).mono ?_; rintro e w5 ⟨rfl, hb5⟩)
          go_roundg (t - (k + 1))
          case measure => omega
          case rel => exact ⟨k + 1, _, F4, rfl, by omega, by rw [hmn'], by first | rfl | simp, hI', hP4.below hb5, hF4, hb4.trans (hb5.mono hb4.size)⟩
        · have hm3' : ¬ (m3 : Int) = 2 := by omega
          have hm3 : ((m3 : Int) == 2) = false := by simpa using hm3'
          obtain ⟨hI', hnum⟩ := hI.write m4 l4 bp1
          rw [if_neg (by omega)] at hnum
          clear hkf
          go_wp2_with (go_at_call 17; refine hrd.mono ?_)
          rintro e w2 ⟨v1, rfl, hE1, hb2⟩
          obtain ⟨tv, xv, rfl, hnn, hnn2, hng⟩ := ErrV.ten hE1
          have h3 := hb2.alloc hb2.size (.cells pg.toArray 42)
          have hP3 := hP.below h3
          have hb3 := hb.trans (h3.mono sb)
          have hof := pd_off hP3
          rw [hoff] at hof
          obtain ⟨w3, hw3⟩ : ∃ w3, Hid (w2.alloc (.cells pg.toArray 42) = w3) := ⟨_, rfl⟩
          rw [hw3.out] at hP3 hb3 hof
          have s3 := hb3.size
          have hdo := pd_write hP3 hI.good hfew m4 p1 bp1.page
          rw [hnum] at hdo
          clear hE1 hrd hb2 h3
          have tokA : True := trivial
          have tokS : True := trivial
          go_wp2_with (first
            | (have _t := tokA; refine wpList_alloc_arr rfl 42 rfl _ alloc64 ?_; clear tokA)
            | (have _t := tokS; refine wpList_store_new rfl 42 _ _ rfl w2.heap.size rfl pg.toArray rfl rfl 42 _ hz1.out hz3.out hz2.out ?_; rw [hw3.out]; clear tokS)
            | (go_at_call 14; refine hof.mono ?_))
          rintro e w' ⟨rfl, rfl⟩
          go_wp2_with (first
            | (refine wpList_build1 (.const (.int .u8 1)) rfl _ rfl _ HB1.out (by rfl) ?_)
            | (go_at_call 19; refine hdo.mono ?_))
          rintro e w4 ⟨v2, rfl, hT⟩
          obtain ⟨F4, hE2, hP4, hF4, hb4⟩ := hT.next s3 hF hb3
          clear hnn hnn2 hng
          obtain ⟨tv, xv, rfl, hnn, hnn2, hng⟩ := ErrV.ten hE2
          clear hT hdo hof
          go_wp2_with (go_at_call 12; refine (num_any 10 _ _ (hL.below hpos hb4) hE2).mono ?_; rintro e w5 ⟨rfl, hb5⟩)
          go_roundg (t - (k + 1))
          case measure => omega
          case rel => exact ⟨k + 1, _, F4, rfl, by omega, by rw [hmn'], by first | rfl | simp, hI', hP4.below hb5, hF4, hb4.trans (hb5.mono hb4.size)⟩
    · obtain rfl : k = t := by omega
      have hge : ¬ ((k : Int) < (k : Int)) := by omega
      by_cases hfk : (f : Int) < (k : Int)
      · have h2 : ¬ (k : Int) < (f : Int) := by omega
        have h3 : min (f : Int) (k : Int) = (f : Int) := by omega
        rw [show (min f k : Nat) = f by omega]
        go_wp2
        all_goals (go_ret; exact ⟨by simp, hb⟩)
      · by_cases hfe : (k : Int) < (f : Int)
        · have h3 : min (f : Int) (k : Int) = (k : Int) := by omega
          rw [show (min f k : Nat) = k by omega]
          go_wp2
          all_goals (go_ret; exact ⟨by simp, hb⟩)
        · obtain rfl : k = f := by omega
          have h3 : min (k : Int) (k : Int) = (k : Int) := by omega
          rw [show (min k k : Nat) = k by omega]
          go_wp2
          all_goals (go_ret; exact ⟨by simp, hb⟩)
end Go.Proofs.YtbmpbcnoclhhgaaDoor
