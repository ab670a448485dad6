/-
  Package pages: mount, on a disk that is on.
-/
import Derived.Test.YtjkkbceddbkejaaGreatDoorBkCommit
import Derived.Test.YtjkkbceddbkejaaGreatDoorBkLatest
set_option linter.unusedSimpArgs false
set_option linter.unusedVariables false
namespace Go.Proofs.YtjkkbceddbkejaaGreatDoor
open Go.RowKit Sh Go.Maps Go.Extern.Stop Go.Stop Go.Extern

/-- A book that was just made: what the records say is learned. -/
def learnAll (k : List Chg) (rs : List (List Chg)) : List Chg := rs.foldl learnM k
theorem learnAll_take {k : List Chg} {rs : List (List Chg)} {i : Nat} {l : List Chg} (hl : rs[i]? = some l) : learnAll k (rs.take (i + 1)) = learnM (learnAll k (rs.take i)) l := by
  rw [List.take_add_one, hl]
  simp [learnAll, List.foldl_append]
theorem rising_all : ∀ {rs : List (List Chg)} {k : List Chg}, Rising k → Rising (learnAll k rs)
  | [], _, h => h
  | _ :: rs, _, h => rising_all (rs := rs) (rising_learn h)
theorem within_all {D : Nat} : ∀ {rs : List (List Chg)} {k : List Chg}, Within D k → (∀ l ∈ rs, Within D l) → Within D (learnAll k rs)
  | [], _, h, _ => h
  | l :: rs, _, h, hr => within_all (rs := rs) (within_learn h (hr l (by simp))) (fun x hx => hr x (by simp [hx]))
def newBk (S : St) (n G : Nat) (m : Mk) (used : Nat) (rs : List (List Chg)) : Bk := ⟨S, n, m, used, G, learnAll [] rs, [], false⟩
theorem newBk_ok {S : St} {n G used : Nat} {m : Mk} {rs : List (List Chg)} (hG : Good S) (hB : Byt S) (hr : RingOk 2 n m used) (hl : m.last.length = 32) (hroom : 3 + n ≤ S.firm.length) (hg : G < 18446744073709551616) (hp : S.ats.length ≤ 20000)
    (hw : ∀ l ∈ rs, Within (min (S.firm.length - 2 - n) 2048) l) : (newBk S n G m used rs).Ok :=
  ⟨hG, hB, hr, hl, hroom, hg, hp, rising_all rising_nil, within_all (within_nil _) hw, rising_nil, within_nil _, by simp [newBk]⟩
theorem built_book (gd gr : Nat) (n p G bn bt : Nat) : Tryz.prog.built 107 [(0, .pointer (some ⟨gd, 0, none⟩)), (1, .pointer (some ⟨gr, 0, none⟩)), (2, .int .i64 (n : Nat)), (3, .int .i64 (p : Nat)), (4, .int .u64 (G : Nat)), (5, .map (some bn)), (6, .map (some bt))] =
    some #[.pointer (some ⟨gd, 0, none⟩), .pointer (some ⟨gr, 0, none⟩), .int .i64 (n : Nat), .int .i64 (p : Nat), .int .u64 (G : Nat), .map (some bn), .map (some bt), .bool false] := by kernel_rfl
section
variable {S : St} {F : Nat → Prop} {gd : Nat} {w : World}
def MountP (b0 : Bk) (gd : Nat) (F : Nat → Prop) (w : World) (e : Ending) (w' : World) : Prop :=
  ∃ v g Fd' gr bn bt, e = .returned (.tuple #[.pointer (some ⟨g, 0, none⟩), v]) ∧ ErrV w' (bringOf b0).2 v ∧ BkIn (bringOf b0).1 Fd' gd gr bn bt g w' ∧ Only F w w' ∧ (∀ k, BFoot Fd' gr bn bt g k → F k ∨ w.heap.size ≤ k)
set_option maxRecDepth 100000 in
set_option maxHeartbeats 16000000 in
theorem mount_on (hD : PD S F gd w) (hG : Good S) (hB : Byt S) (ho : S.off = false) (hp : S.ats.length ≤ 10000) (n : Nat) (hn0 : 96 ≤ n) (hn1 : n ≤ 4096) (hroom : 3 + n ≤ S.firm.length) {G : Nat} {m : Mk} (hla : latestB (imgB S) = (G, m)) (hpl : m.place < n)
    {rs : List (List Chg)} {m2 : Mk} {free used : Nat} (hop : openAll n (pgOf (imgB S) 2 n) n n m = (rs, m2, free)) (hu : n - used = free) (hu2 : used ≤ n) (hw : ∀ l ∈ rs, Within (min (S.firm.length - 2 - n) 2048) l) (hR1 : rs.length ≤ 100000) :
    Calls Tryz.prog 46 #[.pointer (some ⟨gd, 0, none⟩), .int .i64 n] w (MountP (newBk S n G m2 used rs) gd F w) := by
  have hle := hG.le
  have i0 := imgB_get hB (show 0 < S.firm.length by omega)
  have i1 := imgB_get hB (show 1 < S.firm.length by omega)
  have hz0 : (0 : Nat) < 18446744073709551616 ∧ (0 : Nat) < 18446744073709551616 ∧ (0 : Nat) < 65536 ∧ (List.replicate 32 (0 : UInt8)).length = 32 := by simp
  have hlo := later_ok i1.2 (later_ok i0.2 hz0 (r := (0, ⟨0, 0, List.replicate 32 0⟩)))
  have hlo' : (latestB (imgB S)).1 < 18446744073709551616 ∧ (latestB (imgB S)).2.num < 18446744073709551616 ∧ (latestB (imgB S)).2.place < 65536 ∧ (latestB (imgB S)).2.last.length = 32 := hlo
  rw [hla] at hlo'
  obtain ⟨hG64, hnum, hp16, hlast⟩ := hlo'
  have hs := (pd_size hD).mono (R' := fun e w' => e = .returned (.int .i64 (S.firm.length : Nat)) ∧ w = w') (fun _ _ ⟨a1, a2⟩ => ⟨a1, a2.symm⟩)
  have hlt := latest_on hD hB ho (by omega)
  unfold LatestP at hlt
  rw [hla] at hlt
  obtain ⟨D, hDl⟩ : ∃ D, S.firm.length = D := ⟨_, rfl⟩
  have HDl := Lib.hid hDl
  rw [hDl] at hs hle
  rw [hDl] at hroom hw
  obtain ⟨mv, Hmv⟩ : ∃ mv : List Value, Hid (mv = markCells m) := ⟨_, rfl⟩
  have hlt' : Calls Tryz.prog 85 #[.pointer (some ⟨gd, 0, none⟩)] w fun e w' => ∃ v, e = .returned (.tuple #[.int .u64 (G : Nat), .agg mv.toArray, v]) ∧ ErrV w' 0 v ∧ Below w.heap.size w w' := by rw [Hmv.out]; exact hlt
  have Hlt := Lib.hid hlt'
  have Hs := Lib.hid hs
  obtain ⟨zm, Hzm⟩ : ∃ zm : Array Value, Hid (zm = zMark.toArray) := ⟨_, rfl⟩
  have halm : ∀ w : World, (Instr.alloc 156 true (.tuple #[])).run Tryz.prog w = .ok (.pointer (some ⟨w.heap.size, 0, none⟩)) (w.alloc (.cells zm 156)) := by rw [Hzm.out]; exact allocMark
  have hmi : Hid ((Tryz.prog.info? 156).map (·.size) = some mv.toArray.size) := by rw [Hmv.out]; exact markInfo hlast
  have hmz : Hid (zm.size = mv.toArray.size) := by rw [Hmv.out, Hzm.out]; exact markSize hlast (List.length_replicate)
  have hm1 : Hid (mv.toArray.all (·.oneCell') = true) := by rw [Hmv.out]; exact markOne m
  have Hop := Lib.hid hop
  have Hla := Lib.hid hla
  have k96 : ¬ ((n : Int) < 96) := by omega
  have kD : ¬ ((D : Int) < 2 + (n : Int) + 1) := by omega
  have HG := Lib.hid hG; have HB := Lib.hid hB; have Ho := Lib.hid ho; have Hw := Lib.hid hw
  clear hlt hlt' hs hop hla hlo i0 i1 hz0 hG hB ho hDl hw
  go_enter Tryz.func46, Tryz.ntmps46
  go_upto_region 3 with (first
    | (go_at_call 84; refine Hs.out.mono ?_; rintro e w' ⟨rfl, rfl⟩))
  go_wp2_with (first
    | (go_at_call 85; refine Hlt.out.mono ?_))
  rintro e w1 ⟨ev, rfl, hE1, hb1⟩
  obtain rfl := ErrV.zero hE1
  clear hE1 Hlt
  have hD1 := hD.below hb1
  clear hD
  go_upto_region 4 with (first
    | (refine wpList_alloc_arr rfl 156 rfl _ halm ?_)
    | (refine wpList_store_new rfl 156 _ _ rfl w1.heap.size rfl mv.toArray rfl rfl 156 _ hmi.out hmz.out hm1.out ?_))
  have hb2 : Below w1.heap.size w1 (w1.alloc (.cells mv.toArray 156)) := (Below.refl _ _).alloc (Nat.le_refl _) _
  have hr2 : (w1.alloc (.cells mv.toArray 156)).heap[w1.heap.size]? = some (.cells mv.toArray 156 (0, 0)) := heap_alloc_new w1 _
  have hD2 := hD1.below hb2
  have hB2 := hb1.trans (hb2.mono hb1.size)
  generalize w1.alloc (.cells mv.toArray 156) = w2 at hb2 hr2 hD2 hB2 ⊢
  obtain ⟨u, hue⟩ : ∃ u, w1.heap.size = u := ⟨_, rfl⟩
  rw [hue] at hr2 ⊢
  clear hb2 hD1 hue hmz hm1 hb1
  have c0 : w2.cell? ⟨u, 0, none⟩ = some (.int .i64 (m.place : Nat)) := by rw [cell_of_row w2 u 0 _ _ _ hr2, Hmv.out]; rfl
  have kpl : ¬ ((n : Int) ≤ m.place) := by omega
  have hopv := openv_any hD2 HG.out HB.out Ho.out (first := 2) (n := n) (m := m) (by rw [HDl.out]; omega) hn0 hn1 hpl hnum hlast Hop.out hu hu2
  have k2 : ((2 : Nat) : Int) = 2 := rfl
  rw [k2, ← Hmv.out] at hopv
  have Hopv := Lib.hid hopv
  clear hopv k2
  go_wp2_with (first
    | (refine wpList_load_row rfl 156 _ rfl u rfl 156 mv.toArray (0, 0) _ hr2 Tryz.underlying156 rfl hmi.out ?_)
    | (go_at_call 86; refine Hopv.out.mono ?_))
  rintro e w4 ⟨gr, ap, cp, rfl, hgr, hring, hrok, hrv, hb4⟩
  have hD4 := hD2.below hb4
  have hB4 := hB2.trans (hb4.mono hB2.size)
  have s4 := hB4.size
  have hgrl := hring.lt
  have hgrF : ¬ F gr := fun h => by have := hD2.lt h; omega
  clear Hopv hD2 c0 hb4 hr2
  have Hs4 := Lib.hid ((pd_size hD4).mono (R' := fun e w' => e = .returned (.int .i64 (D : Nat)) ∧ w4 = w') (fun _ _ ⟨a1, a2⟩ => ⟨by rw [a1, HDl.out], a2.symm⟩))
  obtain ⟨P, HP⟩ : ∃ P : Nat, Hid (P = min (D - 2 - n) 2048) := ⟨_, rfl⟩
  have wD : IntKind.i64.wrap ((D : Int) - 2) = (D : Int) - 2 := IntWalk.i64_in _ (by omega)
  have wD2 : IntKind.i64.wrap ((D : Int) - 2 - n) = (D : Int) - 2 - n := IntWalk.i64_in _ (by omega)
  have hmin : min ((D : Int) - 2 - n) 2048 = (P : Nat) := by rw [HP.out]; omega
  have hmm := @run_makeMap Tryz.prog
  go_upto_region 12 with (first
    | (go_at_call 84; refine Hs4.out.mono ?_; rintro e w' ⟨rfl, rfl⟩))
  clear hmm hmin wD wD2 Hs4
  -- the book
  have hm1 := MapAt.made w4
  have hb5 : Below w4.heap.size w4 (w4.alloc (.map #[] 0)) := (Below.refl _ _).alloc (Nat.le_refl _) _
  have hm2 : MapAt (w4.heap.size + 1) [] ((w4.alloc (.map #[] 0)).alloc (.map #[] 0)) := by have := MapAt.made (w4.alloc (.map #[] 0)); simpa using this
  have hb6 : Below (w4.heap.size + 1) (w4.alloc (.map #[] 0)) ((w4.alloc (.map #[] 0)).alloc (.map #[] 0)) := (Below.refl _ _).alloc (by simp) _
  have hm1' := hm1.of_block (hb6.block w4.heap.size (by omega))
  have hb7 := hb5.trans (hb6.mono (Nat.le_succ _))
  have hw6 : ((w4.alloc (.map #[] 0)).alloc (.map #[] 0)).heap.size = w4.heap.size + 1 + 1 := by simp
  generalize (w4.alloc (.map #[] 0)).alloc (.map #[] 0) = w6 at hm2 hm1' hb7 hw6 ⊢
  obtain ⟨cl, Hcl⟩ : ∃ cl : Array Value, Hid (cl = (bookCells (newBk S n G m2 used []) gd gr w4.heap.size (w4.heap.size + 1)).toArray) := ⟨_, rfl⟩
  have hcl : (#[.pointer (some ⟨gd, 0, none⟩), .pointer (some ⟨gr, 0, none⟩), .int .i64 (2 + (n : Int)), .int .i64 P, .int .u64 G, .map (some w4.heap.size), .map (some (w4.heap.size + 1)), .bool false] : Array Value) = cl := by
    rw [Hcl.out]
    have e1 : ((newBk S n G m2 used []).pages : Nat) = P := by rw [HP.out]; show min (S.firm.length - 2 - n) 2048 = _; rw [HDl.out]
    simp only [bookCells, e1]
    have e2 : ((2 + (newBk S n G m2 used []).n : Nat) : Int) = 2 + (n : Int) := by show ((2 + n : Nat) : Int) = _; omega
    rw [e2]; rfl
  rw [hcl]
  have hb8 : Below w6.heap.size w6 (w6.alloc (.cells cl 107)) := (Below.refl _ _).alloc (Nat.le_refl _) _
  have hc8 : (w6.alloc (.cells cl 107)).heap[w6.heap.size]? = some (.cells cl 107 (0, 0)) := heap_alloc_new w6 _
  generalize w6.alloc (.cells cl 107) = w8 at hb8 hc8 ⊢
  obtain ⟨bn, hbn⟩ : ∃ bn, w4.heap.size = bn := ⟨_, rfl⟩
  obtain ⟨bt, hbt⟩ : ∃ bt, bn + 1 = bt := ⟨_, rfl⟩
  obtain ⟨g, hgg⟩ : ∃ g, bt + 1 = g := ⟨_, rfl⟩
  have hN := hrv.mono (Nat.le_refl w4.heap.size)
  rw [hbn] at hm1' hm2 Hcl hb7 hgrl ⊢
  rw [hbt] at hm2 Hcl ⊢
  have hge : w6.heap.size = g := by rw [hw6, hbn, hbt, hgg]
  rw [hge] at hc8 hb8
  rw [hgg]
  have l1 := hm1'.lt; have l2 := hm2.lt
  rw [hge] at l1 l2
  have hD8 : PD S F gd w8 := (hD4.below (by rw [hbn]; exact hb7)).below (by rw [hge]; exact hb8)
  have hBk : BkIn (newBk S n G m2 used []) F gd gr bn bt g w8 := by
    refine ⟨by rw [hc8, Hcl.out], hD8, ?_, ?_, ?_, ⟨by omega, by omega, by omega, by omega, by omega, by omega⟩, ?_, hgrF, ?_, ?_⟩
    · exact (hring.of_block (hb7.block gr (by omega))).of_block (hb8.block gr (by omega))
    · exact hm1'.of_block (hb8.block bn (by omega))
    · exact hm2.of_block (hb8.block bt (by omega))
    · intro h; have := hD4.lt h; omega
    · intro h; have := hD4.lt h; omega
    · intro h; have := hD4.lt h; omega
  have hbel8 : Below bn w4 w8 := hb7.trans (hb8.mono (by omega))
  have hrv8 : RecsV bn w8 ap rs := by rw [hbn] at hrv; exact hrv.below hbel8
  have s8 := hBk.lt
  have hB8 : Below w.heap.size w w8 := hB4.trans (hbel8.mono (by omega))
  have hgn : bn < g := by omega
  have hg0 : w.heap.size ≤ gr := by have := hB2.size; omega
  have hbn0 : w.heap.size ≤ bn := by omega
  clear hm1 hb5 hm2 hb6 hm1' hb7 hb8 hc8 hcl Hcl hD8 hring hbel8 hrv hN hD4 hB4 hB2 hge hgrl
  have Hbn := Lib.hid hbn; have Hbt := Lib.hid hbt
  clear hbn hbt
  obtain ⟨R, hR⟩ : ∃ R, rs.length = R := ⟨_, rfl⟩
  have HR := Lib.hid hR
  rw [hR] at hR1 ⊢
  clear hR
  have hi0 : BkIn (newBk S n G m2 used (rs.take 0)) F gd gr bn bt g w8 := hBk
  have Hrok := Lib.hid hrok
  clear hBk hrok
  go_wp2
  go_loopg [71] R (fun gg i wr => ∃ k : Nat, k ≤ R ∧ gg = R - k ∧ i = .int .i64 k ∧ BkIn (newBk S n G m2 used (rs.take k)) F gd gr bn bt g wr ∧ Only (fun j => j = bn) w8 wr)
  case atStart => exact ⟨0, by omega, rfl, rfl, hi0, Only.refl _ _⟩
  case round =>
    clear hi0
    obtain ⟨k, hk, rfl, rfl, hBr, hor⟩ := hrel
    by_cases hlt : k < R
    · have hlt' : (k : Int) < R := by omega
      obtain ⟨l, hl⟩ : ∃ l, rs[k]? = some l := ⟨_, List.getElem?_eq_getElem (by rw [HR.out]; exact hlt)⟩
      have hlm := List.mem_of_getElem? hl
      have hlw := Hw.out l hlm
      have hl4 := hrv8.len l hlm
      have hwh := hrv8.what l hlm
      have hNr : Below bn w8 wr := hor.base (by omega) (fun j hj => by omega)
      have hrvr := hrv8.below hNr
      obtain ⟨ga, rfl, hga, hca⟩ := hrvr.lies.resolve_left (fun e => by rw [e] at hl; simp at hl)
      obtain ⟨bp, cap, hcell, hCh⟩ := hca k l hl
      have sr := hBr.lt
      have hpg : (newBk S n G m2 used (rs.take k)).pages = min (D - 2 - n) 2048 := by show min (S.firm.length - 2 - n) 2048 = _; rw [HDl.out]
      have Hall := Lib.hid (hasAll_any hBr l bp cap hwh hl4 (hCh.mono (by omega)) (fun c hc => by rw [hpg]; exact (hlw c hc).1))
      have Hl := Lib.hid hl; have HCh := Lib.hid hCh
      have Hlw := Lib.hid hlw
      obtain ⟨L, hL⟩ : ∃ L, l.length = L := ⟨_, rfl⟩
      have HL := Lib.hid hL
      rw [hL] at hcell Hall hl4
      clear hrvr hca hl hCh hL hlw hwh hNr hpg
      go_wp2_with (first
        | (go_at_call 87; refine Hall.out.mono ?_))
      rintro e w9 ⟨rfl, hb9⟩
      have hBr9 := hBr.below hb9
      have hwn : Within (min (D - 2 - n) 2048) (newBk S n G m2 used (rs.take k)).news := within_all (within_nil _) (fun x hx => Hw.out x (List.mem_of_mem_take hx))
      have hlrn := learn_in hBr9 (D := min (D - 2 - n) 2048) (by omega) hwn l bp cap Hlw.out (by rw [HL.out]; exact hl4) ((HCh.out.below (hb9.mono (by omega))).mono (by have := hb9.size; omega)) (fun bo e => by
        rcases HCh.out with h0 | ⟨b', e', hb', _⟩
        · exact .inl h0
        · right
          rw [e] at e'
          simp only [Option.some.injEq, Addr.mk.injEq, and_true] at e'
          omega)
      rw [HL.out] at hlrn
      have Hlrn := Lib.hid hlrn
      have ho9 := hor.trans (Only.of_below (F := fun _ => False) hb9) (fun _ h => h.elim)
      clear hlrn hwn hBr9 hBr hb9 hor hcell Hall
      go_wp2_with (first
        | (go_at_call 88; refine Hlrn.out.mono ?_))
      rintro e w10 ⟨rfl, hB10, ho10⟩
      have ho11 := ho9.trans ho10 (fun j hj => .inl hj)
      have hnx : BkIn (newBk S n G m2 used (rs.take (k + 1))) F gd gr bn bt g w10 := by
        have e : newBk S n G m2 used (rs.take (k + 1)) = { newBk S n G m2 used (rs.take k) with news := learnM (newBk S n G m2 used (rs.take k)).news l } := by
          unfold newBk
          rw [learnAll_take Hl.out]
        rw [e]; exact hB10
      clear hB10 ho9 ho10 Hlrn HCh
      go_wp2
      go_roundg (R - (k + 1))
      case measure => omega
      case rel => exact ⟨k + 1, by omega, rfl, by go_num, hnx, ho11⟩
    · obtain rfl : k = R := by omega
      rw [List.take_of_length_le (by rw [HR.out]; exact Nat.le_refl _)] at hBr
      have hrl := hBr.ring.last
      have hO : (newBk S n G m2 used rs).Ok := newBk_ok HG.out HB.out Hrok.out hrl (by rw [HDl.out]; exact hroom) hG64 (by omega) (by rw [HDl.out]; exact Hw.out)
      have Hbr := Lib.hid (bring_in hBr hO (by show S.ats.length ≤ 900000; omega))
      clear hBr hO
      go_wp2_with (first
        | (go_at_call 89; refine Hbr.out.mono ?_))
      rintro e w12 ⟨v, Fd', rfl, hE, hB12⟩
      have Hfin := Lib.hid (show MountP (newBk S n G m2 used rs) gd F w (.returned (.tuple #[.pointer (some ⟨g, 0, none⟩), v])) w12 from by
        refine ⟨v, g, Fd', gr, bn, bt, rfl, hE, hB12.inn, ?_, fun j hj => ?_⟩
        · refine (((Only.of_below (F := F) hB8).trans hor (fun j hj => .inr (by omega))).trans hB12.only (fun j hj => ?_))
          rcases hj with h | h | h | h | h
          · right; omega
          · right; omega
          · right; omega
          · right; have := Hbt.out; omega
          · exact .inl h
        · have := Hbt.out
          have := hB8.size
          have := hor.size
          rcases hj with h | h | h | h | h
          · right; omega
          · right; omega
          · right; omega
          · right; omega
          · exact (hB12.new j h).imp id (fun h => by omega))
      clear hE hB12 Hbr
      go_wp2
      refine bodyPost_ret (v := .tuple #[.pointer (some ⟨g, 0, none⟩), v]) (by simp [results, Tryz.results46, go_sem]) rfl ?_
      exact Hfin.out
end
end Go.Proofs.YtjkkbceddbkejaaGreatDoor
