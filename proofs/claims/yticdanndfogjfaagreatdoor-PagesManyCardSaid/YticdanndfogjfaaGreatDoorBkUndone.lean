/-
  'PagesUndone': its walk.
-/
import Derived.Test.YticdanndfogjfaaGreatDoorBkCalls
set_option linter.unusedSimpArgs false
set_option linter.unusedVariables false
namespace Go.Proofs.YticdanndfogjfaaGreatDoor
open Go.RowKit Sh Go.Maps Go.Extern.Stop Go.Stop Go.Extern

/-- A write turns the transaction alone. -/
theorem Dur.write {b : Bk} {m0 : Mk} {rs : List (List Chg)} (h : Dur b m0 rs) (i : Int) {p : List UInt8} (hp : p.length = 64) : ∃ t n, bwriteOf b i p = ({ b with txn := t }, n) ∧ Dur { b with txn := t } m0 rs := by
  unfold bwriteOf
  by_cases n0 : (pageOf b i).2 = 0
  case neg => exact ⟨b.txn, _, by rw [if_pos n0], h⟩
  obtain ⟨_, hi0, hi1⟩ := page_zero n0
  rw [if_neg (by simp [n0])]
  have hj : i.toNat < b.pages := by omega
  have hl := length_put (k := i.toNat) p h.ok.txnR
  have h60 := h.ok.txn60
  cases hg : getM b.txn i.toNat with
  | some q =>
    rw [hg] at hl
    exact ⟨_, 0, by rw [if_pos (show (some q).isSome = true from rfl)], h.txn (rising_put h.ok.txnR) (within_put h.ok.txnW hj hp) (by simp only at hl; omega)⟩
  | none =>
    rw [hg] at hl
    rw [if_neg (by simp)]
    by_cases e : (pageOf b i).1 = p
    · exact ⟨b.txn, 0, by rw [if_pos e], h⟩
    · by_cases hf : 60 ≤ b.txn.length
      · exact ⟨b.txn, 11, by rw [if_neg e, if_pos hf], h⟩
      · exact ⟨_, 0, by rw [if_neg e, if_neg hf], h.txn (rising_put h.ok.txnR) (within_put h.ok.txnW hj hp) (by simp only at hl; omega)⟩
def OwnUn (b : Bk) (gd g B : Nat) (w0 : World) (e : Ending) (w' : World) : Prop := e = .returned (.tuple #[]) ∧ OwnB b gd g B w0 w'
theorem OwnB.undo {gd g B : Nat} {w0 w : World} {b : Bk} (h : OwnB b gd g B w0 w) : Calls Tryz.prog 20 #[.pointer (some ⟨g, 0, none⟩)] w (OwnUn { b with txn := [] } gd g B w0) := by
  obtain ⟨Fd, gr, bn, bt, hB, hF⟩ := h.ex
  refine (Undo_in hB).mono ?_
  rintro e w' ⟨rfl, hB'⟩
  exact ⟨rfl, h.turn hF hB'⟩
theorem OwnD.pending {S : St} {gd B : Nat} {w0 w : World} (h : OwnD S gd B w0 w) : Calls Tryz.prog 21 #[.pointer (some ⟨gd, 0, none⟩)] w fun e w' => e = .returned (.int .i64 S.ats.length) ∧ w = w' := by
  obtain ⟨F, hP, hF⟩ := h.ex
  exact (pd_pending hP).mono fun _ _ ⟨a1, a2⟩ => ⟨a1, a2.symm⟩
attribute [local irreducible] bk1 bk0
set_option maxRecDepth 100000 in
set_option maxHeartbeats 8000000 in
theorem pagesUndone_any (cs : List CallD) (bp : Option Addr) (cap : Nat) (w : World) (hC : CallsAt w.heap.size w bp cs) (hn : cs.length ≤ 9223372036854775807) :
    Calls Tryz.prog 3 #[.slice bp cs.length cap] w fun e w' => e = .returned (.bool true) ∧ Below w.heap.size w w' := by
  have f := fr (D := 130) (n := 100) (by omega) (by omega) (by omega) (by omega)
  have hlt0 := fun W (hb : Below w.heap.size w W) => light_any cs bp cap W ((hC.below hb).imp id (fun ⟨b, o, h1, h2, h3⟩ => ⟨b, o, h1, by have := hb.size; omega, fun j c hj => ⟨(h3 j c hj).1, ⟨(h3 j c hj).2.pick.mono hb.size, (h3 j c hj).2.len, (h3 j c hj).2.lo, (h3 j c hj).2.hi⟩⟩⟩)) hn
  obtain ⟨L, hL⟩ : ∃ L, cs.length = L := ⟨_, rfl⟩
  rw [hL] at hn hlt0 ⊢
  have HL := Lib.hid hL; have Hlight := Lib.hid hlt0
  obtain ⟨zl, Hzl⟩ : ∃ zl : List Value, Hid (zl = (List.replicate 64 (0 : UInt8)).map cu8) := ⟨_, rfl⟩
  have hzV : pageV (List.replicate 64 0) = .agg zl.toArray := by rw [Hzl.out]; rfl
  have hbz : Hid (Tryz.prog.built 37 [] = some zl.toArray) := by rw [Hzl.out, ← zerosV]; exact built64
  have hzi : Hid ((Tryz.prog.info? 37).map (·.size) = some zl.toArray.size) := by rw [Hzl.out]; exact pageInfo (by simp)
  have hzz : Hid (zeros64.size = zl.toArray.size) := by rw [Hzl.out]; exact pageZ (by simp)
  have hz1 : Hid (zl.toArray.all (·.oneCell') = true) := by rw [Hzl.out]; exact bytes_one _
  have hzB : BP zl := ⟨_, by simp, Hzl.out⟩
  have hzl64 : zl.length = 64 := by rw [Hzl.out]; simp
  clear hL hlt0
  go_enter Tryz.func3, Tryz.ntmps3
  go_wp2_with (first
    | (go_at_call 15; refine (stands6_any _).mono ?_; rintro e w1 ⟨rfl, hb1⟩)
    | (go_at_call 16; refine (Hlight.out _ hb1).mono ?_))
  rintro e w2 ⟨lb, rfl, hb2⟩
  have hb02 := hb1.trans (hb2.mono hb1.size)
  clear hb1 hb2 Hlight
  cases lb with
  | false =>
    go_wp2
    go_ret
    exact ⟨rfl, hb02⟩
  | true =>
  have Hnew := Lib.hid (own_new (B := w.heap.size) (w0 := w) (w := w2) 130 (by omega) (by omega) hb02 (Nat.le_refl _))
  go_wp2_with (first
    | (go_at_call 17; refine Hnew.out.mono ?_))
  rintro e w3 ⟨gd, rfl, hD3⟩
  have Hm := Lib.hid (hD3.mountNew (D := 130) (n := 100) (by omega) (by omega) (by omega) (by omega))
  clear hD3 Hnew hb02
  go_wp2_with (first
    | (go_at_call 18; refine Hm.out.mono ?_))
  rintro e w4 ⟨g, rfl, hB4⟩
  have hT0 : OwnB { bk1 130 100 with txn := [] } gd g w.heap.size w w4 ∧ Dur { bk1 130 100 with txn := [] } (nextMk (bk0 130 100)) [] := by
    have e : ({ bk1 130 100 with txn := [] } : Bk) = bk1 130 100 := by
      have := f.txn
      cases h : bk1 130 100
      rw [h] at this
      simp only at this
      rw [this]
    rw [e]; exact ⟨hB4, f.dur⟩
  clear Hm hB4
  go_wp2
  go_loopg [31] L (fun m v wr => ∃ (k : Nat) (t : List Chg), m = L - k ∧ k ≤ L ∧ v = .int .i64 k ∧ OwnB { bk1 130 100 with txn := t } gd g w.heap.size w wr ∧ Dur { bk1 130 100 with txn := t } (nextMk (bk0 130 100)) [])
  case atStart => exact ⟨0, [], rfl, by omega, rfl, hT0.1, hT0.2⟩
  case round =>
    clear hT0
    obtain ⟨k, t, rfl, hk, rfl, hB, hD⟩ := hrel
    have hb := hB.bel
    by_cases hlt : k < L
    · have hlt' : (k : Int) < (L : Int) := by omega
      have hwk : IntKind.i64.wrap ((k : Int) + 1) = ((k + 1 : Nat) : Int) := by rw [IntWalk.i64_in _ (by omega)]; omega
      have hka : k < cs.length := by rw [HL.out]; exact hlt
      obtain ⟨bq, oq, hbe, hbq, hcs⟩ := (hC.below hb).resolve_left (by intro h0; rw [h0] at hka; simp at hka)
      first | subst hbe | (replace hbe := hbe.symm; simp only [Option.some.injEq, Addr.mk.injEq, and_true] at hbe; obtain ⟨rfl, rfl⟩ := hbe)
      obtain ⟨hrange, hok⟩ := hcs k cs[k] (List.getElem?_eq_getElem hka)
      obtain ⟨c, hc⟩ : ∃ c, cs[k] = c := ⟨_, rfl⟩
      rw [hc] at hrange hok
      have HRg := Lib.hid hrange
      have hci : Hid ((Tryz.prog.info? 35).map (·.size) = some (callCells c).length) := (infoCall : (Tryz.prog.info? 35).map (·.size) = some 4)
      have hci2 : Hid ((Tryz.prog.info? 35).map (·.size) = some (callCells c).toArray.size) := (infoCall : (Tryz.prog.info? 35).map (·.size) = some 4)
      have hcone : Hid ((callCells c).toArray.all (·.oneCell') = true) := call_one c
      have hcold : Hid (zeroCall.size = (callCells c).toArray.size) := (rfl : zeroCall.size = 4)
      have hba : Below wr.heap.size wr (wr.alloc (.cells (callCells c).toArray 35)) := (Below.refl _ wr).alloc (Nat.le_refl _) _
      have hck : (wr.alloc (.cells (callCells c).toArray 35)).heap[wr.heap.size]? = some (.cells (callCells c).toArray 35 (0, 0)) := heap_alloc_new wr _
      have hBa := hB.below hba
      clear hcs hrange hc hok hB hb
      go_upto_region 12 with (first
        | (refine wpList_load_mid rfl 35 _ rfl bq (oq + k * 4) rfl (callCells c) _ HRg.out Tryz.underlying35 rfl hci.out ?_)
        | (refine wpList_alloc_arr rfl 35 rfl _ allocCall ?_)
        | (refine wpList_store_new rfl 35 _ _ rfl wr.heap.size rfl (callCells c).toArray rfl rfl 35 _ hci2.out hcold.out hcone.out ?_))
      generalize wr.alloc (.cells (callCells c).toArray 35) = wa at hba hck hBa ⊢
      obtain ⟨bc, hbc⟩ : ∃ bc, wr.heap.size = bc := ⟨_, rfl⟩
      rw [hbc] at hck ⊢
      have ck0 : wa.cell? ⟨bc, 0, none⟩ = some (.int .i64 c.kind) := by rw [cell_of_row wa bc 0 _ _ _ hck]; rfl
      have ck1 : wa.cell? ⟨bc, 1, none⟩ = some (.int .i64 c.i) := by rw [cell_of_row wa bc 1 _ _ _ hck]; rfl
      have ck2 : wa.cell? ⟨bc, 2, none⟩ = some (cu8 c.what) := by rw [cell_of_row wa bc 2 _ _ _ hck]; rfl
      clear hck hba hbc HRg hci hci2 hcone hcold
      by_cases hk0 : c.kind = 0
      · obtain ⟨t2, n2, hw2, hd2⟩ := hD.write c.i (pA_len c.what)
        obtain ⟨pv, Hpv⟩ : ∃ pv : List Value, Hid (pv = page1 c.what) := ⟨_, rfl⟩
        have hBp : Hid (Tryz.prog.built 37 [(0, cu8 c.what)] = some pv.toArray) := by rw [Hpv.out]; exact built_one c.what
        have hw := hBa.write hD.ok c.i (pA c.what) (pA_len c.what)
        rw [hw2, pageV_pA, ← Hpv.out] at hw
        have Hw := Lib.hid hw
        have Hd2 := Lib.hid hd2
        obtain ⟨cv, hcv⟩ : ∃ cv, cu8 c.what = cv := ⟨_, rfl⟩
        rw [hcv] at ck2 hBp
        rw [hk0] at ck0
        obtain ⟨ci, hci⟩ : ∃ ci, c.i = ci := ⟨_, rfl⟩
        rw [hci] at ck1 Hw
        clear hw hw2 hd2 hBa hD hk0 hcv hci
        go_wp2_with (first
          | (refine wpList_build1 _ rfl cv rfl _ hBp.out (by rfl) ?_)
          | (go_at_call 19; refine Hw.out.mono ?_))
        rintro e wb ⟨v, rfl, _, hBb⟩
        have HBb := Lib.hid hBb
        clear hBb Hw ck0 ck1 ck2
        go_wp2
        go_roundg (L - (k + 1))
        case measure => omega
        case rel => exact ⟨k + 1, t2, rfl, by omega, by go_num, HBb.out, Hd2.out⟩
      · have hk1 : (c.kind == 0) = false := by simpa using hk0
        have HB := Lib.hid hBa; have HD := Lib.hid hD
        clear hBa hD ck1 ck2
        go_wp2
        go_roundg (L - (k + 1))
        case measure => omega
        case rel => exact ⟨k + 1, t, rfl, by omega, by go_num, HB.out, HD.out⟩
    · obtain rfl : k = L := by omega
      clear hlt
      have Hu := Lib.hid hB.undo
      clear hB hD
      go_wp2_with (first
        | (go_at_call 20; refine Hu.out.mono ?_))
      rintro e w5 ⟨rfl, hB5⟩
      have e1 : ({ bk1 130 100 with txn := [] } : Bk) = bk1 130 100 := by
        have := f.txn
        cases h : bk1 130 100
        rw [h] at this
        simp only at this
        rw [this]
      have hB5' : OwnB (bk1 130 100) gd g w.heap.size w w5 := by rw [← e1]; exact hB5
      have hpe := hB5'.disk.pending
      rw [f.ats] at hpe
      have hz : (([] : List Int).length : Int) = 0 := rfl
      rw [hz] at hpe
      have Hpe := Lib.hid hpe
      have hcm := hB5'.commit f.dur.ok (by rw [f.ats]; simp)
      have hce : commitOf (bk1 130 100) = (bk1 130 100, 0) := by
        unfold commitOf
        rw [if_neg (by simp [f.dur.unb]), if_pos f.txn]
      rw [hce] at hcm
      have Hcm := Lib.hid hcm
      clear hB5 hB5' hpe hz hcm hce e1 Hu hb
      go_wp2_with (first
        | (go_at_call 21; refine Hpe.out.mono ?_; rintro e w' ⟨rfl, rfl⟩)
        | (go_at_call 22; refine Hcm.out.mono ?_))
      rintro e w6 ⟨v, rfl, hE, hB6⟩
      obtain rfl := ErrV.zero hE
      have hpe := hB6.disk.pending
      rw [f.ats] at hpe
      have hz : (([] : List Int).length : Int) = 0 := rfl
      rw [hz] at hpe
      have Hpe2 := Lib.hid hpe
      have hpg := hB6.pages
      have hp28 : (bk1 130 100).pages = 28 := f.pages
      rw [hp28] at hpg
      have hz28 : ((28 : Nat) : Int) = 28 := rfl
      rw [hz28] at hpg
      have Hpg := Lib.hid hpg
      have HB6 := Lib.hid hB6
      clear hB6 hpe hz hpg hz28 Hpe Hcm hE
      go_wp2_with (first
        | (go_at_call 21; refine Hpe2.out.mono ?_; rintro e w' ⟨rfl, rfl⟩)
        | (go_at_call 23; refine Hpg.out.mono ?_; rintro e w' ⟨rfl, rfl⟩))
      go_loopg [61] 28 (fun m v wr => ∃ (j : Nat), m = 28 - j ∧ j ≤ 28 ∧ v = .int .i64 j ∧ OwnB (bk1 130 100) gd g w.heap.size w wr)
      case atStart => exact ⟨0, rfl, by omega, rfl, HB6.out⟩
      case round =>
        clear HB6 Hpe2 Hpg
        rename World => wr2
        obtain ⟨j, rfl, hj, rfl, hB⟩ := hrel
        by_cases hjl : j < 28
        · have hjl' : (j : Int) < 28 := by omega
          have hrd := hB.read f.dur.ok (j : Int)
          rw [f.dur.page (by rw [hp28]; exact hjl) (by rw [f.txn]; rfl), f.zero j (by rw [hp28]; exact hjl)] at hrd
          have hrd' : Calls Tryz.prog 24 #[.pointer (some ⟨g, 0, none⟩), .int .i64 j] _ fun e w' => ∃ v, e = .returned (.tuple #[.agg zl.toArray, v]) ∧ ErrV w' 0 v ∧ OwnB (bk1 130 100) gd g w.heap.size w w' := hrd.mono fun e w' ⟨v, h1, h2, h3, _⟩ => ⟨v, by rw [h1, hzV], h2, h3⟩
          have Hrd := Lib.hid hrd'
          clear hrd hrd' hB
          go_wp2_with (first
            | (go_at_call 24; refine Hrd.out.mono ?_))
          rintro e w7 ⟨v, rfl, hE, hB7⟩
          obtain rfl := ErrV.zero hE
          clear hE Hrd
          go_upto_region 23 with (first
            | (refine wpList_alloc_arr rfl 37 rfl _ alloc64 ?_)
            | (refine wpList_store_new rfl 37 _ _ rfl w7.heap.size rfl zl.toArray rfl rfl 37 _ hzi.out hzz.out hz1.out ?_))
          have hba : Below w7.heap.size w7 (w7.alloc (.cells zl.toArray 37)) := (Below.refl _ _).alloc (Nat.le_refl _) _
          have hx7 : (w7.alloc (.cells zl.toArray 37)).heap[w7.heap.size]? = some (.cells zl.toArray 37 (0, 0)) := heap_alloc_new w7 _
          have hB8 := hB7.below hba
          generalize w7.alloc (.cells zl.toArray 37) = w8 at hba hx7 hB8 ⊢
          obtain ⟨k1, hk1⟩ : ∃ k1, w7.heap.size = k1 := ⟨_, rfl⟩
          rw [hk1] at hx7 ⊢
          have hl1 := Lib.hid (run_loadAt_mid (P := Tryz.prog) w8 k1 0 37 zl _ (fun j v hj => by rw [Nat.zero_add, cell_of_row w8 k1 j _ _ _ hx7]; simpa using hj) Tryz.underlying37 rfl (by rw [hzl64]; exact info64))
          have HB8 := Lib.hid hB8
          have hneq := hzB.neq
          have hsame := hzB.same
          clear hba hx7 hB8 hB7 hk1
          go_wp2_with (first
            | (have _t := hl1; refine wpList_load_page _ rfl k1 0 rfl _ hl1.out (by rfl) ?_; clear hl1)
            | (refine wpList_buildZ 37 rfl zl.toArray hbz.out (by rfl) ?_))
          go_roundg (28 - (j + 1))
          case measure => omega
          case rel => exact ⟨j + 1, rfl, by omega, by go_num, HB8.out⟩
        · obtain rfl : j = 28 := by omega
          clear hjl
          have hbel := hB.bel
          clear hB
          go_wp2
          go_ret
          exact ⟨rfl, hbel⟩
end Go.Proofs.YticdanndfogjfaaGreatDoor
