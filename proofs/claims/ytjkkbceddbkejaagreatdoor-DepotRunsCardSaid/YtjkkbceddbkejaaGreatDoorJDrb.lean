import Derived.Test.YtjkkbceddbkejaaGreatDoorJDra
import Derived.Test.YtjkkbceddbkejaaGreatDoorDpFillA
import Derived.Test.YtjkkbceddbkejaaGreatDoorDpOpen
set_option linter.unusedSimpArgs false
set_option linter.unusedVariables false
namespace Go.Proofs.YtjkkbceddbkejaaGreatDoor
open Go.RowKit Sh Go.Maps Go.Extern.Stop Go.Stop Go.Extern

def Bl9 (n : Nat) (bl : Nat → List UInt8) : Prop := ∀ s, s < 4 * n → at8 (bl s) 9 = 0
/-- What a call of both leaves: a transaction more. -/
def BothP (b : Bk) (gd g xd first n m sb bb : Nat) (bl : Nat → List UInt8) (w0 : World) (e : Ending) (w' : World) : Prop := e = .returned (.bool true) ∧
  ∃ t hs' bl' T, OwnX { b with txn := t } gd g T w0 w' ∧ De { b with txn := t } first n hs' bl' ∧ RfT (xd, depO g first n) m sb bb (4 * n) T (stN hs') bl' ∧ t.length ≤ 4 ∧ InR { b with txn := t } first (first + 5 * n) ∧ (Bl9 n bl → N9 t ∧ Bl9 n bl')
def callV (kd sl : Int) (wh : UInt8) : Value := .agg #[.int .i64 kd, .int .i64 sl, cu8 wh]
theorem n9_nil : N9 [] := fun c hc => by simp at hc
theorem inr_nil (b : Bk) (lo hi : Nat) : InR { b with txn := [] } lo hi := fun c hc => by simp at hc
theorem Tx.inr {b : Bk} {t : List Chg} {lo hi k : Nat} (h : Tx b t lo hi k) (ht : b.txn = []) : InR { b with txn := t } lo hi := fun c hc => (h.keys c hc).resolve_left (by rw [ht]; simp)
theorem Tx.len0 {b : Bk} {t : List Chg} {lo hi k : Nat} (h : Tx b t lo hi k) (ht : b.txn = []) : t.length ≤ k := by have := h.len; rw [ht] at this; simpa using this
theorem bl9_upd {n : Nat} {bl : Nat → List UInt8} (h : Bl9 n bl) {s : Nat} {p : List UInt8} (hp : at8 p 9 = 0) : Bl9 n (updP bl s p) := fun r hr => by
  unfold updP
  split
  · exact hp
  · exact h r hr
theorem BothP.same {b : Bk} {gd g xd first n m sb bb : Nat} {hs : List (List UInt8)} {bl : Nat → List UInt8} {T : List (Nat × Obj)} {w0 w : World} (hX : OwnX b gd g T w0 w) (hD : De b first n hs bl) (hR : RfT (xd, depO g first n) m sb bb (4 * n) T (stN hs) bl) (ht : b.txn = []) :
    BothP b gd g xd first n m sb bb bl w0 (.returned (.bool true)) w := by
  refine ⟨rfl, [], hs, bl, T, ?_, ?_, hR, by simp, inr_nil _ _ _, fun h9 => ⟨n9_nil, h9⟩⟩
  · rw [txn_same ht]; exact hX
  · rw [txn_same ht]; exact hD
section
variable {m sb bb xd first n gd g D c : Nat} {hs : List (List UInt8)} {bl : Nat → List UInt8} {w w0 : World} {b : Bk} {T : List (Nat × Obj)}
/-- Undo keeps an error. -/
theorem OwnX.undoE (h : OwnX b gd g T w0 w) {n : Int} {v : Value} (hE : ErrV w n v) : Calls Tryz.prog 24 #[.pointer (some ⟨g, 0, none⟩)] w (fun e w' => e = .returned (.tuple #[]) ∧ OwnX { b with txn := [] } gd g T w0 w' ∧ ErrV w' n v) := by
  obtain ⟨Fd, gr, bn, bt, hB, hF⟩ := h.ex
  refine (undo_in hB).mono ?_
  rintro e w' ⟨rfl, hi, hg⟩
  refine ⟨rfl, h.turn hF ⟨hi, Only.of_grown (F := fun k => BFoot Fd gr bn bt g k) hg (fun k e => .inr (.inr (.inr (.inl (by simpa using e.symm))))), fun k hk => .inl hk⟩, hE.other (fun s hs => ?_) hg⟩
  obtain ⟨es, clock, hb, _⟩ := hB.txn.owns
  unfold World.cell? at hs
  rw [hb] at hs
  simp at hs
theorem stN_put_set (H : ∀ h ∈ hs, Hd h) {s : Nat} (hs4 : s / 4 < hs.length) : stN (markL hs s 1) = setN (stN hs) s 1 := stN_put H hs4
set_option maxRecDepth 100000 in
set_option maxHeartbeats 16000000 in
/-- Kind 0: Put. -/
theorem both0_any (h : OwnX b gd g T w0 w) (hL : Laid w0) (hD : De b first n hs bl) (hf : first ≤ 2000) (hn : n ≤ 64) (hR : RfT (xd, depO g first n) m sb bb (4 * n) T (stN hs) bl) (ht : b.txn = []) (sl : Int) (wh : UInt8) :
    Calls Tryz.prog 29 #[.pointer (some ⟨g, 0, none⟩), .pointer (some ⟨xd, 0, none⟩), .pointer (some ⟨m, 0, none⟩), callV 0 sl wh] w (BothP b gd g xd first n m sb bb bl w0) := by
  obtain ⟨pv, Hpv⟩ : ∃ pv : List Value, Hid (pv = [.int .i64 0, .int .i64 sl, cu8 wh]) := ⟨_, rfl⟩
  have hpV : callV 0 sl wh = .agg pv.toArray := by rw [Hpv.out]; rfl
  rw [hpV]
  have hba : Below w.heap.size w (w.alloc (.cells pv.toArray 69)) := (Below.refl _ _).alloc (Nat.le_refl _) _
  have hx1 : (w.alloc (.cells pv.toArray 69)).heap[w.heap.size]? = some (.cells pv.toArray 69 (0, 0)) := heap_alloc_new w _
  have hX1 := h.holds hba (Nat.le_refl _) hx1
  clear h hpV
  go_enter Tryz.func29, Tryz.ntmps29
  go_upto_region 1 with (fail)
  generalize w.alloc (.cells pv.toArray 69) = wa at hx1 hX1 hba ⊢
  obtain ⟨y, hy⟩ : ∃ y, w.heap.size = y := ⟨_, rfl⟩
  rw [hy] at hx1 hX1
  try rw [hy]
  obtain ⟨cv, hcv⟩ : ∃ cv, cu8 wh = cv := ⟨_, rfl⟩
  have ck0 : wa.cell? ⟨y, 0, none⟩ = some (.int .i64 0) := by rw [cell_of_row wa y 0 _ _ _ hx1, Hpv.out]; rfl
  have ck2 : wa.cell? ⟨y, 2, none⟩ = some cv := by rw [cell_of_row wa y 2 _ _ _ hx1, Hpv.out, ← hcv]; rfl
  have Hck2 : Hid (∀ W : World, W.heap[y]? = some (.cells pv.toArray 69 (0, 0)) → W.cell? ⟨y, 2, none⟩ = some cv) := Lib.hid (fun W hW => by rw [cell_of_row W y 2 _ _ _ hW, Hpv.out, ← hcv]; rfl)
  have hrm := rroom_any (hR.get hX1.drop) (by omega) (-1) (roomL (-1) hs).isSome (room_ref hD.hd hD.len (-1))
  obtain ⟨p2, Hp2⟩ : ∃ p2 : List Value, Hid (p2 = page2 wh 5) := ⟨_, rfl⟩
  have hP2 : pageV (pg2 wh 5) = .agg p2.toArray := by rw [pg2_v, Hp2.out]
  have HB : Hid (Tryz.prog.built 33 [(0, cv), (1, .int .u8 5)] = some p2.toArray) := by
    have := built_two wh 5
    rw [hcv, cu8_nat] at this
    rw [Hp2.out]; exact this
  have hmem : (xd, depO g first n) ∈ (y, Obj.cells pv.toArray 69 (0, 0)) :: T := List.mem_cons_of_mem _ hR.mem
  have HR := Lib.hid hR; have Ht := Lib.hid ht; have HL := Lib.hid hL
  clear hy hba hcv hR ht hL
  cases hr : roomL (-1) hs with
  | none =>
    rw [hr] at hrm
    have hrm : Calls Tryz.prog 57 #[.pointer (some ⟨m, 0, none⟩), .int .i64 (-1)] wa (SameP (.bool false) wa) := hrm
    have hpt := hX1.dPut_full hmem hD hf hn (pg2_len wh 5) hr
    rw [hP2] at hpt
    have Hpt := Lib.hid hpt; have Hrm := Lib.hid hrm; have HD := Lib.hid hD
    clear hpt hrm hD hX1 hx1 hr hP2 hmem
    go_wp2_with (first
      | (go_at_call 57; refine Hrm.out.mono ?_; rintro e w' ⟨rfl, rfl⟩)
      | (refine wpList_build2 (.tmp 33) (.const (.int .u8 5)) rfl _ _ rfl rfl _ HB.out (by rfl) ?_)
      | (go_at_call 10; refine Hpt.out.mono ?_))
    rintro e w3 ⟨v3, rfl, hE3, hX3⟩
    have Hu := Lib.hid (hX3.undoE hE3)
    clear hE3 hX3 Hpt HB ck0 ck2
    go_wp2_with (first
      | (go_at_call 24; refine Hu.out.mono ?_))
    rintro e w4 ⟨rfl, hX4, hE4⟩
    rw [txn_same Ht.out] at hX4
    have Hnum := Lib.hid (num_any 20 _ w4 (HL.out.below HL.out.pos hX4.bel) hE4)
    have HX4 := Lib.hid hX4.drop
    clear hE4 hX4 Hu
    go_wp2_with (first
      | (go_at_call 12; refine Hnum.out.mono ?_))
    rintro e w5 ⟨rfl, hb5⟩
    have HX5 := Lib.hid (HX4.out.below hb5)
    clear hb5 Hnum HX4
    go_wp2
    go_ret
    exact BothP.same HX5.out HD.out HR.out Ht.out
  | some s =>
    rw [hr] at hrm
    have hrm : Calls Tryz.prog 57 #[.pointer (some ⟨m, 0, none⟩), .int .i64 (-1)] wa (SameP (.bool true) wa) := hrm
    obtain ⟨t, hP, hpt⟩ := hX1.dPut hmem hD hf hn (pg2_len wh 5) hr (by rw [Ht.out]; simp)
    rw [hP2] at hpt
    have hl2 : t.length ≤ 2 := by have := hP.tx.len; rw [Ht.out] at this; simpa using this
    obtain ⟨hs4, hne, hfr⟩ := room_some hD.hd hr
    have h0s : stN hs s = 0 := by unfold stN; rw [free_not0 hD.hd hs4 hfr]; rfl
    have hsM : s < 4 * n := by have := hD.len; omega
    have hmay := fun W (hX : OwnX { b with txn := t } gd g T w0 W) => rmay_any (HR.out.get hX) (by omega) (-1) s hsM h0s hne (may_ref hD.hd hD.len hr)
    have hput := fun W (hX : OwnX { b with txn := t } gd g T w0 W) => rput_any (HR.out.get hX) (by omega) (fun i hi => hD.bl_len hi) hsM (pg2_len wh 5)
    rw [← stN_put_set hD.hd hs4] at hput
    simp only [hP2] at hput
    have Hpt := Lib.hid hpt; have Hrm := Lib.hid hrm; have HP := Lib.hid hP; have Hmay := Lib.hid hmay; have Hput := Lib.hid hput
    clear hpt hrm hD hX1 hx1 hr hP2 hmay hput hfr hs4 h0s hP
    go_wp2_with (first
      | (go_at_call 57; refine Hrm.out.mono ?_; rintro e w' ⟨rfl, rfl⟩)
      | (refine wpList_build2 (.tmp 33) (.const (.int .u8 5)) rfl _ _ rfl rfl _ HB.out (by rfl) ?_)
      | (go_at_call 10; refine Hpt.out.mono ?_))
    rintro e w3 ⟨v3, rfl, hE3, hX3⟩
    obtain rfl := ErrV.zero hE3
    have ck3 := Hck2.out w3 (hX3.at_ (x := (y, Obj.cells pv.toArray 69 (0, 0))) (by simp))
    have hX3d := hX3.drop
    have Hm3 := Lib.hid (Hmay.out w3 hX3d); have Hp3 := Lib.hid (Hput.out w3 hX3d)
    have HX3 := Lib.hid hX3d
    clear hE3 hX3 hX3d Hpt Hmay Hput ck0 ck2 Hrm
    go_wp2_with (first
      | (go_at_call 58; refine Hm3.out.mono ?_; rintro e w' ⟨rfl, rfl⟩)
      | (refine wpList_build2 (.tmp 56) (.const (.int .u8 5)) rfl _ _ rfl rfl _ HB.out (by rfl) ?_)
      | (go_at_call 59; refine Hp3.out.mono ?_))
    rintro e w4 ⟨rfl, hT4⟩
    obtain ⟨T', hX4, hR4⟩ := HR.out.turn HX3.out hT4
    have HX4 := Lib.hid hX4; have HR4 := Lib.hid hR4
    clear hT4 hX4 hR4 Hp3 Hm3 ck3 HB
    go_wp2
    go_ret
    exact ⟨rfl, t, _, _, T', HX4.out, HP.out.de, HR4.out, by omega, HP.out.tx.inr Ht.out, fun h9 => ⟨HP.out.nine rfl (by rw [Ht.out]; exact n9_nil), bl9_upd h9 rfl⟩⟩
end
end Go.Proofs.YtjkkbceddbkejaaGreatDoor

namespace Go.Proofs.YtjkkbceddbkejaaGreatDoor
open Go.RowKit Sh Go.Maps Go.Extern.Stop Go.Stop Go.Extern
section
variable {m sb bb xd first n gd g D c : Nat} {hs : List (List UInt8)} {bl : Nat → List UInt8} {w w0 : World} {b : Bk} {T : List (Nat × Obj)}
set_option maxRecDepth 100000 in
set_option maxHeartbeats 16000000 in
theorem bothE_any (h : OwnX b gd g T w0 w) (hD : De b first n hs bl) (hR : RfT (xd, depO g first n) m sb bb (4 * n) T (stN hs) bl) (hats : b.S.ats.length ≤ 10000) (ht : b.txn = []) (kd sl : Int) (wh : UInt8)
    (k0 : kd ≠ 0) (k1 : kd ≠ 1) (k2 : kd ≠ 2) (k3 : kd ≠ 3) :
    Calls Tryz.prog 29 #[.pointer (some ⟨g, 0, none⟩), .pointer (some ⟨xd, 0, none⟩), .pointer (some ⟨m, 0, none⟩), callV kd sl wh] w (BothP b gd g xd first n m sb bb bl w0) := by
  obtain ⟨pv, Hpv⟩ : ∃ pv : List Value, Hid (pv = [.int .i64 kd, .int .i64 sl, cu8 wh]) := ⟨_, rfl⟩
  have hpV : callV kd sl wh = .agg pv.toArray := by rw [Hpv.out]; rfl
  rw [hpV]
  have hba : Below w.heap.size w (w.alloc (.cells pv.toArray 69)) := (Below.refl _ _).alloc (Nat.le_refl _) _
  have hx1 : (w.alloc (.cells pv.toArray 69)).heap[w.heap.size]? = some (.cells pv.toArray 69 (0, 0)) := heap_alloc_new w _
  have hX1 := h.below hba
  clear h hpV
  go_enter Tryz.func29, Tryz.ntmps29
  go_upto_region 1 with (fail)
  generalize w.alloc (.cells pv.toArray 69) = wa at hx1 hX1 hba ⊢
  obtain ⟨y, hy⟩ : ∃ y, w.heap.size = y := ⟨_, rfl⟩
  rw [hy] at hx1
  try rw [hy]
  have ck0 : wa.cell? ⟨y, 0, none⟩ = some (.int .i64 kd) := by rw [cell_of_row wa y 0 _ _ _ hx1, Hpv.out]; rfl
  have hcm := hX1.commit hD.ok hats
  have hce : commitOf b = (b, 0) := by
    obtain ⟨_, _, hd⟩ := hD.ex
    unfold commitOf
    rw [if_neg (by simp [hd.unb]), if_pos ht]
  rw [hce] at hcm
  have Hcm := Lib.hid hcm; have HD := Lib.hid hD; have Ht := Lib.hid ht; have HR := Lib.hid hR
  clear hcm hce hR hats ht hD hX1 hx1 hba hy
  go_wp2_with (first
    | (go_at_call 20; refine Hcm.out.mono ?_))
  rintro e w5 ⟨v5, rfl, hE5, hX5⟩
  obtain rfl := ErrV.zero hE5
  have HX5 := Lib.hid hX5
  clear hX5 hE5 Hcm ck0
  go_wp2
  go_ret
  exact BothP.same HX5.out HD.out HR.out Ht.out
end
end Go.Proofs.YtjkkbceddbkejaaGreatDoor

namespace Go.Proofs.YtjkkbceddbkejaaGreatDoor
open Go.RowKit Sh Go.Maps Go.Extern.Stop Go.Stop Go.Extern

theorem Chain.only {N : Nat} {w w' : World} {n : Int} {F : Nat → Prop} (hF : ∀ r, F r → ∀ s, w.cell? ⟨r, 0, none⟩ ≠ some (.string s)) (hN : N ≤ w.heap.size) (ho : Only F w w') : ∀ {ss : List ByteArray} {v : Value}, Chain N w n ss v → Chain N w' n ss v
  | [], _, h => h
  | s :: ss, v, h => by
    obtain ⟨b, u, h1, h2, h3, h4, h5⟩ := h
    have hb : ¬ F b := fun e => hF b e s h3
    have hbl : w'.heap[b]? = w.heap[b]? := ho.block b (by omega) hb
    exact ⟨b, u, h1, h2, (World.cell?_of_block (w := w) (a := ⟨b, 0, none⟩) hbl).trans h3, (World.cell?_of_block (w := w) (a := ⟨b, 1, none⟩) hbl).trans h4, Chain.only hF hN ho h5⟩
theorem ErrV.only {w w' : World} {n : Int} {v : Value} {F : Nat → Prop} (h : ErrV w n v) (hF : ∀ r, F r → ∀ s, w.cell? ⟨r, 0, none⟩ ≠ some (.string s)) (ho : Only F w w') : ErrV w' n v :=
  h.imp id (fun ⟨h1, ss, hc⟩ => ⟨h1, ss, (Chain.only hF (Nat.le_refl _) ho hc).mono ho.size⟩)
section
variable {b : Bk} {gd g n first xd m sb bb y D c M : Nat} {o : Obj} {T : List (Nat × Obj)} {w0 w w' : World} {hs hs' : List (List UInt8)} {bl bl' rb rb' : Nat → List UInt8} {f f' : Nat → Nat}
theorem OwnX.only2 (h : OwnX b gd g T w0 w) (ho : Only (fun j => j = sb ∨ j = bb) w w') (h1 : ∃ o, (sb, o) ∈ T) (h2 : ∃ o, (bb, o) ∈ T) {T' : List (Nat × Obj)} (hT : ∀ z ∈ T', (∃ o, (z.1, o) ∈ T) ∧ w'.heap[z.1]? = some z.2) : OwnX b gd g T' w0 w' := by
  obtain ⟨Fd, gr, bn, bt, hi, hF⟩ := h.ex
  obtain ⟨o1, h1⟩ := h1
  obtain ⟨o2, h2⟩ := h2
  refine ⟨⟨Fd, gr, bn, bt, hi.only ho (fun j hj e => e.elim (fun e => (hF j hj).2 _ h1 e) (fun e => (hF j hj).2 _ h2 e)), fun j hj => ⟨(hF j hj).1, fun z hz => ?_⟩⟩,
    h.bel.trans (ho.base h.bel.size (fun j hj => hj.elim (fun e => by rw [e]; exact (h.arr _ h1).2) (fun e => by rw [e]; exact (h.arr _ h2).2))), fun z hz => ?_⟩
  · obtain ⟨⟨o, hm⟩, _⟩ := hT z hz
    exact (hF j hj).2 (z.1, o) hm
  · obtain ⟨⟨o, hm⟩, he⟩ := hT z hz
    exact ⟨he, (h.arr (z.1, o) hm).2⟩
/-- Both depots, and a block y beside them. -/
def BX (b : Bk) (gd g xd first n m sb bb : Nat) (f : Nat → Nat) (rb : Nat → List UInt8) (y : Nat) (o : Obj) (w0 W : World) : Prop :=
  ∃ T, OwnX b gd g ((y, o) :: T) w0 W ∧ RfT (xd, depO g first n) m sb bb (4 * n) T f rb ∧ y ≠ sb ∧ y ≠ bb
theorem BX.start (h : OwnX b gd g T w0 w) (hR : RfT (xd, depO g first n) m sb bb (4 * n) T f rb) (hb : Below w.heap.size w w') (hx : w'.heap[w.heap.size]? = some o) : BX b gd g xd first n m sb bb f rb w.heap.size o w0 w' := by
  obtain ⟨_, l2, l3⟩ := (hR.get h).lt
  exact ⟨T, h.holds hb (Nat.le_refl _) hx, hR, by omega, by omega⟩
theorem BX.below (h : BX b gd g xd first n m sb bb f rb y o w0 w) (hb : Below w.heap.size w w') : BX b gd g xd first n m sb bb f rb y o w0 w' := by
  obtain ⟨T, hX, hR, h1, h2⟩ := h
  exact ⟨T, hX.below hb, hR, h1, h2⟩
theorem BX.at_ (h : BX b gd g xd first n m sb bb f rb y o w0 w) : w.heap[y]? = some o := by
  obtain ⟨T, hX, _⟩ := h
  exact hX.at_ (x := (y, o)) (by simp)
theorem BX.rf (h : BX b gd g xd first n m sb bb f rb y o w0 w) : RfAt m sb bb (4 * n) f rb w := by
  obtain ⟨T, hX, hR, _⟩ := h
  exact hR.get hX.drop
theorem BX.bel (h : BX b gd g xd first n m sb bb f rb y o w0 w) : Below w0.heap.size w0 w := by
  obtain ⟨T, hX, _⟩ := h
  exact hX.bel
theorem BX.turn (h : BX b gd g xd first n m sb bb f rb y o w0 w) (hT : RfTurn m sb bb (4 * n) f' rb' w w') : BX b gd g xd first n m sb bb f' rb' y o w0 w' := by
  obtain ⟨T, hX, hR, h1, h2⟩ := h
  obtain ⟨T', hX', hR'⟩ := hR.turn hX.drop hT
  have hy : w'.heap[y]? = some o := (hT.2.block y (hX.arr.lt (x := (y, o)) (by simp)) (fun e => e.elim h1 h2)).trans (hX.at_ (x := (y, o)) (by simp))
  refine ⟨T', ?_, hR', h1, h2⟩
  obtain ⟨om, os, ob, rfl, _, _⟩ := hR
  obtain ⟨om', os', ob', rfl, _, _⟩ := hR'
  refine hX.only2 hT.2 ⟨os, by simp⟩ ⟨ob, by simp⟩ (fun z hz => ?_)
  rcases List.mem_cons.1 hz with rfl | hz
  · exact ⟨⟨o, by simp⟩, hy⟩
  · have he := (hX'.arr z hz).1
    simp only [List.mem_cons, List.not_mem_nil, or_false] at hz
    rcases hz with rfl | rfl | rfl | rfl
    · exact ⟨⟨om, by simp⟩, he⟩
    · exact ⟨⟨os, by simp⟩, he⟩
    · exact ⟨⟨ob, by simp⟩, he⟩
    · exact ⟨⟨depO g first n, by simp⟩, he⟩
/-- No error lies in the reference's blocks. -/
theorem RfAt.noStr (h : RfAt m sb bb M f rb w) (hM : 0 < M) (hl : (rb 0).length = 64) : ∀ r, (fun j => j = sb ∨ j = bb) r → ∀ s, w.cell? ⟨r, 0, none⟩ ≠ some (.string s) := by
  rintro r (rfl | rfl) s e
  · rw [h.st 0 hM] at e; cases e
  · match hr : rb 0, hl with
    | q :: t, _ =>
      have := h.pg 0 hM 0 (cu8 q) (by rw [hr]; rfl)
      simp only [Nat.zero_mul, Nat.zero_add] at this
      rw [this] at e
      cases e
theorem RfTurn.err (h : RfAt m sb bb M f rb w) (hM : 0 < M) (hl : (rb 0).length = 64) (hT : RfTurn m sb bb M f' rb' w w') {k : Int} {v : Value} (hE : ErrV w k v) : ErrV w' k v := hE.only (h.noStr hM hl) hT.2
/-- .. of a state. -/
def BS (b : Bk) (gd g xd first n m sb bb : Nat) (hs : List (List UInt8)) (bl : Nat → List UInt8) (f : Nat → Nat) (rb : Nat → List UInt8) (y : Nat) (o : Obj) (k : Nat) (w0 W : World) : Prop :=
  ∃ t, De { b with txn := t } first n hs bl ∧ t.length ≤ k ∧ InR { b with txn := t } first (first + 5 * n) ∧ N9 t ∧ BX { b with txn := t } gd g xd first n m sb bb f rb y o w0 W
variable {k : Nat}
theorem BS.below (h : BS b gd g xd first n m sb bb hs bl f rb y o k w0 w) (hb : Below w.heap.size w w') : BS b gd g xd first n m sb bb hs bl f rb y o k w0 w' := by
  obtain ⟨t, h1, h2, h3, h9, h4⟩ := h
  exact ⟨t, h1, h2, h3, h9, h4.below hb⟩
theorem BS.at_ (h : BS b gd g xd first n m sb bb hs bl f rb y o k w0 w) : w.heap[y]? = some o := by obtain ⟨t, _, _, _, _, h4⟩ := h; exact h4.at_
theorem BS.rf (h : BS b gd g xd first n m sb bb hs bl f rb y o k w0 w) : RfAt m sb bb (4 * n) f rb w := by obtain ⟨t, _, _, _, _, h4⟩ := h; exact h4.rf
theorem BS.bel (h : BS b gd g xd first n m sb bb hs bl f rb y o k w0 w) : Below w0.heap.size w0 w := by obtain ⟨t, _, _, _, _, h4⟩ := h; exact h4.bel
theorem BS.turn (h : BS b gd g xd first n m sb bb hs bl f rb y o k w0 w) (hT : RfTurn m sb bb (4 * n) f' rb' w w') : BS b gd g xd first n m sb bb hs bl f' rb' y o k w0 w' := by
  obtain ⟨t, h1, h2, h3, h9, h4⟩ := h
  exact ⟨t, h1, h2, h3, h9, h4.turn hT⟩
theorem BS.fin (h : BS b gd g xd first n m sb bb hs bl (stN hs) bl y o k w0 w) (hk : k ≤ 4) : BothP b gd g xd first n m sb bb bl w0 (.returned (.bool true)) w := by
  obtain ⟨t, h1, h2, h3, h9, T, h4, h5, _⟩ := h
  exact ⟨rfl, t, hs, bl, T, h4.drop, h1, h5, by omega, h3, fun hb => ⟨h9, hb⟩⟩
/-- The program's Drop: where it isn't live. -/
theorem BS.drop_no (h : BS b gd g xd first n m sb bb hs bl f rb y o k w0 w) (hf : first ≤ 2000) (hn : n ≤ 64) (i : Int) (h0 : (getOf hs bl n i).2 ≠ 0) :
    Calls Tryz.prog 30 #[.pointer (some ⟨xd, 0, none⟩), .int .i64 i] w (TQ (getOf hs bl n i).2 (BS b gd g xd first n m sb bb hs bl f rb y o k w0)) := by
  obtain ⟨t, h1, h2, h3, h9, T, h4, h5, h6⟩ := h
  exact (h4.dDrop_no (List.mem_cons_of_mem _ h5.mem) h1 hf hn i h0).mono fun e w' ⟨v, e1, e2, e3⟩ => ⟨v, e1, e2, t, h1, h2, h3, h9, T, e3, h5, h6⟩
/-- .. where it is. -/
theorem BS.drop_yes (h : BS b gd g xd first n m sb bb hs bl f rb y o k w0 w) (hf : first ≤ 2000) (hn : n ≤ 64) (hk : k < 60) {s : Nat} (hs4 : s < 4 * n) (hl : stS hs s = 1) :
    Calls Tryz.prog 30 #[.pointer (some ⟨xd, 0, none⟩), .int .i64 s] w (TQ 0 (BS b gd g xd first n m sb bb (markL hs s 2) bl f rb y o (k + 1) w0)) := by
  obtain ⟨t0, h1, h2, h3, h9, T, h4, h5, h6⟩ := h
  obtain ⟨t, hP, hc⟩ := h4.dDrop (List.mem_cons_of_mem _ h5.mem) h1 hf hn hs4 hl (by show t0.length < 60; omega)
  exact hc.mono fun e w' ⟨v, e1, e2, e3⟩ => ⟨v, e1, e2, t, hP.de, by have h7 : t.length ≤ t0.length + 1 := hP.tx.len; omega, h3.tx hP.tx, hP.nine h9, T, e3, h5, h6⟩
/-- The reference's Drop, the same. -/
theorem BS.rdrop_no (h : BS b gd g xd first n m sb bb hs bl (stN hs') rb y o k w0 w) (hn : n ≤ 64) (i : Int) (h0 : (getOf hs' bl' n i).2 ≠ 0) :
    Calls Tryz.prog 60 #[.pointer (some ⟨m, 0, none⟩), .int .i64 i] w (fun e w' => e = .returned (.int .i64 (getOf hs' bl' n i).2) ∧ BS b gd g xd first n m sb bb hs bl (stN hs') rb y o k w0 w' ∧ ∀ q v, ErrV w q v → ErrV w' q v) := by
  have hh := has_get (hs := hs') (n := n) bl' i
  rw [← hh] at h0 ⊢
  refine (Go.Proofs.YtjkkbceddbkejaaGreatDoor.rdrop_no h.rf (by omega) i h0).mono ?_
  rintro e w' ⟨rfl, rfl⟩
  exact ⟨rfl, h, fun _ _ h => h⟩
theorem BS.rdrop_yes (h : BS b gd g xd first n m sb bb hs bl (stN hs') rb y o k w0 w) (hn : n ≤ 64) (H : ∀ h ∈ hs', Hd h) (hl' : hs'.length = n) (hrb : (rb 0).length = 64) {s : Nat} (hs4 : s < 4 * n) (hl : stS hs' s = 1) :
    Calls Tryz.prog 60 #[.pointer (some ⟨m, 0, none⟩), .int .i64 s] w (fun e w' => e = .returned (.int .i64 0) ∧ BS b gd g xd first n m sb bb hs bl (stN (markL hs' s 2)) rb y o k w0 w' ∧ ∀ q v, ErrV w q v → ErrV w' q v) := by
  have hr := h.rf
  refine (rdrop_any hr (by omega) (by omega) hs4 (by unfold stN; rw [hl]; rfl)).mono ?_
  rintro e w' ⟨rfl, hT⟩
  have hd : dropN (stN hs') (4 * n) s = stN (markL hs' s 2) := by rw [stN_drop H hl' (by omega)]; rfl
  rw [hd] at hT
  exact ⟨rfl, h.turn hT, fun q v hE => RfTurn.err hr (by omega) hrb hT hE⟩
/-- Both Drops, in whatever order. -/
theorem BS.drops (hf : first ≤ 2000) (hn : n ≤ 64) (hk : k < 60) (hD : De b first n hs bl) (i : Int) :
    ∃ q hs', (∀ f rb W, BS b gd g xd first n m sb bb hs bl f rb y o k w0 W → Calls Tryz.prog 30 #[.pointer (some ⟨xd, 0, none⟩), .int .i64 i] W (TQ q (BS b gd g xd first n m sb bb hs' bl f rb y o (k + 1) w0))) ∧
      (∀ hs1 k1 W, BS b gd g xd first n m sb bb hs1 bl (stN hs) bl y o k1 w0 W → Calls Tryz.prog 60 #[.pointer (some ⟨m, 0, none⟩), .int .i64 i] W (fun e w' => e = .returned (.int .i64 q) ∧ BS b gd g xd first n m sb bb hs1 bl (stN hs') bl y o k1 w0 w' ∧ ∀ q v, ErrV W q v → ErrV w' q v)) := by
  by_cases h0 : (getOf hs bl n i).2 = 0
  · unfold getOf at h0
    split at h0
    · exact absurd h0 (by decide)
    · rename_i hi
      split at h0
      · rename_i hl
        obtain ⟨s, rfl⟩ : ∃ s : Nat, i = (s : Int) := ⟨i.toNat, by omega⟩
        rw [Int.toNat_natCast] at hl
        have hs4 : s < 4 * n := by omega
        exact ⟨0, markL hs s 2, fun f rb W h => h.drop_yes hf hn hk hs4 hl, fun hs1 k1 W h => h.rdrop_yes hn hD.hd hD.len (hD.bl_len (by omega)) hs4 hl⟩
      · exact absurd h0 (by decide)
  · refine ⟨(getOf hs bl n i).2, hs, fun f rb W h => (h.drop_no hf hn i h0).mono ?_, fun hs1 k1 W h => h.rdrop_no hn i h0⟩
    rintro e w' ⟨v, e1, e2, t, h1, h2, h3, h4⟩
    exact ⟨v, e1, e2, t, h1, by omega, h3, h4⟩
end
end Go.Proofs.YtjkkbceddbkejaaGreatDoor

namespace Go.Proofs.YtjkkbceddbkejaaGreatDoor
open Go.RowKit Sh Go.Maps Go.Extern.Stop Go.Stop Go.Extern
section
variable {m sb bb xd first n gd g : Nat} {hs : List (List UInt8)} {bl : Nat → List UInt8} {w w0 : World} {b : Bk} {T : List (Nat × Obj)}
set_option maxRecDepth 100000 in
set_option maxHeartbeats 16000000 in
theorem both1_any (h : OwnX b gd g T w0 w) (hL : Laid w0) (hD : De b first n hs bl) (hf : first ≤ 2000) (hn : n ≤ 64) (hR : RfT (xd, depO g first n) m sb bb (4 * n) T (stN hs) bl) (ht : b.txn = []) (sl : Int) (wh : UInt8) :
    Calls Tryz.prog 29 #[.pointer (some ⟨g, 0, none⟩), .pointer (some ⟨xd, 0, none⟩), .pointer (some ⟨m, 0, none⟩), callV 1 sl wh] w (BothP b gd g xd first n m sb bb bl w0) := by
  obtain ⟨pv, Hpv⟩ : ∃ pv : List Value, Hid (pv = [.int .i64 1, .int .i64 sl, cu8 wh]) := ⟨_, rfl⟩
  have hpV : callV 1 sl wh = .agg pv.toArray := by rw [Hpv.out]; rfl
  rw [hpV]
  have hba : Below w.heap.size w (w.alloc (.cells pv.toArray 69)) := (Below.refl _ _).alloc (Nat.le_refl _) _
  have hx1 : (w.alloc (.cells pv.toArray 69)).heap[w.heap.size]? = some (.cells pv.toArray 69 (0, 0)) := heap_alloc_new w _
  have hB1 : BS b gd g xd first n m sb bb hs bl (stN hs) bl w.heap.size (Obj.cells pv.toArray 69 (0, 0)) 0 w0 (w.alloc (.cells pv.toArray 69)) := by
    refine ⟨[], ?_, by simp, inr_nil _ _ _, n9_nil, ?_⟩
    · rw [txn_same ht]; exact hD
    · rw [txn_same ht]; exact BX.start h hR hba hx1
  obtain ⟨y, hy⟩ : ∃ y, w.heap.size = y := ⟨_, rfl⟩
  have Hdrops := Lib.hid (BS.drops (gd := gd) (g := g) (xd := xd) (m := m) (sb := sb) (bb := bb) (y := y) (o := (Obj.cells pv.toArray 69 (0, 0))) (w0 := w0) (k := 0) hf hn (by omega) hD sl)
  have HL := Lib.hid hL
  clear h hpV hR hD ht hba hL
  go_enter Tryz.func29, Tryz.ntmps29
  go_upto_region 1 with (fail)
  generalize w.alloc (.cells pv.toArray 69) = wa at hx1 hB1 ⊢
  rw [hy] at hx1 hB1
  try rw [hy]
  have Hck : Hid (∀ W : World, W.heap[y]? = some (Obj.cells pv.toArray 69 (0, 0)) → W.cell? ⟨y, 1, none⟩ = some (.int .i64 sl)) := Lib.hid (fun W hW => by rw [cell_of_row W y 1 _ _ _ hW, Hpv.out]; rfl)
  have ck0 : wa.cell? ⟨y, 0, none⟩ = some (.int .i64 1) := by rw [cell_of_row wa y 0 _ _ _ hx1, Hpv.out]; rfl
  obtain ⟨q, hs', hdr, hrdr⟩ := Hdrops.out
  have Hdr := Lib.hid hdr; have Hrdr := Lib.hid hrdr; have HB1 := Lib.hid hB1
  clear hy hx1 hdr hrdr Hdrops hB1
  go_upto_region 13 with (fail)
  clear ck0
  refine wp_region_up 10 (fun W => W.heap[y]? = some (Obj.cells pv.toArray 69 (0, 0))) (by kernel_rfl) ?_
  have hBd : BS b gd g xd first n m sb bb hs bl (stN hs) bl y (Obj.cells pv.toArray 69 (0, 0)) 0 w0 { wa with drawn := wa.drawn + 1 } := HB1.out.below (Below.refl wa.heap.size wa).drew
  clear HB1
  obtain ⟨wd, hdr⟩ : ∃ wd : World, ({ wa with drawn := wa.drawn + 1 } : World) = wd := ⟨_, rfl⟩
  rw [hdr] at hBd ⊢
  clear hdr
  have hSd := hBd.at_
  refine up_take (i := 0) (v := .pointer (some ⟨xd, 0, none⟩)) rfl (by kernel_rfl) (by kernel_rfl) (fun _ _ _ h => h) (Or.inl ⟨by rfl, ?_⟩) hSd ?_
  · intro w' _; go_simp
  try simp only [List.getElem_toArray, List.getElem_cons_succ, List.getElem_cons_zero, Act.put, List.setIfInBounds_toArray, List.set]
  refine up_take (i := 1) (v := .pointer (some ⟨y, 1, none⟩)) rfl (by kernel_rfl) (by kernel_rfl) (fun _ _ _ h => h) (Or.inl ⟨by rfl, ?_⟩) hSd ?_
  · intro w' _; go_simp
  try simp only [List.getElem_toArray, List.getElem_cons_succ, List.getElem_cons_zero, Act.put, List.setIfInBounds_toArray, List.set]
  refine up_take (i := 2) (v := .int .i64 sl) rfl (by kernel_rfl) (by kernel_rfl) (fun _ _ _ h => h) (Or.inl ⟨by rfl, ?_⟩) hSd ?_
  · intro w' hS'
    have c1 := Hck.out w' hS'
    clear hS'
    go_simp
  try simp only [List.getElem_toArray, List.getElem_cons_succ, List.getElem_cons_zero, Act.put, List.setIfInBounds_toArray, List.set]
  refine up_take (i := 5) (v := .pointer (some ⟨m, 0, none⟩)) rfl (by kernel_rfl) (by kernel_rfl) (fun _ _ _ h => h) (Or.inl ⟨by rfl, ?_⟩) hSd ?_
  · intro w' _; go_simp
  try simp only [List.getElem_toArray, List.getElem_cons_succ, List.getElem_cons_zero, Act.put, List.setIfInBounds_toArray, List.set]
  refine up_take (i := 6) (v := .pointer (some ⟨y, 1, none⟩)) rfl (by kernel_rfl) (by kernel_rfl) (fun _ _ _ h => h) (Or.inl ⟨by rfl, ?_⟩) hSd ?_
  · intro w' _; go_simp
  try simp only [List.getElem_toArray, List.getElem_cons_succ, List.getElem_cons_zero, Act.put, List.setIfInBounds_toArray, List.set]
  refine up_take (i := 7) (v := .int .i64 sl) rfl (by kernel_rfl) (by kernel_rfl) (fun _ _ _ h => h) (Or.inl ⟨by rfl, ?_⟩) hSd ?_
  · intro w' hS'
    have c1 := Hck.out w' hS'
    clear hS'
    go_simp
  try simp only [List.getElem_toArray, List.getElem_cons_succ, List.getElem_cons_zero, Act.put, List.setIfInBounds_toArray, List.set]
  refine up_one 3 _ rfl (by kernel_rfl) (by decide) (by rfl) (fun K hK => ?_)
  go_simp
  refine (Hdr.out _ _ _ hBd).mono ?_
  rintro e w3 ⟨v3, rfl, hE3, hB3⟩
  have hS3 := hB3.at_
  refine hK _ _ hS3 ?_
  clear hK K
  try simp only [List.getElem_toArray, List.getElem_cons_succ, List.getElem_cons_zero, Act.put, List.setIfInBounds_toArray, List.set]
  refine up_one 4 _ rfl (by kernel_rfl) (by decide) (by rfl) (fun K hK => ?_)
  go_simp
  refine (num_any q v3 w3 (HL.out.below HL.out.pos hB3.bel) hE3).mono ?_
  rintro e w4 ⟨rfl, hb4⟩
  have hB4 := hB3.below hb4
  have hS4 := hB4.at_
  refine hK _ _ hS4 ?_
  clear hK K
  try simp only [List.getElem_toArray, List.getElem_cons_succ, List.getElem_cons_zero, Act.put, List.setIfInBounds_toArray, List.set]
  refine up_one 8 _ rfl (by kernel_rfl) (by decide) (by rfl) (fun K hK => ?_)
  go_simp
  refine (Hrdr.out _ _ _ hB4).mono ?_
  rintro e w5 ⟨rfl, hB5, _⟩
  have hS5 := hB5.at_
  refine hK _ _ hS5 ?_
  clear hK K
  try simp only [List.getElem_toArray, List.getElem_cons_succ, List.getElem_cons_zero, Act.put, List.setIfInBounds_toArray, List.set]
  refine up_take (i := 9) (v := .bool true) rfl (by kernel_rfl) (by kernel_rfl) (fun _ _ _ h => h) (Or.inl ⟨by rfl, ?_⟩) hS5 ?_
  · intro w' _; go_simp
  try simp only [List.getElem_toArray, List.getElem_cons_succ, List.getElem_cons_zero, Act.put, List.setIfInBounds_toArray, List.set]
  refine up_tail ?_
  refine up_last 10 _ rfl (by kernel_rfl) (by decide) (by rfl) (fun K hK => ?_)
  go_simp
  refine hK _ _ ?_
  clear hK K
  try simp only [List.getElem_toArray, List.getElem_cons_succ, List.getElem_cons_zero, Act.put, List.setIfInBounds_toArray, List.set]
  refine up_done (by kernel_rfl) ?_ _
  have HB5 := Lib.hid hB5
  clear hB5 hS5 hB4 hS4 hb4 hB3 hS3 hE3 hBd hSd Hdr Hrdr
  go_wp2
  go_ret
  exact HB5.out.fin (by omega)
end
end Go.Proofs.YtjkkbceddbkejaaGreatDoor

namespace Go.Proofs.YtjkkbceddbkejaaGreatDoor
open Go.RowKit Sh Go.Maps Go.Extern.Stop Go.Stop Go.Extern
section
variable {m sb bb xd first n gd g : Nat} {hs : List (List UInt8)} {bl : Nat → List UInt8} {w w0 : World} {b : Bk} {T : List (Nat × Obj)}
variable {s r : Nat}
set_option maxRecDepth 100000 in
set_option maxHeartbeats 16000000 in
theorem both2_no (h : OwnX b gd g T w0 w) (hL : Laid w0) (hD : De b first n hs bl) (hf : first ≤ 2000) (hn : n ≤ 64) (hR : RfT (xd, depO g first n) m sb bb (4 * n) T (stN hs) bl) (ht : b.txn = []) (sl : Int) (wh : UInt8) (hno : (getOf hs bl n sl).2 ≠ 0) :
    Calls Tryz.prog 29 #[.pointer (some ⟨g, 0, none⟩), .pointer (some ⟨xd, 0, none⟩), .pointer (some ⟨m, 0, none⟩), callV 2 sl wh] w (BothP b gd g xd first n m sb bb bl w0) := by
  obtain ⟨pv, Hpv⟩ : ∃ pv : List Value, Hid (pv = [.int .i64 2, .int .i64 sl, cu8 wh]) := ⟨_, rfl⟩
  have hpV : callV 2 sl wh = .agg pv.toArray := by rw [Hpv.out]; rfl
  rw [hpV]
  have hba : Below w.heap.size w (w.alloc (.cells pv.toArray 69)) := (Below.refl _ _).alloc (Nat.le_refl _) _
  have hx1 : (w.alloc (.cells pv.toArray 69)).heap[w.heap.size]? = some (.cells pv.toArray 69 (0, 0)) := heap_alloc_new w _
  have hX1 := h.holds hba (Nat.le_refl _) hx1
  have hlt := (hR.get h).lt
  clear h hpV
  go_enter Tryz.func29, Tryz.ntmps29
  go_upto_region 1 with (fail)
  generalize w.alloc (.cells pv.toArray 69) = wa at hx1 hX1 hba ⊢
  obtain ⟨y, hy⟩ : ∃ y, w.heap.size = y := ⟨_, rfl⟩
  rw [hy] at hx1 hX1 hlt
  try rw [hy]
  have Hck : Hid (∀ W : World, W.heap[y]? = some (Obj.cells pv.toArray 69 (0, 0)) → W.cell? ⟨y, 1, none⟩ = some (.int .i64 sl)) := Lib.hid (fun W hW => by rw [cell_of_row W y 1 _ _ _ hW, Hpv.out]; rfl)
  have ck0 : wa.cell? ⟨y, 0, none⟩ = some (.int .i64 2) := by rw [cell_of_row wa y 0 _ _ _ hx1, Hpv.out]; rfl
  have ck1 := Hck.out wa hx1
  have hmem : (xd, depO g first n) ∈ (y, Obj.cells pv.toArray 69 (0, 0)) :: T := List.mem_cons_of_mem _ hR.mem
  have hhs := has_get (hs := hs) (n := n) bl sl
  have hhas := rhas_any (hR.get hX1.drop) (by omega) sl
  rw [hhs] at hhas
  have hmv := hX1.dMove_no hmem hD hf hn sl hno
  obtain ⟨e, he⟩ : ∃ e, (getOf hs bl n sl).2 = e := ⟨_, rfl⟩
  rw [he] at hmv hhas hno
  have hnb : (e == 0) = false := by simpa using hno
  have Hhas := Lib.hid hhas; have Hmv := Lib.hid hmv
  have HD := Lib.hid hD; have HR := Lib.hid hR; have Ht := Lib.hid ht; have HL := Lib.hid hL
  clear hhas hmv hhs he hmem hX1 hx1 hba hy hlt hR ht hL hD Hck
  go_wp2_with (first
    | (go_at_call 61; refine Hhas.out.mono ?_; rintro e9 w9 ⟨rfl, rfl⟩)
    | (go_at_call 11; refine Hmv.out.mono ?_))
  rintro e' w3 ⟨v3, rfl, hE3, hX3⟩
  have Hnum := Lib.hid (num_any e v3 w3 (HL.out.below HL.out.pos hX3.bel) hE3)
  have HX3 := Lib.hid hX3.drop
  clear hE3 hX3 Hmv Hhas ck0 ck1
  go_wp2_with (first
    | (go_at_call 12; refine Hnum.out.mono ?_))
  rintro e5 w5 ⟨rfl, hb5⟩
  have HX5 := Lib.hid (HX3.out.below hb5)
  clear hb5 Hnum HX3
  go_wp2
  go_ret
  exact BothP.same HX5.out HD.out HR.out Ht.out
set_option maxRecDepth 100000 in
set_option maxHeartbeats 16000000 in
theorem both2_full (h : OwnX b gd g T w0 w) (hL : Laid w0) (hD : De b first n hs bl) (hf : first ≤ 2000) (hn : n ≤ 64) (hR : RfT (xd, depO g first n) m sb bb (4 * n) T (stN hs) bl) (ht : b.txn = []) (wh : UInt8) (hs4 : s < 4 * n) (hlv : stS hs s = 1) (hr : roomL ((s / 4 : Nat) : Int) hs = none) :
    Calls Tryz.prog 29 #[.pointer (some ⟨g, 0, none⟩), .pointer (some ⟨xd, 0, none⟩), .pointer (some ⟨m, 0, none⟩), callV 2 (s : Nat) wh] w (BothP b gd g xd first n m sb bb bl w0) := by
  obtain ⟨pv, Hpv⟩ : ∃ pv : List Value, Hid (pv = [.int .i64 2, .int .i64 (s : Nat), cu8 wh]) := ⟨_, rfl⟩
  have hpV : callV 2 (s : Nat) wh = .agg pv.toArray := by rw [Hpv.out]; rfl
  rw [hpV]
  have hba : Below w.heap.size w (w.alloc (.cells pv.toArray 69)) := (Below.refl _ _).alloc (Nat.le_refl _) _
  have hx1 : (w.alloc (.cells pv.toArray 69)).heap[w.heap.size]? = some (.cells pv.toArray 69 (0, 0)) := heap_alloc_new w _
  have hX1 := h.holds hba (Nat.le_refl _) hx1
  have hlt := (hR.get h).lt
  clear h hpV
  go_enter Tryz.func29, Tryz.ntmps29
  go_upto_region 1 with (fail)
  generalize w.alloc (.cells pv.toArray 69) = wa at hx1 hX1 hba ⊢
  obtain ⟨y, hy⟩ : ∃ y, w.heap.size = y := ⟨_, rfl⟩
  rw [hy] at hx1 hX1 hlt
  try rw [hy]
  have Hck : Hid (∀ W : World, W.heap[y]? = some (Obj.cells pv.toArray 69 (0, 0)) → W.cell? ⟨y, 1, none⟩ = some (.int .i64 (s : Nat))) := Lib.hid (fun W hW => by rw [cell_of_row W y 1 _ _ _ hW, Hpv.out]; rfl)
  have ck0 : wa.cell? ⟨y, 0, none⟩ = some (.int .i64 2) := by rw [cell_of_row wa y 0 _ _ _ hx1, Hpv.out]; rfl
  have ck1 := Hck.out wa hx1
  have hmem : (xd, depO g first n) ∈ (y, Obj.cells pv.toArray 69 (0, 0)) :: T := List.mem_cons_of_mem _ hR.mem
  have hhs := has_get (hs := hs) (n := n) bl ((s : Nat) : Int)
  have hhas := rhas_any (hR.get hX1.drop) (by omega) ((s : Nat) : Int)
  rw [hhs] at hhas
  have hg0 : (getOf hs bl n ((s : Nat) : Int)).2 = 0 := by rw [getOf_live hs4 hlv]
  rw [hg0] at hhas
  have hqs := quo4n s
  have hrm := rroom_any (hR.get hX1.drop) (by omega) ((s / 4 : Nat) : Int) (roomL ((s / 4 : Nat) : Int) hs).isSome (room_ref hD.hd hD.len _)
  rw [hr] at hrm
  have hrm : Calls Tryz.prog 57 #[.pointer (some ⟨m, 0, none⟩), .int .i64 ((s / 4 : Nat) : Int)] wa (SameP (.bool false) wa) := hrm
  have hmv := hX1.dMove_full hmem hD hf hn hs4 hlv hr
  obtain ⟨P, hP⟩ : ∃ P, s / 4 = P := ⟨_, rfl⟩
  have hwP : wrap64 (P : Int) = (P : Int) := IntWalk.wrap64_in _ (by omega)
  rw [hP] at hqs hrm
  have Hhas := Lib.hid hhas; have Hmv := Lib.hid hmv; have Hrm := Lib.hid hrm
  have HD := Lib.hid hD; have HR := Lib.hid hR; have Ht := Lib.hid ht; have HL := Lib.hid hL
  clear hhas hmv hrm hhs hmem hX1 hx1 hba hy hlt hR ht hL hD Hck hP hr hg0
  go_wp2_with (first
    | (go_at_call 61; refine Hhas.out.mono ?_; rintro e9 w9 ⟨rfl, rfl⟩)
    | (go_at_call 57; refine Hrm.out.mono ?_; rintro e9 w9 ⟨rfl, rfl⟩)
    | (go_at_call 11; refine Hmv.out.mono ?_))
  rintro e' w3 ⟨v3, rfl, hE3, hX3⟩
  have Hu := Lib.hid (hX3.undoE hE3)
  clear hE3 hX3 Hmv Hhas Hrm ck0 ck1
  go_wp2_with (first
    | (go_at_call 24; refine Hu.out.mono ?_))
  rintro e4 w4 ⟨rfl, hX4, hE4⟩
  rw [txn_same Ht.out] at hX4
  have Hnum := Lib.hid (num_any 20 _ w4 (HL.out.below HL.out.pos hX4.bel) hE4)
  have HX4 := Lib.hid hX4.drop
  clear hE4 hX4 Hu
  go_wp2_with (first
    | (go_at_call 12; refine Hnum.out.mono ?_))
  rintro e5 w5 ⟨rfl, hb5⟩
  have HX5 := Lib.hid (HX4.out.below hb5)
  clear hb5 Hnum HX4
  go_wp2
  go_ret
  exact BothP.same HX5.out HD.out HR.out Ht.out
set_option maxRecDepth 100000 in
set_option maxHeartbeats 16000000 in
theorem both2_some (h : OwnX b gd g T w0 w) (hL : Laid w0) (hD : De b first n hs bl) (hf : first ≤ 2000) (hn : n ≤ 64) (hR : RfT (xd, depO g first n) m sb bb (4 * n) T (stN hs) bl) (ht : b.txn = []) (wh : UInt8) (hs4 : s < 4 * n) (hlv : stS hs s = 1) (hr : roomL ((s / 4 : Nat) : Int) hs = some r) :
    Calls Tryz.prog 29 #[.pointer (some ⟨g, 0, none⟩), .pointer (some ⟨xd, 0, none⟩), .pointer (some ⟨m, 0, none⟩), callV 2 (s : Nat) wh] w (BothP b gd g xd first n m sb bb bl w0) := by
  obtain ⟨pv, Hpv⟩ : ∃ pv : List Value, Hid (pv = [.int .i64 2, .int .i64 (s : Nat), cu8 wh]) := ⟨_, rfl⟩
  have hpV : callV 2 (s : Nat) wh = .agg pv.toArray := by rw [Hpv.out]; rfl
  rw [hpV]
  have hba : Below w.heap.size w (w.alloc (.cells pv.toArray 69)) := (Below.refl _ _).alloc (Nat.le_refl _) _
  have hx1 : (w.alloc (.cells pv.toArray 69)).heap[w.heap.size]? = some (.cells pv.toArray 69 (0, 0)) := heap_alloc_new w _
  have hX1 := h.holds hba (Nat.le_refl _) hx1
  have hlt := (hR.get h).lt
  clear h hpV
  go_enter Tryz.func29, Tryz.ntmps29
  go_upto_region 1 with (fail)
  generalize w.alloc (.cells pv.toArray 69) = wa at hx1 hX1 hba ⊢
  obtain ⟨y, hy⟩ : ∃ y, w.heap.size = y := ⟨_, rfl⟩
  rw [hy] at hx1 hX1 hlt
  try rw [hy]
  have Hck : Hid (∀ W : World, W.heap[y]? = some (Obj.cells pv.toArray 69 (0, 0)) → W.cell? ⟨y, 1, none⟩ = some (.int .i64 (s : Nat))) := Lib.hid (fun W hW => by rw [cell_of_row W y 1 _ _ _ hW, Hpv.out]; rfl)
  have ck0 : wa.cell? ⟨y, 0, none⟩ = some (.int .i64 2) := by rw [cell_of_row wa y 0 _ _ _ hx1, Hpv.out]; rfl
  have ck1 := Hck.out wa hx1
  have hmem : (xd, depO g first n) ∈ (y, Obj.cells pv.toArray 69 (0, 0)) :: T := List.mem_cons_of_mem _ hR.mem
  have hhs := has_get (hs := hs) (n := n) bl ((s : Nat) : Int)
  have hhas := rhas_any (hR.get hX1.drop) (by omega) ((s : Nat) : Int)
  rw [hhs] at hhas
  have hg0 : (getOf hs bl n ((s : Nat) : Int)).2 = 0 := by rw [getOf_live hs4 hlv]
  rw [hg0] at hhas
  have hqs := quo4n s
  have hrm := rroom_any (hR.get hX1.drop) (by omega) ((s / 4 : Nat) : Int) (roomL ((s / 4 : Nat) : Int) hs).isSome (room_ref hD.hd hD.len _)
  rw [hr] at hrm
  have hrm : Calls Tryz.prog 57 #[.pointer (some ⟨m, 0, none⟩), .int .i64 ((s / 4 : Nat) : Int)] wa (SameP (.bool true) wa) := hrm
  obtain ⟨t, hM, hmv⟩ := hX1.dMove hmem hD hf hn hs4 hlv hr (by rw [ht]; simp)
  have hl3 : t.length ≤ 3 := by have := hM.tx.len; rw [ht] at this; simpa using this
  obtain ⟨hr4, hbut, hfr⟩ := room_some hD.hd hr
  have h0s : stN hs r = 0 := by unfold stN; rw [free_not0 hD.hd hr4 hfr]; rfl
  have hrM : r < 4 * n := by have := hD.len; omega
  have hsr : s ≠ r := fun e => by rw [← e] at h0s; unfold stN at h0s; rw [hlv] at h0s; exact absurd h0s (by decide)
  have H1 : ∀ x ∈ markL hs r 1, Hd x := markL_hd hD.hd hr4 (by simp)
  have hl1 : (markL hs r 1).length = n := by rw [markL_len]; exact hD.len
  have hlv1 : stN (markL hs r 1) s = 1 := by unfold stN; rw [st_live_other hD.hd hr4 hsr, hlv]; rfl
  have hdn : dropN (stN (markL hs r 1)) (4 * n) s = stN (markL (markL hs r 1) s 2) := by rw [stN_drop H1 hl1 (by omega)]; rfl
  have hbl64 : ∀ i, i < 4 * n → (bl i).length = 64 := fun i hi => hD.bl_len hi
  have hmay := may_ref hD.hd hD.len hr
  obtain ⟨pz, Hpz⟩ : ∃ pz : List Value, Hid (pz = (bl s).map cu8) := ⟨_, rfl⟩
  have hpV : pageV (bl s) = .agg pz.toArray := by rw [Hpz.out]; rfl
  have hpz64 : Hid (pz.length = 64) := by rw [Hpz.out]; show ((bl s).map cu8).length = 64; rw [List.length_map]; exact hbl64 s hs4
  have HB3 := Lib.hid (fun W (hX : OwnX { b with txn := t } gd g ((y, Obj.cells pv.toArray 69 (0, 0)) :: T) w0 W) => (show BX { b with txn := t } gd g xd first n m sb bb (stN hs) bl y (Obj.cells pv.toArray 69 (0, 0)) w0 W from ⟨T, hX, hR, by omega, by omega⟩))
  have Hmay := Lib.hid (fun W (hR' : RfAt m sb bb (4 * n) (stN hs) bl W) => rmay_any hR' (by omega) ((s / 4 : Nat) : Int) r hrM h0s hbut hmay)
  have Hput := Lib.hid (fun W (hR' : RfAt m sb bb (4 * n) (stN hs) bl W) => rput_any hR' (by omega) hbl64 hrM (hbl64 s hs4))
  rw [hpV, ← stN_put_set hD.hd hr4] at Hput
  have Hdrop := Lib.hid (fun W (hR' : RfAt m sb bb (4 * n) (stN (markL hs r 1)) (updP bl r (bl s)) W) => rdrop_any hR' (by omega) (by omega) hs4 hlv1)
  rw [hdn] at Hdrop
  have Hrg := Lib.hid (fun W (hR' : RfAt m sb bb (4 * n) (stN hs) bl W) => show W.rangeAt bb (s * 64) pz by rw [Hpz.out]; exact hR'.pg s hs4)
  obtain ⟨M, hMe⟩ : ∃ M, 4 * n = M := ⟨_, rfl⟩
  have Hc1 : Hid (∀ W, RfAt m sb bb (4 * n) (stN hs) bl W → W.cell? ⟨m, 1, none⟩ = some (.slice (some ⟨bb, 0, none⟩) M M)) := Lib.hid (fun W hR' => by rw [← hMe]; exact hR'.c1)
  have hsM : s < M := by omega
  have hsM' : (s : Int) < (M : Int) := by omega
  obtain ⟨P, hP⟩ : ∃ P, s / 4 = P := ⟨_, rfl⟩
  have hwP : wrap64 (P : Int) = (P : Int) := IntWalk.wrap64_in _ (by omega)
  rw [hP] at hqs hrm Hmay
  have Hhas := Lib.hid hhas; have Hmv := Lib.hid hmv; have Hrm := Lib.hid hrm
  have HM := Lib.hid hM; have Ht := Lib.hid ht
  clear hhas hmv hrm hhs hmem hX1 hx1 hba hy hlt hR ht hL hD hP hr hg0 hM hr4 hbut hfr h0s H1 hl1 hlv1 hdn hbl64 hmay hpV hMe
  go_wp2_with (first
    | (go_at_call 61; refine Hhas.out.mono ?_; rintro e9 w9 ⟨rfl, rfl⟩)
    | (go_at_call 57; refine Hrm.out.mono ?_; rintro e9 w9 ⟨rfl, rfl⟩)
    | (go_at_call 11; refine Hmv.out.mono ?_))
  rintro e' w3 ⟨v3, rfl, hE3, hX3⟩
  obtain rfl := ErrV.zero hE3
  have hB3 := HB3.out w3 hX3
  have ck1 := Hck.out w3 hB3.at_
  have Hm3 := Lib.hid (Hmay.out w3 hB3.rf)
  have HB := Lib.hid hB3
  clear hE3 hX3 hB3 HB3 Hmv Hhas Hrm Hmay ck0
  go_upto_region 26 with (go_at_call 58; refine Hm3.out.mono ?_; rintro e9 w9 ⟨rfl, rfl⟩)
  clear Hm3
  have hB4 : BX { b with txn := t } gd g xd first n m sb bb (stN hs) bl y (Obj.cells pv.toArray 69 (0, 0)) w0 w9 := HB.out
  clear HB ck1
  refine wp_region_up 10 (fun W => Below w9.heap.size w9 W) (by kernel_rfl) ?_
  have hb0 : Below w9.heap.size w9 { w9 with drawn := w9.drawn + 1 } := (Below.refl w9.heap.size w9).drew
  obtain ⟨wd, hdr⟩ : ∃ wd : World, ({ w9 with drawn := w9.drawn + 1 } : World) = wd := ⟨_, rfl⟩
  rw [hdr] at hb0 ⊢
  clear hdr
  refine up_take (i := 0) (v := .pointer (some ⟨m, 0, none⟩)) rfl (by kernel_rfl) (by kernel_rfl) (fun _ _ _ h => h) (Or.inl ⟨by rfl, ?_⟩) hb0 ?_
  · intro w' _; go_simp
  try simp only [List.getElem_toArray, List.getElem_cons_succ, List.getElem_cons_zero, Act.put, List.setIfInBounds_toArray, List.set]
  refine up_take (i := 1) (v := .int .i64 (r : Nat)) rfl (by kernel_rfl) (by kernel_rfl) (fun _ _ _ h => h) (Or.inl ⟨by rfl, ?_⟩) hb0 ?_
  · intro w' _; go_simp
  try simp only [List.getElem_toArray, List.getElem_cons_succ, List.getElem_cons_zero, Act.put, List.setIfInBounds_toArray, List.set]
  refine up_take (i := 2) (v := .pointer (some ⟨m, 0, none⟩)) rfl (by kernel_rfl) (by kernel_rfl) (fun _ _ _ h => h) (Or.inl ⟨by rfl, ?_⟩) hb0 ?_
  · intro w' _; go_simp
  try simp only [List.getElem_toArray, List.getElem_cons_succ, List.getElem_cons_zero, Act.put, List.setIfInBounds_toArray, List.set]
  refine up_take (i := 3) (v := .pointer (some ⟨m, 0, none⟩)) rfl (by kernel_rfl) (by kernel_rfl) (fun _ _ _ h => h) (Or.inl ⟨by rfl, ?_⟩) hb0 ?_
  · intro w' _; go_simp
  try simp only [List.getElem_toArray, List.getElem_cons_succ, List.getElem_cons_zero, Act.put, List.setIfInBounds_toArray, List.set]
  refine up_take (i := 4) (v := .pointer (some ⟨m, 1, none⟩)) rfl (by kernel_rfl) (by kernel_rfl) (fun _ _ _ h => h) (Or.inl ⟨by rfl, ?_⟩) hb0 ?_
  · intro w' _; go_simp
  try simp only [List.getElem_toArray, List.getElem_cons_succ, List.getElem_cons_zero, Act.put, List.setIfInBounds_toArray, List.set]
  refine up_take (i := 5) (v := .slice (some ⟨bb, 0, none⟩) M M) rfl (by kernel_rfl) (by kernel_rfl) (fun _ _ _ h => h) (Or.inl ⟨by rfl, ?_⟩) hb0 ?_
  · intro w' hS'
    have c1 := Hc1.out w' (hB4.below hS').rf
    clear hS'
    go_simp
  try simp only [List.getElem_toArray, List.getElem_cons_succ, List.getElem_cons_zero, Act.put, List.setIfInBounds_toArray, List.set]
  refine up_take (i := 6) (v := .pointer (some ⟨y, 1, none⟩)) rfl (by kernel_rfl) (by kernel_rfl) (fun _ _ _ h => h) (Or.inl ⟨by rfl, ?_⟩) hb0 ?_
  · intro w' _; go_simp
  try simp only [List.getElem_toArray, List.getElem_cons_succ, List.getElem_cons_zero, Act.put, List.setIfInBounds_toArray, List.set]
  refine up_take (i := 7) (v := .int .i64 (s : Nat)) rfl (by kernel_rfl) (by kernel_rfl) (fun _ _ _ h => h) (Or.inl ⟨by rfl, ?_⟩) hb0 ?_
  · intro w' hS'
    have c1 := Hck.out w' (hB4.below hS').at_
    clear hS'
    go_simp
  try simp only [List.getElem_toArray, List.getElem_cons_succ, List.getElem_cons_zero, Act.put, List.setIfInBounds_toArray, List.set]
  refine up_take (i := 8) (v := .pointer (some ⟨bb, s * 64, none⟩)) rfl (by kernel_rfl) (by kernel_rfl) (fun _ _ _ h => h) (Or.inl ⟨by rfl, ?_⟩) hb0 ?_
  · intro w' _; go_simp
  try simp only [List.getElem_toArray, List.getElem_cons_succ, List.getElem_cons_zero, Act.put, List.setIfInBounds_toArray, List.set]
  refine up_take (i := 9) (v := .agg pz.toArray) rfl (by kernel_rfl) (by kernel_rfl) (fun _ _ _ h => h) (Or.inl ⟨by rfl, ?_⟩) hb0 ?_
  · intro w' hS'; exact exec_load _ _ 33 _ rfl bb (s * 64) rfl _ (run_loadAt_mid w' bb (s * 64) 33 pz _ (Hrg.out w' (hB4.below hS').rf) Tryz.underlying33 rfl (by rw [hpz64.out]; exact info64))
  try simp only [List.getElem_toArray, List.getElem_cons_succ, List.getElem_cons_zero, Act.put, List.setIfInBounds_toArray, List.set]
  refine up_tail ?_
  refine up_last 10 _ rfl (by kernel_rfl) (by decide) (by rfl) (fun K hK => ?_)
  go_simp
  refine (Hput.out _ (hB4.below hb0).rf).mono ?_
  rintro e5 w5 ⟨rfl, hT5⟩
  refine hK _ _ ?_
  clear hK K
  try simp only [List.getElem_toArray, List.getElem_cons_succ, List.getElem_cons_zero, Act.put, List.setIfInBounds_toArray, List.set]
  refine up_done (by kernel_rfl) ?_ _
  have hB5 := (hB4.below hb0).turn hT5
  have ck1 := Hck.out w5 hB5.at_
  have Hd5 := Lib.hid (Hdrop.out w5 hB5.rf)
  have HB5 := Lib.hid hB5
  clear hB5 hT5 hB4 hb0 Hput Hdrop Hrg Hc1 Hck
  go_wp2_with (first
    | (go_at_call 60; refine Hd5.out.mono ?_))
  rintro e6 w6 ⟨rfl, hT6⟩
  have HB6 := Lib.hid (HB5.out.turn hT6)
  clear hT6 HB5 Hd5 ck1
  go_wp2
  go_ret
  obtain ⟨T6, hX6, hR6, _⟩ := HB6.out
  exact ⟨rfl, t, _, _, T6, hX6.drop, HM.out.de, hR6, by omega, HM.out.tx.inr Ht.out, fun h9 => ⟨HM.out.nine (h9 s hs4) (by rw [Ht.out]; exact n9_nil), bl9_upd h9 (h9 s hs4)⟩⟩
theorem both2_any (h : OwnX b gd g T w0 w) (hL : Laid w0) (hD : De b first n hs bl) (hf : first ≤ 2000) (hn : n ≤ 64) (hR : RfT (xd, depO g first n) m sb bb (4 * n) T (stN hs) bl) (ht : b.txn = []) (sl : Int) (wh : UInt8) :
    Calls Tryz.prog 29 #[.pointer (some ⟨g, 0, none⟩), .pointer (some ⟨xd, 0, none⟩), .pointer (some ⟨m, 0, none⟩), callV 2 sl wh] w (BothP b gd g xd first n m sb bb bl w0) := by
  by_cases h0 : (getOf hs bl n sl).2 = 0
  · unfold getOf at h0
    split at h0
    · exact absurd h0 (by decide)
    · rename_i hi
      split at h0
      · rename_i hl
        obtain ⟨s, rfl⟩ : ∃ s : Nat, sl = (s : Int) := ⟨sl.toNat, by omega⟩
        rw [Int.toNat_natCast] at hl
        cases hr : roomL ((s / 4 : Nat) : Int) hs with
        | none => exact both2_full h hL hD hf hn hR ht wh (by omega) hl hr
        | some r => exact both2_some h hL hD hf hn hR ht wh (by omega) hl hr
      · exact absurd h0 (by decide)
  · exact both2_no h hL hD hf hn hR ht sl wh h0
end
end Go.Proofs.YtjkkbceddbkejaaGreatDoor
