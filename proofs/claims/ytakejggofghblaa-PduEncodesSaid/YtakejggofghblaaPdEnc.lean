/-
  pdu.Encode.
-/
import Derived.Test.YtakejggofghblaaPdMay
set_option linter.unusedSimpArgs false
set_option linter.unusedVariables false
namespace Go.Proofs.Ytakejggofghblaa
open Go.RowKit Sh Cr Pd

theorem Own.rebase {w w2 w3 : World} {v : Value} {n : Nat} {l : List UInt8} (h : Own w2 v n l w3) (hb : Below w.heap.size w w2) : Own w v n l w3 :=
  ⟨hb.trans (h.below.mono hb.size), by
    refine ⟨h.own.1, h.own.2.imp id fun ⟨g, cap, cur, h1, h2, h3⟩ => ⟨g, cap, cur, h1, Nat.le_trans hb.size h2, h3⟩⟩⟩
/-- What is kept while a PDU is encoded: its box; what was there. -/
structure EnI (w : World) (p : P) (av dv : Value) (W : World) : Prop where
  hx : BxP W w.heap.size p av dv
  hb : Below w.heap.size w W
theorem EnI.next {w W W' : World} {p : P} {av dv : Value} (h : EnI w p av dv W) (hb : Below W.heap.size W W') : EnI w p av dv W' := ⟨h.hx.keep hb h.hx.lt, h.hb.trans (hb.mono h.hb.size)⟩
theorem EnI.drew {w W : World} {p : P} {av dv : Value} (h : EnI w p av dv W) : EnI w p av dv W.drew := ⟨h.hx, h.hb.drew⟩
/-- What the drawn region keeps. -/
def EnS (w : World) (p : P) (av dv : Value) (tp : Option Addr) (W : World) : Prop := EnI w p av dv W ∧ TabOk W.heap.size W tp
theorem EnS.next {w W W' : World} {p : P} {av dv : Value} {tp : Option Addr} (h : EnS w p av dv tp W) (hb : Below W.heap.size W W') : EnS w p av dv tp W' := ⟨h.1.next hb, (h.2.below hb).mono hb.size⟩
theorem EnS.drew {w W : World} {p : P} {av dv : Value} {tp : Option Addr} (h : EnS w p av dv tp W) : EnS w p av dv tp W.drew := ⟨h.1.drew, h.2⟩
theorem row_bytes {w : World} {g : Nat} {l : List UInt8} {t : TypeId} (h : w.heap[g]? = some (.cells (l.map cu8).toArray t (0, 0))) (hm : l.length ≤ maxLen) : Bytes w.heap.size w (some ⟨g, 0, none⟩) l.length l.length l :=
  ⟨rfl, Nat.le_refl _, hm, .inr ⟨g, 0, rfl, (Array.getElem?_eq_some_iff.1 h).1, fun j hj => by rw [Nat.zero_add]; exact row_cell h hj⟩⟩
theorem made_any (k : Nat) (hk : k < 4) (w : World) : (Instr.makeSlice 23 (.int .i64 (k : Int)) (.int .i64 (k : Int))).run Try.prog w = .ok (.slice (some ⟨w.heap.size, 0, none⟩) k k) (w.alloc (.cells ((List.replicate k (0 : UInt8)).map cu8).toArray 5)) := by
  rcases (by omega : k = 0 ∨ k = 1 ∨ k = 2 ∨ k = 3) with rfl | rfl | rfl | rfl <;> kernel_rfl
theorem le4_len (x : UInt32) : (le4 x).length = 4 := rfl
theorem padN_lt (n : Nat) : padN n < 4 := by unfold padN; omega
def EncP (w : World) (l : List UInt8) (e : Ending) (w' : World) : Prop := ∃ v, e = .returned v ∧ Own w v l.length l w'

set_option maxRecDepth 100000 in
set_option maxHeartbeats 4000000 in
theorem enc_no (p : P) (hm : mayB p = false) (hk : p.Ok) (ap dp : Option Addr) (ac dc : Nat) (h d : Bool) (w : World) (ha : p.ahs.length ≤ 9223372036854775807) (hd : p.data.length ≤ 9223372036854775807) :
    Calls Try.prog 11 #[.agg (p.cs (.slice ap p.ahs.length ac) (.slice dp p.data.length dc)), .bool h, .bool d] w (OwnP w (encB p h d)) := by
  have HI : Hid (EnI w p (.slice ap p.ahs.length ac) (.slice dp p.data.length dc) (w.alloc (.cells (p.cs (.slice ap p.ahs.length ac) (.slice dp p.data.length dc)) 28))) := Lib.hid ⟨BxP.new w, (Below.refl _ w).alloc (Nat.le_refl _) _⟩
  have hz := p.cs_size (.slice ap p.ahs.length ac) (.slice dp p.data.length dc)
  have HLD := Lib.hid (load_pdu HI.out.hx hz)
  have HM := Lib.hid (fun W => may_any p ap dp ac dc ha hd hk W)
  have HE := Lib.hid (show encB p h d = [] by unfold encB; rw [hm]; rfl)
  rw [hm] at HM
  generalize p.cs (.slice ap p.ahs.length ac) (.slice dp p.data.length dc) = cs at HI HLD HM hz ⊢
  clear hm ha hd
  go_enter Try.func11, Try.ntmps11
  go_wp2_with (first
    | (refine wpList_val (by rfl) (exec_load _ _ 28 _ rfl w.heap.size 0 rfl cs HLD.out) ?_; clear HLD)
    | (go_at_call 13; refine (HM.out _).mono ?_; rintro e w2 ⟨rfl, hb2⟩))
  go_ret
  exact ⟨_, rfl, by rw [HE.out]; exact Own.start (HI.out.next hb2).hb⟩

set_option maxRecDepth 100000 in
set_option maxHeartbeats 8000000 in
theorem enc_yes (p : P) (hm : mayB p = true) (hk : p.Ok) (ap dp : Option Addr) (ac dc : Nat) (h d : Bool) (w : World) (hA : Bytes w.heap.size w ap p.ahs.length ac p.ahs) (hD : Bytes w.heap.size w dp p.data.length dc p.data) :
    Calls Try.prog 11 #[.agg (p.cs (.slice ap p.ahs.length ac) (.slice dp p.data.length dc)), .bool h, .bool d] w (OwnP w (encB p h d)) := by
  have hm' := (mayB_iff p).1 hm
  obtain ⟨o1, o2, a1, a2, d1⟩ := hm'
  obtain ⟨q, hq⟩ : ∃ q : Nat, p.op = (q : Int) := ⟨p.op.toNat, by omega⟩
  have HI : Hid (EnI w p (.slice ap p.ahs.length ac) (.slice dp p.data.length dc) (w.alloc (.cells (p.cs (.slice ap p.ahs.length ac) (.slice dp p.data.length dc)) 28))) := Lib.hid ⟨BxP.new w, (Below.refl _ w).alloc (Nat.le_refl _) _⟩
  have hz := p.cs_size (.slice ap p.ahs.length ac) (.slice dp p.data.length dc)
  have HM := Lib.hid (fun W => may_any p ap dp ac dc (by omega) (by omega) hk W)
  have HH := Lib.hid (fun W => head_any p q hq (by omega) hk ap dp ac dc (by omega) (by omega) W)
  have HE := Lib.hid (show encB p h d = closed h (hdr p ++ p.ahs) ++ closed (d && decide (0 < p.data.length)) (p.data ++ List.replicate (padN p.data.length) 0) by unfold encB; rw [hm]; rfl)
  have HA := Lib.hid hA; have HD := Lib.hid hD; clear hA hD
  rw [hm] at HM
  obtain ⟨cs, Hcs⟩ : ∃ cs, Hid (p.cs (.slice ap p.ahs.length ac) (.slice dp p.data.length dc) = cs) := ⟨_, Lib.hid rfl⟩
  have HLD : ∀ W, EnI w p (.slice ap p.ahs.length ac) (.slice dp p.data.length dc) W → (Instr.loadAt 28 (.pointer (some ⟨w.heap.size, 0, none⟩))).run Try.prog W = .ok (.agg cs) W := fun W hW => by rw [← Hcs.out]; exact load_pdu hW.hx hz
  have HLD := Lib.hid HLD
  rw [Hcs.out] at HI HM HH hz ⊢
  obtain ⟨al, hal⟩ : ∃ al, Hid (p.ahs.length = al) := ⟨_, Lib.hid rfl⟩
  obtain ⟨dl, hdl⟩ : ∃ dl, Hid (p.data.length = dl) := ⟨_, Lib.hid rfl⟩
  rw [hal.out] at HI HA HLD a1 a2
  rw [hdl.out] at HI HD HE HLD d1
  have HQ := Lib.hid hq
  clear hm o1 o2 hq
  have hld := HLD.out _ HI.out
  obtain ⟨dd, hdd⟩ : ∃ dd, Hid ((d && decide (0 < dl)) = dd) := ⟨_, Lib.hid rfl⟩
  rw [hdd.out] at HE
  go_enter Try.func11, Try.ntmps11
  go_upto_region 3 with (first
    | (refine wpList_val (by rfl) (exec_load _ _ 28 _ rfl w.heap.size 0 rfl cs hld) ?_; clear hld)
    | (go_at_call 13; refine (HM.out _).mono ?_; rintro e w2 ⟨rfl, hb2⟩; have HI2 := Lib.hid (HI.out.next hb2); clear HI hb2 HM))
  go_cut [2] (fun s2 wd => s2 = .bool dd ∧ w2 = wd)
  case first =>
    have c15 := HI2.out.hx.cell 15 (.slice dp dl dc) (by rw [← hdl.out]; rfl)
    cases d
    · obtain rfl : dd = false := hdd.out.symm
      go_wp2
      go_meet
      exact ⟨rfl, rfl⟩
    · by_cases h0 : 0 < dl
      · obtain rfl : dd = true := by rw [← hdd.out, decide_eq_true h0]; rfl
        go_wp2
        go_meet
        exact ⟨by first | rfl | rw [decide_eq_true h0], rfl⟩
      · obtain rfl : dl = 0 := by omega
        obtain rfl : dd = false := by rw [← hdd.out]; rfl
        go_wp2
        go_meet
        exact ⟨rfl, rfl⟩
  case rest =>
    obtain ⟨rfl, rfl⟩ := hcut
    clear hdd
    go_upto_region 4 with (fail)
    go_cut [7] (fun s7 wd => ∃ tp, s7 = .pointer tp ∧ Hid (TabOk wd.heap.size wd tp) ∧ Hid (EnI w p (.slice ap al ac) (.slice dp dl dc) wd))
    case first =>
      cases h
      all_goals
        go_wp2_with (go_at_call 20; refine (tableIf_any _).mono ?_; rintro e w3 ⟨tp, rfl, htp, hb3⟩; have HI3 := Lib.hid (HI2.out.next hb3); have HTP := Lib.hid htp; clear htp hb3)
        go_meet
        exact ⟨_, rfl, HTP, HI3⟩
    case rest =>
      obtain ⟨tp, rfl, HTP, HI3⟩ := hcut
      clear HI2
      rename World => w4
      go_upto_region 5 with (fail)
      refine wp_region_held (S := EnS w p (.slice ap al ac) (.slice dp dl dc) tp) (by kernel_rfl) ?_
      change wpAnyH _ _ _ _ _ _ _ _ (World.drew _)
      have hS := EnS.drew (⟨HI3.out, HTP.out⟩ : EnS w p (.slice ap al ac) (.slice dp dl dc) tp w4)
      clear HI3 HTP
      generalize w4.drew = w5 at hS ⊢
      refine wpAnyH_take (i := 0) (v := .bool h) rfl (by kernel_rfl) (by kernel_rfl) (by kernel_rfl) (fun _ _ _ h => h) (Or.inl ⟨by rfl, ?_⟩) hS ?_
      · intro w _; go_simp
      try simp only [List.getElem_toArray, List.getElem_cons_succ, List.getElem_cons_zero, Act.put, List.setIfInBounds_toArray, List.set]
      refine wpAnyH_take (i := 1) (v := .pointer tp) rfl (by kernel_rfl) (by kernel_rfl) (by kernel_rfl) (fun _ _ _ h => h) (Or.inl ⟨by rfl, ?_⟩) hS ?_
      · intro w _; go_simp
      try simp only [List.getElem_toArray, List.getElem_cons_succ, List.getElem_cons_zero, Act.put, List.setIfInBounds_toArray, List.set]
      refine wpAnyH_take (i := 2) (v := .agg cs) rfl (by kernel_rfl) (by kernel_rfl) (by kernel_rfl) (fun _ _ _ h => h) (Or.inl ⟨by rfl, fun W hW => exec_load _ _ 28 _ rfl w.heap.size 0 rfl cs (HLD.out W hW.1)⟩) hS ?_
      try simp only [List.getElem_toArray, List.getElem_cons_succ, List.getElem_cons_zero, Act.put, List.setIfInBounds_toArray, List.set]
      refine wpAnyH_take (i := 4) (v := .pointer (some ⟨w.heap.size, 5, none⟩)) rfl (by kernel_rfl) (by kernel_rfl) (by kernel_rfl) (fun _ _ _ h => h) (Or.inl ⟨by rfl, ?_⟩) hS ?_
      · intro w _; go_simp
      try simp only [List.getElem_toArray, List.getElem_cons_succ, List.getElem_cons_zero, Act.put, List.setIfInBounds_toArray, List.set]
      refine wpAnyH_take (i := 5) (v := .slice ap al ac) rfl (by kernel_rfl) (by kernel_rfl) (by kernel_rfl) (fun _ _ _ h => h) (Or.inl ⟨by rfl, ?_⟩) hS ?_
      · intro w' hw; have c := hw.1.hx.cell 5 (.slice ap al ac) (by rw [← hal.out]; rfl); go_simp
      try simp only [List.getElem_toArray, List.getElem_cons_succ, List.getElem_cons_zero, Act.put, List.setIfInBounds_toArray, List.set]
      refine wpAnyH_one 3 _ rfl (by kernel_rfl) (by rfl) (fun K hK => ?_)
      go_simp
      refine (HH.out _).mono ?_
      rintro e w6 ⟨rfl, hr6, hb6⟩
      have hS6 := hS.next hb6
      have HR6 := Lib.hid hr6; clear hr6
      refine hK _ _ hS6 ?_
      clear hK K
      try simp only [List.getElem_toArray, List.getElem_cons_succ, List.getElem_cons_zero, Act.put, List.setIfInBounds_toArray, List.set]
      refine wpAnyH_one 6 _ rfl (by kernel_rfl) (by rfl) (fun K hK => ?_)
      go_simp
      have hb7 : Below w6.heap.size w6 (w6.alloc (.cells #[.slice (some ⟨w5.heap.size + 1, 0, none⟩) 48 48, .slice ap al ac] 23)) := (Below.refl _ _).alloc (Nat.le_refl _) _
      have hc7 : (w6.alloc (.cells #[.slice (some ⟨w5.heap.size + 1, 0, none⟩) 48 48, .slice ap al ac] 23)).heap[w6.heap.size]? = some (.cells #[.slice (some ⟨w5.heap.size + 1, 0, none⟩) 48 48, .slice ap al ac] 23 (0, 0)) := heap_alloc_new w6 _
      have hS7 := hS6.next hb7
      refine hK _ _ hS7 ?_
      clear hK K
      try simp only [List.getElem_toArray, List.getElem_cons_succ, List.getElem_cons_zero, Act.put, List.setIfInBounds_toArray, List.set]
      have c70 := cell_of_row _ _ 0 _ _ _ hc7
      have c71 := cell_of_row _ _ 1 _ _ _ hc7
      have hl7 := (Array.getElem?_eq_some_iff.1 hc7).1
      have HB7 := Lib.hid (((row_bytes HR6.out (by rw [hdr_length]; unfold maxLen; omega)).below hb7).mono hb7.size)
      rw [hdr_length] at HB7
      have HA7 := Lib.hid ((HA.out.below hS7.1.hb).mono hS7.1.hb.size)
      clear hc7 hb7 hS6 HR6 hb6
      generalize w6.alloc (.cells #[.slice (some ⟨w5.heap.size + 1, 0, none⟩) 48 48, .slice ap al ac] 23) = w7 at hS7 c70 c71 hl7 HB7 HA7 ⊢
      refine wpAnyH_one 7 _ rfl (by kernel_rfl) (by rfl) (fun K hK => ?_)
      go_simp
      refine (concat_any w6.heap.size 0 (some ⟨w5.heap.size + 1, 0, none⟩) ap 48 48 al ac (hdr p) p.ahs w7 c70 c71 hl7 HB7.out HA7.out (by omega) (by omega)).mono ?_
      rintro e w8 ⟨v8, rfl, hO8⟩
      have hS8 := hS7.next hO8.below
      refine hK _ _ hS8 ?_
      clear hK K
      try simp only [List.getElem_toArray, List.getElem_cons_succ, List.getElem_cons_zero, Act.put, List.setIfInBounds_toArray, List.set]
      refine wpAnyH_one 8 _ rfl (by kernel_rfl) (by rfl) (fun K hK => ?_)
      go_simp
      refine (closedIf_any h tp w7 w8 v8 (hdr p ++ p.ahs) hO8 hS8.2 (by rw [List.length_append, hdr_length, hal.out]; omega)).mono ?_
      rintro e w9 ⟨v9, rfl, hO9⟩
      have hS9 := hS7.next hO9.below
      refine hK _ _ hS9 ?_
      clear hK K
      try simp only [List.getElem_toArray, List.getElem_cons_succ, List.getElem_cons_zero, Act.put, List.setIfInBounds_toArray, List.set]
      refine wpAnyH_take (i := 9) (v := v9) rfl (by kernel_rfl) (by kernel_rfl) (by kernel_rfl) (fun _ _ _ h => h) (Or.inl ⟨by rfl, ?_⟩) hS9 ?_
      · intro w _; go_simp
      try simp only [List.getElem_toArray, List.getElem_cons_succ, List.getElem_cons_zero, Act.put, List.setIfInBounds_toArray, List.set]
      refine wpAnyH_done (by kernel_rfl) ?_ _
      have HO9 := Lib.hid (hO9.rebase hS7.1.hb)
      have HS9 := Lib.hid hS9
      clear hO9 hO8 hS8 hS7 hS9 HB7 HA7 c70 c71 hl7 hS HH HA
      obtain ⟨hd9, hhd9⟩ : ∃ l9, Hid (closed h (hdr p ++ p.ahs) = l9) := ⟨_, Lib.hid rfl⟩
      rw [hhd9.out] at HO9 HE
      have c15 := HS9.out.1.hx.cell 15 (.slice dp dl dc) (by rw [← hdl.out]; rfl)
      obtain ⟨kz, hkz⟩ : ∃ kz, Hid (padN dl = kz) := ⟨_, Lib.hid rfl⟩
      rw [hkz.out] at HE
      have hk4 : kz < 4 := by rw [← hkz.out]; exact padN_lt _
      obtain ⟨zc, hzc⟩ : ∃ zc : Array Value, Hid (((List.replicate kz (0 : UInt8)).map cu8).toArray = zc) := ⟨_, Lib.hid rfl⟩
      have hmk : ∀ w : World, (Instr.makeSlice 23 (.int .i64 (kz : Int)) (.int .i64 (kz : Int))).run Try.prog w = .ok (.slice (some ⟨w.heap.size, 0, none⟩) kz kz) (w.alloc (.cells zc 5)) := fun w => by rw [← hzc.out]; exact made_any kz hk4 w
      have k0 : (0 : Int) ≤ kz := by omega
      have HPAD : Hid (∀ W, Calls Try.prog 24 #[.int .i64 (dl : Int)] W fun e w' => e = .returned (.int .i64 (kz : Int)) ∧ W = w') := Lib.hid (fun W => by rw [← hkz.out]; exact padding_any dl (by omega))
      go_upto_region 7 with (go_at_call 24; refine (HPAD.out _).mono ?_; rintro e w' ⟨rfl, rfl⟩)
      have hbm : Below w9.heap.size w9 (w9.alloc (.cells zc 5)) := (Below.refl _ _).alloc (Nat.le_refl _) _
      have hrm : (w9.alloc (.cells zc 5)).heap[w9.heap.size]? = some (.cells ((List.replicate kz (0 : UInt8)).map cu8).toArray 5 (0, 0)) := by rw [hzc.out]; exact heap_alloc_new w9 _
      have HSa := Lib.hid (HS9.out.next hbm)
      have HOa := Lib.hid (HO9.out.keep hbm)
      have HBz := Lib.hid (row_bytes hrm (by rw [List.length_replicate]; unfold maxLen; omega))
      rw [List.length_replicate] at HBz
      clear hmk hrm hbm HS9 HO9 c15 HPAD
      generalize w9.alloc (.cells zc 5) = wa at HSa HOa HBz ⊢
      generalize w9.heap.size = gz at HBz ⊢
      have HDa := Lib.hid ((HD.out.below HSa.out.1.hb).mono HSa.out.1.hb.size)
      have c15 := HSa.out.1.hx.cell 15 (.slice dp dl dc) (by rw [← hdl.out]; rfl)
      obtain ⟨bd, hbd⟩ : ∃ bd, Hid (p.data ++ List.replicate kz 0 = bd) := ⟨_, Lib.hid rfl⟩
      rw [hbd.out] at HE
      have HBL := Lib.hid (show bd.length = dl + kz by rw [← hbd.out, List.length_append, List.length_replicate, hdl.out])
      have hb7 : Below wa.heap.size wa (wa.alloc (.cells #[.slice dp dl dc, .slice (some ⟨gz, 0, none⟩) kz kz] 23)) := (Below.refl _ _).alloc (Nat.le_refl _) _
      have hc7 : (wa.alloc (.cells #[.slice dp dl dc, .slice (some ⟨gz, 0, none⟩) kz kz] 23)).heap[wa.heap.size]? = some (.cells #[.slice dp dl dc, .slice (some ⟨gz, 0, none⟩) kz kz] 23 (0, 0)) := heap_alloc_new wa _
      have c70 := Lib.hid (cell_of_row _ _ 0 _ _ _ hc7)
      have c71 := Lib.hid (cell_of_row _ _ 1 _ _ _ hc7)
      have hl7 := Lib.hid ((Array.getElem?_eq_some_iff.1 hc7).1)
      have HBb := Lib.hid ((HBz.out.below hb7).mono hb7.size)
      have HDb := Lib.hid ((HDa.out.below hb7).mono hb7.size)
      have HSb := Lib.hid (HSa.out.next hb7)
      have HOb := Lib.hid (HOa.out.keep hb7)
      have HCC : Hid (Calls Try.prog 22 #[.slice (some ⟨wa.heap.size, 0, none⟩) 2 2] (wa.alloc (.cells #[.slice dp dl dc, .slice (some ⟨gz, 0, none⟩) kz kz] 23)) (OwnP (wa.alloc (.cells #[.slice dp dl dc, .slice (some ⟨gz, 0, none⟩) kz kz] 23)) bd)) := Lib.hid (by
        rw [← hbd.out]; exact concat_any wa.heap.size 0 dp (some ⟨gz, 0, none⟩) dl dc kz kz p.data (List.replicate kz 0) _ c70.out c71.out hl7.out HDb.out HBb.out (by omega) (by omega))
      clear c70 c71 hl7 HBb HDb hc7 hb7 HSa HOa HBz HDa
      obtain ⟨r9, hr9⟩ : ∃ r9, Hid (closed dd bd = r9) := ⟨_, Lib.hid rfl⟩
      rw [hr9.out] at HE
      have HR9 := Lib.hid (show r9.length ≤ 300 by rw [← hr9.out, closed]; have := HBL.out; split <;> simp [le4_len] <;> omega)
      have HH9 := Lib.hid (show hd9.length ≤ 100 by rw [← hhd9.out, closed]; split <;> simp [le4_len, hdr_length, hal.out] <;> omega)
      --obtain ⟨W8, hW8⟩ : ∃ W8, Hid ((wa.alloc (.cells #[.slice dp dl dc, .slice (some ⟨gz, 0, none⟩) kz kz] 23)) = W8) := ⟨_, Lib.hid rfl⟩
      go_wp2_with (first
        | (go_at_call 22; refine HCC.out.mono ?_; rintro e wc ⟨vc, rfl, hOc⟩; have HOc := Lib.hid hOc; have HOh := Lib.hid (HOb.out.keep hOc.below); have HSc := Lib.hid (HSb.out.next hOc.below); clear hOc HCC)
        | (go_at_call 21; refine (closedIf_any dd tp _ wc vc bd HOc.out HSc.out.2 (by rw [HBL.out]; omega)).mono ?_; rw [hr9.out]; rintro e we ⟨ve, rfl, hOe⟩; obtain ⟨pe, ce, rfl, hBe⟩ := hOe.bytes; have HBe := Lib.hid hBe; have HOk := Lib.hid (HOb.out.keep hOe.below); clear hOe hBe)
        | (refine wpList_join w we rfl (.tmp 39) (.tmp 47) rfl v9 _ hd9 rfl HOk.out _ pe _ ce r9 rfl HBe.out (hd9.length + r9.length) rfl (by have := HR9.out; have := HH9.out; omega) ?_; intro v' w' hO' _; have HO' := Lib.hid hO'; clear hO'))
      go_ret
      exact ⟨_, rfl, by rw [HE.out, List.length_append]; exact HO'.out⟩
end Go.Proofs.Ytakejggofghblaa
