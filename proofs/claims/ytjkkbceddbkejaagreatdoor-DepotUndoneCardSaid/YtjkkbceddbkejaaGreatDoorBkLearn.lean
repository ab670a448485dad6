/-
  A book: learn, hasAll.
-/
import Derived.Test.YtjkkbceddbkejaaGreatDoorBkBring
set_option linter.unusedSimpArgs false
set_option linter.unusedVariables false
namespace Go.Proofs.YtjkkbceddbkejaaGreatDoor
open Go.RowKit Sh Go.Maps Go.Extern.Stop Go.Stop Go.Extern

theorem wp_store_page {o : Oper} {a : Act} {w : World} {K : Act → World → Prop} {Q : Exit → Act → World → Prop} {b : Nat} {l : List Chg} (m x y : Operand) (hop : o.op = .mapUpdate 105 m x y) (h : MapAt b l w) (hn : l.length < maxLen) (i : Nat) (hi : i < 9223372036854775807) (p : List UInt8) (hp : p.length = 64)
    (hm : a.eval m = .map (some b)) (hx : a.eval x = .int .i64 i) (v : Value) (hv : Hid (v = pageV p)) (hy : a.eval y = v)
    (hK : ∀ w', Hid (MapAt b (putM l i p) w') → Hid (w.grownBy w' (some b)) → K (a.put o.dst undef) w') : o.wp Tryz.prog a w K Q := by
  obtain ⟨w', hrun, hown, ht⟩ := h.store hn i hi p hp
  rw [← hv.out] at hrun
  unfold Oper.wp
  simp only [execOp, hop, hm, hx, hy, Sem.run_bind, hrun, Result.andThen, Sem.run_pure]
  exact hK w' (Lib.hid hown) (Lib.hid ht)
theorem learn_take {m l : List Chg} {k : Nat} {c : Chg} (hc : l[k]? = some c) : learnM m (l.take (k + 1)) = putM (learnM m (l.take k)) c.at_ c.what := by
  rw [List.take_add_one, hc]
  simp [learnM, List.foldl_append]
section
variable {Fd Fd' : Nat → Prop} {gd gr bn bt g : Nat} {w wr w' : World} {b : Bk}
def LearnP (b : Bk) (l : List Chg) (Fd : Nat → Prop) (gd gr bn bt g : Nat) (w : World) (e : Ending) (w' : World) : Prop := e = .returned (.tuple #[]) ∧ BkIn { b with news := learnM b.news l } Fd gd gr bn bt g w' ∧ Only (fun k => k = bn) w w'
set_option maxRecDepth 100000 in
set_option maxHeartbeats 8000000 in
/-- learn. -/
theorem learn_in (h : BkIn b Fd gd gr bn bt g w) {D : Nat} (hD : D ≤ 4096) (hN : Within D b.news) (l : List Chg) (bp : Option Addr) (cap : Nat) (hl : Within D l) (hl2 : l.length ≤ 4096) (hC : Chgs w.heap.size w bp l) (hbn : ∀ bo, bp = some ⟨bo, 0, none⟩ → l = [] ∨ bo ≠ bn) :
    Calls Tryz.prog 88 #[.pointer (some ⟨g, 0, none⟩), .slice bp l.length cap] w (LearnP b l Fd gd gr bn bt g w) := by
  obtain ⟨L, hL⟩ : ∃ L, l.length = L := ⟨_, rfl⟩
  rw [hL] at hl2 ⊢
  have HL := Lib.hid hL
  have hR := h.news.rises
  have hi0 : BkIn { b with news := learnM b.news (l.take 0) } Fd gd gr bn bt g w := h
  clear hL
  go_enter Tryz.func88, Tryz.ntmps88
  go_wp2
  go_loopg [8] L (fun gg i wr => ∃ k : Nat, k ≤ L ∧ gg = L - k ∧ i = .int .i64 k ∧ BkIn { b with news := learnM b.news (l.take k) } Fd gd gr bn bt g wr ∧ Only (fun j => j = bn) w wr)
  case atStart => exact ⟨0, by omega, rfl, rfl, hi0, Only.refl _ _⟩
  case round =>
    clear hi0
    obtain ⟨k, hk, rfl, rfl, hB, ho⟩ := hrel
    by_cases hlt : k < L
    · have hlt' : (k : Int) < L := by omega
      obtain ⟨c, hc⟩ : ∃ c, l[k]? = some c := ⟨_, List.getElem?_eq_getElem (by rw [HL.out]; exact hlt)⟩
      have hcm := hl c (List.mem_of_getElem? hc)
      obtain ⟨bo, rfl, hbl, hrr⟩ : ∃ bo, bp = some ⟨bo, 0, none⟩ ∧ bo < w.heap.size ∧ ∀ i c, l[i]? = some c → w.rangeAt bo (i * 65) (chgC c) := by
        rcases hC with h0 | h0
        · rw [h0] at hc; simp at hc
        · exact h0
      have hbo : bo ≠ bn := (hbn bo rfl).resolve_left (fun e => by rw [e] at hc; simp at hc)
      have hrng : wr.rangeAt bo (k * 65) (chgC c) := fun j v hj => (World.cell?_of_block (a := ⟨bo, k * 65 + j, none⟩) (ho.block bo hbl hbo)).trans (hrr k c hc j v hj)
      obtain ⟨cv, Hcv⟩ : ∃ cv : List Value, Hid (cv = chgC c) := ⟨_, rfl⟩
      rw [← Hcv.out] at hrng
      have hcvl : cv.length = 65 := by rw [Hcv.out]; exact chgC_len hcm.2
      have hci : Hid ((Tryz.prog.info? 194).map (·.size) = some cv.length) := by rw [hcvl]; exact infoChg65
      have hci2 : Hid ((Tryz.prog.info? 194).map (·.size) = some cv.toArray.size) := by rw [List.size_toArray, hcvl]; exact infoChg65
      have hcz : Hid (zChg.toArray.size = cv.toArray.size) := by
        have e : cv.toArray.size = 65 := by rw [List.size_toArray, hcvl]
        rw [e]; exact (rfl : zChg.toArray.size = 65)
      have hc1 : Hid (cv.toArray.all (·.oneCell') = true) := by rw [Hcv.out]; exact all_oneCell_toArray (chgC_one c)
      have Hrng := Lib.hid hrng
      have hlk := learn_take (m := b.news) hc
      have Hlk := Lib.hid hlk; have Hc := Lib.hid hc
      obtain ⟨at_, hat⟩ : ∃ at_, c.at_ = at_ := ⟨_, rfl⟩
      have hatD : at_ < D := by rw [← hat]; exact hcm.1
      clear hrng hrr hlk hc
      go_upto_region 3 with (first
        | (refine wpList_load_mid rfl 194 _ rfl bo (k * 65) rfl cv _ Hrng.out Tryz.underlying194 rfl hci.out ?_)
        | (refine wpList_alloc_arr rfl 194 rfl _ allocChg ?_)
        | (refine wpList_store_new rfl 194 _ _ rfl wr.heap.size rfl cv.toArray rfl rfl 194 _ hci2.out hcz.out hc1.out ?_))
      have hb3 : Below wr.heap.size wr (wr.alloc (.cells cv.toArray 194)) := (Below.refl _ _).alloc (Nat.le_refl _) _
      have hy3 : (wr.alloc (.cells cv.toArray 194)).heap[wr.heap.size]? = some (.cells cv.toArray 194 (0, 0)) := heap_alloc_new wr _
      have hB3 := hB.below hb3
      have ho3 := ho.trans (Only.of_below (F := fun _ => False) hb3) (fun _ h => h.elim)
      generalize wr.alloc (.cells cv.toArray 194) = w3 at hb3 hy3 hB3 ho3 ⊢
      obtain ⟨y, hy⟩ : ∃ y, wr.heap.size = y := ⟨_, rfl⟩
      rw [hy] at hy3 ⊢
      clear hy hb3 hB ho hci hci2 hcz hc1 Hrng
      obtain ⟨pv, Hpv⟩ : ∃ pv : List Value, Hid (pv = c.what.map cu8) := ⟨_, rfl⟩
      have hpvl : pv.length = 64 := by rw [Hpv.out, List.length_map, hcm.2]
      have hpi : Hid ((Tryz.prog.info? 33).map (·.size) = some pv.length) := by rw [hpvl]; exact info64
      have hyc : cv = .int .i64 at_ :: pv := by rw [Hcv.out, Hpv.out, ← hat]; rfl
      have hyl : y < w3.heap.size := (Array.getElem?_eq_some_iff.1 hy3).1
      have hV : Hid (.agg pv.toArray = pageV c.what) := by rw [Hpv.out]; exact rfl
      refine wp_region_up 8 (fun w' => Below w3.heap.size w3 w') (by kernel_rfl) ?_
      have hb4 : Below w3.heap.size w3 { w3 with drawn := w3.drawn + 1 } := ⟨rfl, rfl, rfl, Nat.le_refl _, fun _ _ => rfl⟩
      obtain ⟨wd, hdr⟩ : ∃ wd : World, ({ w3 with drawn := w3.drawn + 1 } : World) = wd := ⟨_, rfl⟩
      rw [hdr] at hb4 ⊢
      have HLp := Lib.hid (fun W (hW : Below w3.heap.size w3 W) => run_loadAt_mid (P := Tryz.prog) W y 1 33 pv _ (fun j v hj => by rw [cell_of_row W y (1 + j) _ _ _ ((hW.block y hyl).trans hy3), hyc, List.getElem?_toArray, Nat.add_comm 1 j, List.getElem?_cons_succ]; exact hj) Tryz.underlying33 rfl hpi.out)
      have Hcc := Lib.hid (fun W (hW : Below w3.heap.size w3 W) => show W.cell? ⟨g, 5, none⟩ = some (.map (some bn)) ∧ W.cell? ⟨y, 0, none⟩ = some (.int .i64 at_) by
        obtain ⟨c0, c1, c2, c3, c4, c5, _⟩ := (hB3.below hW).cells
        refine ⟨c5, ?_⟩
        rw [cell_of_row W y 0 _ _ _ ((hW.block y hyl).trans hy3), hyc]; rfl)
      have hB4 := hB3.below hb4
      have hln : (learnM b.news (l.take k)).length ≤ 4096 := Nat.le_trans (rising_len (rising_learn hR) (fun c hc => (within_learn hN (fun c hc => hl c (List.mem_of_mem_take hc)) c hc).1)) hD
      clear hdr hyc
      refine up_take (i := 0) (v := .pointer (some ⟨g, 0, none⟩)) rfl (by kernel_rfl) (by kernel_rfl) (fun _ _ _ h => h) (Or.inl ⟨by rfl, ?_⟩) hb4 ?_
      · intro w' _; go_simp
      try simp only [List.getElem_toArray, List.getElem_cons_succ, List.getElem_cons_zero, Act.put, List.setIfInBounds_toArray, List.set]
      refine up_take (i := 1) (v := .pointer (some ⟨g, 0, none⟩)) rfl (by kernel_rfl) (by kernel_rfl) (fun _ _ _ h => h) (Or.inl ⟨by rfl, ?_⟩) hb4 ?_
      · intro w' _; go_simp
      try simp only [List.getElem_toArray, List.getElem_cons_succ, List.getElem_cons_zero, Act.put, List.setIfInBounds_toArray, List.set]
      refine up_take (i := 2) (v := .pointer (some ⟨g, 5, none⟩)) rfl (by kernel_rfl) (by kernel_rfl) (fun _ _ _ h => h) (Or.inl ⟨by rfl, ?_⟩) hb4 ?_
      · intro w' _; go_simp
      try simp only [List.getElem_toArray, List.getElem_cons_succ, List.getElem_cons_zero, Act.put, List.setIfInBounds_toArray, List.set]
      refine up_take (i := 3) (v := .map (some bn)) rfl (by kernel_rfl) (by kernel_rfl) (fun _ _ _ h => h) (Or.inl ⟨by rfl, ?_⟩) hb4 ?_
      · intro w' hS'
        obtain ⟨d5, dy⟩ := Hcc.out w' hS'
        clear hS'
        go_simp
      try simp only [List.getElem_toArray, List.getElem_cons_succ, List.getElem_cons_zero, Act.put, List.setIfInBounds_toArray, List.set]
      refine up_take (i := 4) (v := .pointer (some ⟨y, 0, none⟩)) rfl (by kernel_rfl) (by kernel_rfl) (fun _ _ _ h => h) (Or.inl ⟨by rfl, ?_⟩) hb4 ?_
      · intro w' _; go_simp
      try simp only [List.getElem_toArray, List.getElem_cons_succ, List.getElem_cons_zero, Act.put, List.setIfInBounds_toArray, List.set]
      refine up_take (i := 5) (v := .int .i64 at_) rfl (by kernel_rfl) (by kernel_rfl) (fun _ _ _ h => h) (Or.inl ⟨by rfl, ?_⟩) hb4 ?_
      · intro w' hS'
        obtain ⟨d5, dy⟩ := Hcc.out w' hS'
        clear hS'
        go_simp
      try simp only [List.getElem_toArray, List.getElem_cons_succ, List.getElem_cons_zero, Act.put, List.setIfInBounds_toArray, List.set]
      refine up_take (i := 6) (v := .pointer (some ⟨y, 1, none⟩)) rfl (by kernel_rfl) (by kernel_rfl) (fun _ _ _ h => h) (Or.inl ⟨by rfl, ?_⟩) hb4 ?_
      · intro w' _; go_simp
      try simp only [List.getElem_toArray, List.getElem_cons_succ, List.getElem_cons_zero, Act.put, List.setIfInBounds_toArray, List.set]
      refine up_take (i := 7) (v := .agg pv.toArray) rfl (by kernel_rfl) (by kernel_rfl) (fun _ _ _ h => h) (Or.inl ⟨by rfl, ?_⟩) hb4 ?_
      · intro w' hS'; exact exec_load _ _ 33 _ rfl y 1 rfl _ (HLp.out w' hS')
      try simp only [List.getElem_toArray, List.getElem_cons_succ, List.getElem_cons_zero, Act.put, List.setIfInBounds_toArray, List.set]
      refine up_tail ?_
      refine up_last 8 _ rfl (by kernel_rfl) (by decide) (by rfl) (fun K hK => ?_)
      refine wp_store_page _ _ _ rfl hB4.news (by show (learnM b.news (l.take k)).length < maxLen; unfold maxLen; omega) at_ (by omega) c.what hcm.2 rfl rfl _ hV rfl ?_
      intro w5 Hm5 Hg5
      refine hK _ _ ?_
      clear hK K
      try simp only [List.getElem_toArray, List.getElem_cons_succ, List.getElem_cons_zero, Act.put, List.setIfInBounds_toArray, List.set]
      refine up_done (by kernel_rfl) ?_ _
      have hB5 := hB4.newsTurn Hm5.out Hg5.out
      have ho5 := (ho3.trans (Only.of_below (F := fun _ => False) hb4) (fun _ h => h.elim)).trans (Only.of_grown (F := fun j => j = bn) Hg5.out (fun j e => by simpa using e.symm)) (fun j hj => .inl hj)
      have hB5' : BkIn { b with news := learnM b.news (l.take (k + 1)) } Fd gd gr bn bt g w5 := by rw [Hlk.out, hat]; exact hB5
      clear hB4 hB5 hB3 ho3 hb4 Hm5 Hg5 HLp Hcc hy3
      go_wp2
      go_roundg (L - (k + 1))
      case measure => omega
      case rel => exact ⟨k + 1, by omega, rfl, by go_num, hB5', ho5⟩
    · obtain rfl : k = L := by omega
      rw [List.take_of_length_le (by rw [HL.out]; exact Nat.le_refl _)] at hB
      go_wp2
      first | go_end0 | refine bodyPost_ret (v := .tuple #[]) (results_none rfl _ _ _) rfl ?_
      exact ⟨rfl, hB, ho⟩
/-- A book that can't turn while others look. -/
def HasP (ok : Bool) (w : World) (e : Ending) (w' : World) : Prop := e = .returned (.bool ok) ∧ Below w.heap.size w w'
set_option maxRecDepth 100000 in
/-- The closure: not has. -/
theorem out_any (h : BkIn b Fd gd gr bn bt g w) {x : Nat} (hx : w.heap[x]? = some (.cells #[.pointer (some ⟨g, 0, none⟩)] 24 (0, 0))) (c : Chg) (cv : List Value) (hcv : cv = chgC c) :
    Calls Tryz.prog 116 #[.agg cv.toArray, .pointer (some ⟨x, 0, none⟩)] w (HasP (!decide (c.at_ < b.pages)) w) := by
  have hb1 : Below w.heap.size w (w.alloc (.cells cv.toArray 194)) := (Below.refl _ _).alloc (Nat.le_refl _) _
  have h1 := h.below hb1
  have c0 : (w.alloc (.cells cv.toArray 194)).cell? ⟨w.heap.size, 0, none⟩ = some (.int .i64 c.at_) := by rw [cell_of_row _ w.heap.size 0 _ _ _ (heap_alloc_new w _), hcv]; rfl
  have cx : (w.alloc (.cells cv.toArray 194)).cell? ⟨x, 0, none⟩ = some (.pointer (some ⟨g, 0, none⟩)) := by
    rw [cell_of_row _ x 0 _ _ _ ((hb1.block x (Array.getElem?_eq_some_iff.1 hx).1).trans hx)]; rfl
  have Hh := Lib.hid (has_any h1 (c.at_ : Int))
  have hd : decide (0 ≤ (c.at_ : Int) ∧ (c.at_ : Int) < (b.pages : Int)) = decide (c.at_ < b.pages) := by
    simp only [decide_eq_decide]; omega
  rw [hd] at Hh
  obtain ⟨ok, hok⟩ : ∃ ok, decide (c.at_ < b.pages) = ok := ⟨_, rfl⟩
  rw [hok] at Hh ⊢
  obtain ⟨at_, hat⟩ : ∃ at_, c.at_ = at_ := ⟨_, rfl⟩
  rw [hat] at c0 Hh
  clear h h1 hx hd hok hat hcv
  go_enter Tryz.func116, Tryz.ntmps116
  go_wp2_with (first | (go_at_call 117; refine Hh.out.mono ?_; rintro e w' ⟨rfl, rfl⟩))
  go_ret
  exact ⟨rfl, hb1⟩
def IndexP (l : List Chg) (D : Nat) (w : World) (e : Ending) (w' : World) : Prop := ∃ r : Int, e = .returned (.int .i64 r) ∧ Below w.heap.size w w' ∧ -1 ≤ r ∧ (0 ≤ r ↔ ∃ c ∈ l, ¬ c.at_ < D)
set_option maxRecDepth 100000 in
set_option maxHeartbeats 8000000 in
theorem index_any (h : BkIn b Fd gd gr bn bt g w) {x : Nat} (hx : w.heap[x]? = some (.cells #[.pointer (some ⟨g, 0, none⟩)] 24 (0, 0))) (l : List Chg) (bp : Option Addr) (cap : Nat) (hl : ∀ c ∈ l, c.what.length = 64) (hl2 : l.length ≤ 4096) (hC : Chgs w.heap.size w bp l) :
    Calls Tryz.prog 135 #[.slice bp l.length cap, .func (.func 116) #[] #[.pointer (some ⟨x, 0, none⟩)]] w (IndexP l b.pages w) := by
  obtain ⟨L, hL⟩ : ∃ L, l.length = L := ⟨_, rfl⟩
  rw [hL] at hl2 ⊢
  have HL := Lib.hid hL
  have hxl : x < w.heap.size := (Array.getElem?_eq_some_iff.1 hx).1
  have Hout := Lib.hid (fun W (hW : Below w.heap.size w W) (c : Chg) (cv : List Value) (e : cv = chgC c) => out_any (h.below hW) ((hW.block x hxl).trans hx) c cv e)
  clear hL h hx
  go_enter Tryz.func135, Tryz.ntmps135
  go_wp2
  go_loopg [8] L (fun gg i wr => ∃ k : Nat, k ≤ L ∧ gg = L - k ∧ i = .int .i64 k ∧ Below w.heap.size w wr ∧ Hid (∀ c ∈ l.take k, c.at_ < b.pages))
  case atStart => exact ⟨0, by omega, rfl, rfl, Below.refl _ _, fun c hc => by simp at hc⟩
  case round =>
    obtain ⟨k, hk, rfl, rfl, hb, Hin⟩ := hrel
    by_cases hlt : k < L
    · have hlt' : (k : Int) < L := by omega
      obtain ⟨c, hc⟩ : ∃ c, l[k]? = some c := ⟨_, List.getElem?_eq_getElem (by rw [HL.out]; exact hlt)⟩
      obtain ⟨bo, rfl, hbl, hrr⟩ : ∃ bo, bp = some ⟨bo, 0, none⟩ ∧ bo < w.heap.size ∧ ∀ i c, l[i]? = some c → w.rangeAt bo (i * 65) (chgC c) := by
        rcases hC with h0 | h0
        · rw [h0] at hc; simp at hc
        · exact h0
      have hrng : wr.rangeAt bo (k * 65) (chgC c) := fun j v hj => (hb.cell (p := ⟨bo, k * 65 + j, none⟩) hbl).trans (hrr k c hc j v hj)
      obtain ⟨cv, Hcv⟩ : ∃ cv : List Value, Hid (cv = chgC c) := ⟨_, rfl⟩
      rw [← Hcv.out] at hrng
      have hcvl : cv.length = 65 := by rw [Hcv.out]; exact chgC_len (hl c (List.mem_of_getElem? hc))
      have hci : Hid ((Tryz.prog.info? 194).map (·.size) = some cv.length) := by rw [hcvl]; exact infoChg65
      have Hrng := Lib.hid hrng; have Hc := Lib.hid hc
      have Ho := Lib.hid (Hout.out wr hb c cv Hcv.out)
      clear hrng hrr hc
      go_wp2_with (first
        | (refine wpList_load_mid rfl 194 _ rfl bo (k * 65) rfl cv _ Hrng.out Tryz.underlying194 rfl hci.out ?_)
        | (go_at_call 116; refine Ho.out.mono ?_))
      rintro e w3 ⟨rfl, hb3⟩
      have hb4 := hb.trans (hb3.mono hb.size)
      by_cases hok : c.at_ < b.pages
      · have hd : decide (c.at_ < b.pages) = true := decide_eq_true hok
        rw [hd]
        have hin : ∀ d ∈ l.take (k + 1), d.at_ < b.pages := fun d hd => by
          rw [List.take_add_one, Hc.out] at hd
          rcases List.mem_append.1 hd with hd | hd
          · exact Hin.out d hd
          · obtain rfl : d = c := by simpa using hd
            exact hok
        have Hin2 := Lib.hid hin
        clear hd hin Ho Hrng hci hb3 hb
        go_wp2
        go_roundg (L - (k + 1))
        case measure => omega
        case rel => exact ⟨k + 1, by omega, rfl, by go_num, hb4, Hin2⟩
      · have hd : decide (c.at_ < b.pages) = false := decide_eq_false hok
        rw [hd]
        have Hex := Lib.hid (show ∃ c ∈ l, ¬ c.at_ < b.pages from ⟨c, List.mem_of_getElem? Hc.out, hok⟩)
        clear hd hok Ho Hrng hci hb3 hb
        go_wp2
        go_ret
        exact ⟨k, rfl, hb4, by omega, ⟨fun _ => Hex.out, fun _ => by omega⟩⟩
    · obtain rfl : k = L := by omega
      have hin := Hin.out
      rw [List.take_of_length_le (by rw [HL.out]; exact Nat.le_refl _)] at hin
      have Hin2 := Lib.hid hin
      clear hin Hin
      go_wp2
      go_ret
      exact ⟨-1, rfl, hb, by omega, ⟨fun h => by omega, fun ⟨c, hc, hn⟩ => absurd (Hin2.out c hc) hn⟩⟩
set_option maxRecDepth 100000 in
theorem contains_any (h : BkIn b Fd gd gr bn bt g w) {x : Nat} (hx : w.heap[x]? = some (.cells #[.pointer (some ⟨g, 0, none⟩)] 24 (0, 0))) (l : List Chg) (bp : Option Addr) (cap : Nat) (hl : ∀ c ∈ l, c.what.length = 64) (hl2 : l.length ≤ 4096) (hC : Chgs w.heap.size w bp l) (hin : ∀ c ∈ l, c.at_ < b.pages) :
    Calls Tryz.prog 115 #[.slice bp l.length cap, .func (.func 116) #[] #[.pointer (some ⟨x, 0, none⟩)]] w (HasP false w) := by
  have Hi := Lib.hid (index_any h hx l bp cap hl hl2 hC)
  clear h hx hC
  go_enter Tryz.func115, Tryz.ntmps115
  go_wp2_with (first | (go_at_call 135; refine Hi.out.mono ?_))
  rintro e w1 ⟨r, rfl, hb, hr, hiff⟩
  have hr2 : ¬ (0 ≤ r) := fun h0 => by
    obtain ⟨c, hc, hn⟩ := hiff.1 h0
    exact hn (hin c hc)
  obtain rfl : r = -1 := by omega
  clear hiff hr hr2
  go_wp2
  go_ret
  exact ⟨rfl, hb⟩
set_option maxRecDepth 100000 in
/-- hasAll: where all are there. -/
theorem hasAll_any (h : BkIn b Fd gd gr bn bt g w) (l : List Chg) (bp : Option Addr) (cap : Nat) (hl : ∀ c ∈ l, c.what.length = 64) (hl2 : l.length ≤ 4096) (hC : Chgs w.heap.size w bp l) (hin : ∀ c ∈ l, c.at_ < b.pages) :
    Calls Tryz.prog 87 #[.pointer (some ⟨g, 0, none⟩), .slice bp l.length cap] w (HasP true w) := by
  have hb1 : Below w.heap.size w (w.alloc (.cells #[.pointer (some ⟨g, 0, none⟩)] 24)) := (Below.refl _ _).alloc (Nat.le_refl _) _
  have Hc := Lib.hid (contains_any (h.below hb1) (heap_alloc_new w _) l bp cap hl hl2 ((hC.below hb1).mono hb1.size) hin)
  clear h hC hin hl
  obtain ⟨L, hL⟩ : ∃ L, l.length = L := ⟨_, rfl⟩
  rw [hL] at Hc ⊢
  clear hL hl2
  go_enter Tryz.func87, Tryz.ntmps87
  go_wp2_with (first | (go_at_call 115; refine Hc.out.mono ?_))
  rintro e w2 ⟨rfl, hb2⟩
  go_wp2
  go_ret
  exact ⟨rfl, hb1.trans (hb2.mono hb1.size)⟩
end
end Go.Proofs.YtjkkbceddbkejaaGreatDoor
