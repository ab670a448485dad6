/-
  The program's ring: standing.
-/
import Derived.Test.YtegdlpllljccgaaDoorPrRead
set_option linter.unusedSimpArgs false
set_option linter.unusedVariables false
namespace Go.Proofs.YtegdlpllljccgaaDoor
open Go.RowKit Sh Go.Extern.Stop Go.Stop Go.Extern

/-- '!=' of arrays of ten bytes, and of 32. -/
theorem eqIn10 (l1 l2 : List UInt8) (h1 : l1.length = 10) (h2 : l2.length = 10) (W : World) : (Op.equalIn 10000 153 (.agg (l1.map cu8).toArray) (.agg (l2.map cu8).toArray)).run Tryd.prog W = .ok (decide (l1 = l2)) W :=
  run_items (P := Tryd.prog) 153 5 10 Tryd.underlying153 Tryd.underlying5 (by kernel_rfl) l1 l2 h1 h2 W
theorem eqIn32 (l1 l2 : List UInt8) (h1 : l1.length = 32) (h2 : l2.length = 32) (W : World) : (Op.equalIn 10000 23 (.agg (l1.map cu8).toArray) (.agg (l2.map cu8).toArray)).run Tryd.prog W = .ok (decide (l1 = l2)) W :=
  run_items (P := Tryd.prog) 23 5 32 Tryd.underlying23 Tryd.underlying5 (by kernel_rfl) l1 l2 h1 h2 W
def StandP (pg : Nat → List UInt8) (free : Nat) (m : Mk) (w : World) (e : Ending) (w' : World) : Prop :=
  (holds pg free m ∧ ∃ b, w.heap.size ≤ b ∧ e = .returned (.tuple #[.slice (some ⟨b, 0, none⟩) (takes (kOf pg m)) (takes (kOf pg m)), .nilIface]) ∧ RecAt b (pg m.place :: rest pg m.place (kOf pg m)) w' ∧ Below w.heap.size w w') ∨
  (¬ holds pg free m ∧ e = .returned (.tuple #[.slice none 0 0, .nilIface]) ∧ Below w.heap.size w w')
section
variable {g gd first n used : Nat} {m : Mk} {S : St} {F : Nat → Prop} {w w' : World}
set_option maxRecDepth 100000 in
set_option maxHeartbeats 4000000 in
/-- standing: nothing fits. -/
theorem stand_no (h : PrAt g gd first n m used w) (hO : RingOk first n m used) (hD : PD S F gd w) (hB : Byt S) (ho : S.off = false) (hin : first + n ≤ S.firm.length) (hno : fitsB (n - used) (kOf (pgOf (imgB S) first n) m) = false) :
    Calls Tryd.prog 56 #[.pointer (some ⟨g, 0, none⟩)] w (StandP (pgOf (imgB S) first n) (n - used) m w) := by
  have hrd := pread_on h hO hD hB ho hin 1 (by omega) (by omega)
  have hnot : ¬ holds (pgOf (imgB S) first n) (n - used) m := fun hh => by
    have := (fitsB_iff (n - used) (kOf (pgOf (imgB S) first n) m)).2 hh.1.2
    rw [hno] at this; cases this
  obtain ⟨pg, Hpg⟩ : ∃ pg, Hid (pg = pgOf (imgB S) first n) := ⟨_, rfl⟩
  rw [← Hpg.out] at hrd hno hnot ⊢
  have e1 : recPages pg m.place 1 = [pg m.place] := by simp [recPages]
  rw [e1] at hrd
  obtain ⟨k, hk⟩ : ∃ k, kOf pg m = k := ⟨_, rfl⟩
  rw [hk] at hno
  have hk256 : k < 256 := by rw [← hk]; exact (at8 (pg m.place) 9).toNat_lt
  go_enter Tryd.func56, Tryd.ntmps56
  go_wp2_with (go_at_call 69; refine hrd.mono ?_)
  rintro e w1 hp1
  obtain ⟨_, b1, hb1, rfl, hr1, hbel1⟩ := hp1.resolve_right (fun h => by cases h.1)
  clear hrd hp1
  have hct := pcount_any hr1 1 1 (by omega)
  have hkk : (at8 (pg m.place) 9).toNat = k := hk
  rw [hkk] at hct
  go_upto_region 5 with (go_at_call 70; refine hct.mono ?_; rintro e w' ⟨rfl, rfl⟩)
  clear hct hkk
  have Hft := Lib.hid (fun W (hW : Below w1.heap.size w1 W) => by have := fits_any ((h.below hbel1).below hW) hO k (by omega); rw [hno] at this; exact this)
  refine wp_region_held (S := fun w' => Below w1.heap.size w1 w') (by kernel_rfl) ?_
  have hb2 : Below w1.heap.size w1 { w1 with drawn := w1.drawn + 1 } := ⟨rfl, rfl, rfl, Nat.le_refl _, fun _ _ => rfl⟩
  obtain ⟨wd, hdr⟩ : ∃ wd : World, ({ w1 with drawn := w1.drawn + 1 } : World) = wd := ⟨_, rfl⟩
  rw [hdr] at hb2 ⊢
  clear hdr
  refine wpAnyH_take (i := 0) (v := .pointer (some ⟨g, 0, none⟩)) rfl (by kernel_rfl) (by kernel_rfl) (by kernel_rfl) (fun _ _ _ h => h) (Or.inl ⟨by rfl, ?_⟩) hb2 ?_
  · intro w' _; go_simp
  try simp only [List.getElem_toArray, List.getElem_cons_succ, List.getElem_cons_zero, Act.put, List.setIfInBounds_toArray, List.set]
  refine wpAnyH_take (i := 1) (v := .int .i64 k) rfl (by kernel_rfl) (by kernel_rfl) (by kernel_rfl) (fun _ _ _ h => h) (Or.inl ⟨by rfl, ?_⟩) hb2 ?_
  · intro w' _; go_simp
  try simp only [List.getElem_toArray, List.getElem_cons_succ, List.getElem_cons_zero, Act.put, List.setIfInBounds_toArray, List.set]
  refine wpAnyH_oneR 2 _ rfl (by kernel_rfl) (by rfl) (fun K hK => ?_)
  go_simp
  refine (Hft.out _ hb2).mono ?_
  rintro e w7 ⟨rfl, mq, rfl⟩
  have hb3 := hb2.trans (below_drewN wd mq _)
  generalize hwn : wd.drewN mq = w3 at *
  refine hK _ _ hb3 ?_
  clear hK K
  try simp only [List.getElem_toArray, List.getElem_cons_succ, List.getElem_cons_zero, Act.put, List.setIfInBounds_toArray, List.set]
  clear hwn
  refine wpAnyH_take (i := 3) (v := .bool true) rfl (by kernel_rfl) (by kernel_rfl) (by kernel_rfl) (fun _ _ _ h => h) (Or.inl ⟨by rfl, ?_⟩) hb3 ?_
  · intro w' _; go_simp
  try simp only [List.getElem_toArray, List.getElem_cons_succ, List.getElem_cons_zero, Act.put, List.setIfInBounds_toArray, List.set]
  refine wpAnyH_take (i := 4) (v := .bool true) rfl (by kernel_rfl) (by kernel_rfl) (by kernel_rfl) (fun _ _ _ h => h) (Or.inl ⟨by rfl, ?_⟩) hb3 ?_
  · intro w' _; go_simp
  try simp only [List.getElem_toArray, List.getElem_cons_succ, List.getElem_cons_zero, Act.put, List.setIfInBounds_toArray, List.set]
  refine wpAnyH_take (i := 5) (v := undef) rfl (by kernel_rfl) (by kernel_rfl) (by kernel_rfl) (fun _ _ _ h => h) (Or.inr ⟨by rfl, rfl⟩) hb3 ?_
  try simp only [List.getElem_toArray, List.getElem_cons_succ, List.getElem_cons_zero, Act.put, List.setIfInBounds_toArray, List.set]
  refine wpAnyH_take (i := 6) (v := undef) rfl (by kernel_rfl) (by kernel_rfl) (by kernel_rfl) (fun _ _ _ h => h) (Or.inr ⟨by rfl, rfl⟩) hb3 ?_
  try simp only [List.getElem_toArray, List.getElem_cons_succ, List.getElem_cons_zero, Act.put, List.setIfInBounds_toArray, List.set]
  refine wpAnyH_take (i := 7) (v := undef) rfl (by kernel_rfl) (by kernel_rfl) (by kernel_rfl) (fun _ _ _ h => h) (Or.inr ⟨by rfl, rfl⟩) hb3 ?_
  try simp only [List.getElem_toArray, List.getElem_cons_succ, List.getElem_cons_zero, Act.put, List.setIfInBounds_toArray, List.set]
  refine wpAnyH_take (i := 8) (v := undef) rfl (by kernel_rfl) (by kernel_rfl) (by kernel_rfl) (fun _ _ _ h => h) (Or.inr ⟨by rfl, rfl⟩) hb3 ?_
  try simp only [List.getElem_toArray, List.getElem_cons_succ, List.getElem_cons_zero, Act.put, List.setIfInBounds_toArray, List.set]
  refine wpAnyH_take (i := 9) (v := undef) rfl (by kernel_rfl) (by kernel_rfl) (by kernel_rfl) (fun _ _ _ h => h) (Or.inr ⟨by rfl, rfl⟩) hb3 ?_
  try simp only [List.getElem_toArray, List.getElem_cons_succ, List.getElem_cons_zero, Act.put, List.setIfInBounds_toArray, List.set]
  refine wpAnyH_take (i := 10) (v := undef) rfl (by kernel_rfl) (by kernel_rfl) (by kernel_rfl) (fun _ _ _ h => h) (Or.inr ⟨by rfl, rfl⟩) hb3 ?_
  try simp only [List.getElem_toArray, List.getElem_cons_succ, List.getElem_cons_zero, Act.put, List.setIfInBounds_toArray, List.set]
  refine wpAnyH_take (i := 11) (v := undef) rfl (by kernel_rfl) (by kernel_rfl) (by kernel_rfl) (fun _ _ _ h => h) (Or.inr ⟨by rfl, rfl⟩) hb3 ?_
  try simp only [List.getElem_toArray, List.getElem_cons_succ, List.getElem_cons_zero, Act.put, List.setIfInBounds_toArray, List.set]
  refine wpAnyH_take (i := 12) (v := undef) rfl (by kernel_rfl) (by kernel_rfl) (by kernel_rfl) (fun _ _ _ h => h) (Or.inr ⟨by rfl, rfl⟩) hb3 ?_
  try simp only [List.getElem_toArray, List.getElem_cons_succ, List.getElem_cons_zero, Act.put, List.setIfInBounds_toArray, List.set]
  refine wpAnyH_take (i := 13) (v := undef) rfl (by kernel_rfl) (by kernel_rfl) (by kernel_rfl) (fun _ _ _ h => h) (Or.inr ⟨by rfl, rfl⟩) hb3 ?_
  try simp only [List.getElem_toArray, List.getElem_cons_succ, List.getElem_cons_zero, Act.put, List.setIfInBounds_toArray, List.set]
  refine wpAnyH_take (i := 14) (v := undef) rfl (by kernel_rfl) (by kernel_rfl) (by kernel_rfl) (fun _ _ _ h => h) (Or.inr ⟨by rfl, rfl⟩) hb3 ?_
  try simp only [List.getElem_toArray, List.getElem_cons_succ, List.getElem_cons_zero, Act.put, List.setIfInBounds_toArray, List.set]
  refine wpAnyH_take (i := 15) (v := .bool true) rfl (by kernel_rfl) (by kernel_rfl) (by kernel_rfl) (fun _ _ _ h => h) (Or.inl ⟨by rfl, ?_⟩) hb3 ?_
  · intro w' _; go_simp
  try simp only [List.getElem_toArray, List.getElem_cons_succ, List.getElem_cons_zero, Act.put, List.setIfInBounds_toArray, List.set]
  refine wpAnyH_done (by kernel_rfl) ?_ _
  go_wp2
  first | go_ret2 | (refine bodyPost_ret (v := .tuple #[.slice none 0 0, .nilIface]) (by simp [results, Tryd.results56, go_sem]) rfl ?_)
  exact .inr ⟨hnot, rfl, hbel1.trans (hb3.mono hbel1.size)⟩

set_option maxRecDepth 100000 in
set_option maxHeartbeats 8000000 in
/-- standing: a record of k changes may be there. -/
theorem stand_fits (h : PrAt g gd first n m used w) (hO : RingOk first n m used) (hD : PD S F gd w) (hB : Byt S) (ho : S.off = false) (hin : first + n ≤ S.firm.length) (hyes : fitsB (n - used) (kOf (pgOf (imgB S) first n) m) = true) :
    Calls Tryd.prog 56 #[.pointer (some ⟨g, 0, none⟩)] w (StandP (pgOf (imgB S) first n) (n - used) m w) := by
  have hpl := fun i => pg_len (S := S) (first := first) (n := n) hB hin (by have := hO.n0; omega) i
  have hrd := pread_on h hO hD hB ho hin 1 (by omega) (by omega)
  have hfit := (fitsB_iff _ _).1 hyes
  have HR2 := Lib.hid (fun W (hW : Below w.heap.size w W) (L : Nat) (h0 : 0 < L) (h1 : L ≤ 4096) => pread_on (h.below hW) hO (hD.below hW) hB ho hin L h0 h1)
  obtain ⟨pg, Hpg⟩ : ∃ pg, Hid (pg = pgOf (imgB S) first n) := ⟨_, rfl⟩
  rw [← Hpg.out] at hrd hyes hfit hpl ⊢
  have HR3 : Hid (∀ W (hW : Below w.heap.size w W) (L : Nat) (h0 : 0 < L) (h1 : L ≤ 4096), Calls Tryd.prog 69 #[.pointer (some ⟨g, 0, none⟩), .int .i64 L] W (ReadP (recPages pg m.place L) L false W)) := by rw [Hpg.out]; exact HR2.out
  clear HR2
  have e1 : recPages pg m.place 1 = [pg m.place] := by simp [recPages]
  rw [e1] at hrd
  obtain ⟨k, hk⟩ : ∃ k, kOf pg m = k := ⟨_, rfl⟩
  rw [hk] at hyes hfit
  have hp64 := hpl m.place
  obtain ⟨T, hT⟩ : ∃ T, takes k = T := ⟨_, rfl⟩
  have hT3 : 3 ≤ T ∧ T ≤ 65 := by rw [← hT]; unfold takes; omega
  obtain ⟨bb, hbb⟩ : ∃ bb : Bool, decide ((pg m.place).take 10 = head10 m.num k) = bb := ⟨_, rfl⟩
  have heq : ∀ W : World, (Op.equalIn 10000 153 (.agg (((pg m.place).take 10).map cu8).toArray) (.agg ((head10 m.num k).map cu8).toArray)).run Tryd.prog W = .ok bb W := fun W => by
    rw [← hbb]; exact eqIn10 _ _ (by simp; omega) (head10_length _ _) W
  have Hbb := Lib.hid hbb
  clear hbb
  go_enter Tryd.func56, Tryd.ntmps56
  go_wp2_with (go_at_call 69; refine hrd.mono ?_)
  rintro e w1 hp1
  obtain ⟨_, b1, hb1, rfl, hr1, hbel1⟩ := hp1.resolve_right (fun h => by cases h.1)
  clear hrd hp1
  have hct := pcount_any hr1 1 1 (by omega)
  have hkk : (at8 (pg m.place) 9).toNat = k := hk
  rw [hkk] at hct
  go_upto_region 5 with (go_at_call 70; refine hct.mono ?_; rintro e w' ⟨rfl, rfl⟩)
  clear hct hkk
  obtain ⟨A10, HA10⟩ : ∃ A10 : Array Value, Hid (A10 = (((pg m.place).take 10).map cu8).toArray) := ⟨_, rfl⟩
  obtain ⟨B10, HB10⟩ : ∃ B10 : Array Value, Hid (B10 = ((head10 m.num k).map cu8).toArray) := ⟨_, rfl⟩
  rw [← HA10.out, ← HB10.out] at heq
  have Hft := Lib.hid (fun W (hW : Below w1.heap.size w1 W) => by have := fits_any ((h.below hbel1).below hW) hO k (by omega); rw [hyes] at this; exact this)
  have Hop := Lib.hid (fun W (hW : Below w1.heap.size w1 W) => by have := opening_any (hr1.below hW) 1 1 (by omega); rw [← HA10.out] at this; exact this)
  have Hod := Lib.hid (fun W (hW : Below w1.heap.size w1 W) => by have := opened_any m.num k W; rw [← HB10.out] at this; exact this)
  have HS := Lib.hid (h.below hbel1)
  refine wp_region_held (S := fun w' => Below w1.heap.size w1 w') (by kernel_rfl) ?_
  have hb2 : Below w1.heap.size w1 { w1 with drawn := w1.drawn + 1 } := ⟨rfl, rfl, rfl, Nat.le_refl _, fun _ _ => rfl⟩
  obtain ⟨wd, hdr⟩ : ∃ wd : World, ({ w1 with drawn := w1.drawn + 1 } : World) = wd := ⟨_, rfl⟩
  rw [hdr] at hb2 ⊢
  clear hdr
  refine wpAnyH_take (i := 0) (v := .pointer (some ⟨g, 0, none⟩)) rfl (by kernel_rfl) (by kernel_rfl) (by kernel_rfl) (fun _ _ _ h => h) (Or.inl ⟨by rfl, ?_⟩) hb2 ?_
  · intro w' _; go_simp
  try simp only [List.getElem_toArray, List.getElem_cons_succ, List.getElem_cons_zero, Act.put, List.setIfInBounds_toArray, List.set]
  refine wpAnyH_take (i := 1) (v := .int .i64 k) rfl (by kernel_rfl) (by kernel_rfl) (by kernel_rfl) (fun _ _ _ h => h) (Or.inl ⟨by rfl, ?_⟩) hb2 ?_
  · intro w' _; go_simp
  try simp only [List.getElem_toArray, List.getElem_cons_succ, List.getElem_cons_zero, Act.put, List.setIfInBounds_toArray, List.set]
  refine wpAnyH_oneR 2 _ rfl (by kernel_rfl) (by rfl) (fun K hK => ?_)
  go_simp
  refine (Hft.out _ hb2).mono ?_
  rintro e w7 ⟨rfl, mq, rfl⟩
  have hb3 := hb2.trans (below_drewN wd mq _)
  generalize hwn : wd.drewN mq = w3 at *
  refine hK _ _ hb3 ?_
  clear hK K
  try simp only [List.getElem_toArray, List.getElem_cons_succ, List.getElem_cons_zero, Act.put, List.setIfInBounds_toArray, List.set]
  clear hwn
  refine wpAnyH_take (i := 3) (v := .bool false) rfl (by kernel_rfl) (by kernel_rfl) (by kernel_rfl) (fun _ _ _ h => h) (Or.inl ⟨by rfl, ?_⟩) hb3 ?_
  · intro w' _; go_simp
  try simp only [List.getElem_toArray, List.getElem_cons_succ, List.getElem_cons_zero, Act.put, List.setIfInBounds_toArray, List.set]
  refine wpAnyH_take (i := 4) (v := .bool false) rfl (by kernel_rfl) (by kernel_rfl) (by kernel_rfl) (fun _ _ _ h => h) (Or.inl ⟨by rfl, ?_⟩) hb3 ?_
  · intro w' _; go_simp
  try simp only [List.getElem_toArray, List.getElem_cons_succ, List.getElem_cons_zero, Act.put, List.setIfInBounds_toArray, List.set]
  refine wpAnyH_take (i := 5) (v := .slice (some ⟨b1, 0, none⟩) 1 1) rfl (by kernel_rfl) (by kernel_rfl) (by kernel_rfl) (fun _ _ _ h => h) (Or.inl ⟨by rfl, ?_⟩) hb3 ?_
  · intro w' _; go_simp
  try simp only [List.getElem_toArray, List.getElem_cons_succ, List.getElem_cons_zero, Act.put, List.setIfInBounds_toArray, List.set]
  refine wpAnyH_take (i := 7) (v := .pointer (some ⟨g, 0, none⟩)) rfl (by kernel_rfl) (by kernel_rfl) (by kernel_rfl) (fun _ _ _ h => h) (Or.inl ⟨by rfl, ?_⟩) hb3 ?_
  · intro w' _; go_simp
  try simp only [List.getElem_toArray, List.getElem_cons_succ, List.getElem_cons_zero, Act.put, List.setIfInBounds_toArray, List.set]
  refine wpAnyH_take (i := 8) (v := .pointer (some ⟨g, 0, none⟩)) rfl (by kernel_rfl) (by kernel_rfl) (by kernel_rfl) (fun _ _ _ h => h) (Or.inl ⟨by rfl, ?_⟩) hb3 ?_
  · intro w' _; go_simp
  try simp only [List.getElem_toArray, List.getElem_cons_succ, List.getElem_cons_zero, Act.put, List.setIfInBounds_toArray, List.set]
  refine wpAnyH_take (i := 9) (v := .pointer (some ⟨g, 3, none⟩)) rfl (by kernel_rfl) (by kernel_rfl) (by kernel_rfl) (fun _ _ _ h => h) (Or.inl ⟨by rfl, ?_⟩) hb3 ?_
  · intro w' _; go_simp
  try simp only [List.getElem_toArray, List.getElem_cons_succ, List.getElem_cons_zero, Act.put, List.setIfInBounds_toArray, List.set]
  refine wpAnyH_take (i := 10) (v := .pointer (some ⟨g, 4, none⟩)) rfl (by kernel_rfl) (by kernel_rfl) (by kernel_rfl) (fun _ _ _ h => h) (Or.inl ⟨by rfl, ?_⟩) hb3 ?_
  · intro w' _; go_simp
  try simp only [List.getElem_toArray, List.getElem_cons_succ, List.getElem_cons_zero, Act.put, List.setIfInBounds_toArray, List.set]
  refine wpAnyH_take (i := 11) (v := .int .u64 m.num) rfl (by kernel_rfl) (by kernel_rfl) (by kernel_rfl) (fun _ _ _ h => h) (Or.inl ⟨by rfl, ?_⟩) hb3 ?_
  · intro w' hS'
    obtain ⟨c0, c1, c2, c3, c4, c37⟩ := PrAt.cells (HS.out.below hS')
    clear hS'
    go_simp
  try simp only [List.getElem_toArray, List.getElem_cons_succ, List.getElem_cons_zero, Act.put, List.setIfInBounds_toArray, List.set]
  refine wpAnyH_take (i := 12) (v := .int .i64 k) rfl (by kernel_rfl) (by kernel_rfl) (by kernel_rfl) (fun _ _ _ h => h) (Or.inl ⟨by rfl, ?_⟩) hb3 ?_
  · intro w' _; go_simp
  try simp only [List.getElem_toArray, List.getElem_cons_succ, List.getElem_cons_zero, Act.put, List.setIfInBounds_toArray, List.set]
  refine wpAnyH_oneR 6 _ rfl (by kernel_rfl) (by rfl) (fun K hK => ?_)
  go_simp
  refine (Hop.out _ hb3).mono ?_
  rintro e w4 ⟨rv, hrv, rfl, hq⟩
  obtain rfl : rv = A10 := hrv.out
  have hb4 := hb3.trans (hq.mono hb3.size)
  refine hK _ _ hb4 ?_
  clear hK K
  try simp only [List.getElem_toArray, List.getElem_cons_succ, List.getElem_cons_zero, Act.put, List.setIfInBounds_toArray, List.set]
  clear hq hrv
  refine wpAnyH_oneR 13 _ rfl (by kernel_rfl) (by rfl) (fun K hK => ?_)
  go_simp
  refine (Hod.out _ hb4).mono ?_
  rintro e w5 ⟨rv, hrv, rfl, hq⟩
  obtain rfl : rv = B10 := hrv.out
  have hb5 := hb4.trans (hq.mono hb4.size)
  refine hK _ _ hb5 ?_
  clear hK K
  try simp only [List.getElem_toArray, List.getElem_cons_succ, List.getElem_cons_zero, Act.put, List.setIfInBounds_toArray, List.set]
  clear hq hrv
  refine wpAnyH_take (i := 14) (v := .bool (!bb)) rfl (by kernel_rfl) (by kernel_rfl) (by kernel_rfl) (fun _ _ _ h => h) (Or.inl ⟨by rfl, ?_⟩) hb5 ?_
  · intro w' _; go_simp
  try simp only [List.getElem_toArray, List.getElem_cons_succ, List.getElem_cons_zero, Act.put, List.setIfInBounds_toArray, List.set]
  refine wpAnyH_take (i := 15) (v := .bool (!bb)) rfl (by kernel_rfl) (by kernel_rfl) (by kernel_rfl) (fun _ _ _ h => h) (Or.inl ⟨by rfl, ?_⟩) hb5 ?_
  · intro w' _; go_simp
  try simp only [List.getElem_toArray, List.getElem_cons_succ, List.getElem_cons_zero, Act.put, List.setIfInBounds_toArray, List.set]
  refine wpAnyH_done (by kernel_rfl) ?_ _
  clear Hft Hop Hod heq hb2
  have hbel5 := hbel1.trans (hb5.mono hbel1.size)
  clear HS hb5 hb4 hb3 hr1 hb1
  cases bb with
  | false =>
    have hnot : ¬ holds pg (n - used) m := fun hh => by
      have := hh.1.1
      rw [hk] at this
      have h2 := Hbb.out
      rw [decide_eq_true this] at h2; cases h2
    go_wp2
    first | go_ret2 | (refine bodyPost_ret (v := .tuple #[.slice none 0 0, .nilIface]) (by simp [results, Tryd.results56, go_sem]) rfl ?_)
    exact .inr ⟨hnot, rfl, hbel5⟩
  | true =>
    have hbeg : begins pg (n - used) m := by
      refine ⟨?_, ?_⟩
      · rw [hk]; exact of_decide_eq_true Hbb.out
      · rw [hk]; exact hfit
    have hsz := psize_any k (by omega) w5
    rw [hT] at hsz
    go_wp2_with (first
      | (go_at_call 44; refine hsz.mono ?_; rintro e w' ⟨rfl, rfl⟩)
      | (go_at_call 69; refine (HR3.out _ hbel5 T (by omega) (by omega)).mono ?_))
    rintro e w6 hp1
    obtain ⟨_, b6, hb6, rfl, hr6, hbel6⟩ := hp1.resolve_right (fun h => by cases h.1)
    clear hp1 hsz
    have hrec : recPages pg m.place T = pg m.place :: rest pg m.place k := by rw [← hT]; exact recPages_rest pg m.place k
    rw [hrec] at hr6
    have hbelW := hbel5.trans (hbel6.mono hbel5.size)
    have hlr : (rest pg m.place k).length + 1 = T := by simp only [rest, List.length_map, List.length_range]; omega
    go_upto_region 10 with (fail)
    obtain ⟨D1, HD1⟩ : ∃ D1 : Array Value, Hid (D1 = ((((pg m.place).drop 10).take 32).map cu8).toArray) := ⟨_, rfl⟩
    obtain ⟨D2, HD2⟩ : ∃ D2 : Array Value, Hid (D2 = ((dig (rawText pg m)).map cu8).toArray) := ⟨_, rfl⟩
    obtain ⟨cc, hcc⟩ : ∃ cc : Bool, decide (((pg m.place).drop 10).take 32 = dig (rawText pg m)) = cc := ⟨_, rfl⟩
    have heq : ∀ W : World, (Op.equalIn 10000 23 (.agg D1) (.agg D2)).run Tryd.prog W = .ok cc W := fun W => by
      rw [← hcc, HD1.out, HD2.out]; exact eqIn32 _ _ (by simp; omega) (dig_len _) W
    have hraw : rawText pg m = m.last ++ ((pg m.place).take 10 ++ (rest pg m.place k).flatten) := by unfold rawText; rw [hk]
    have hS6 := h.below hbelW
    obtain ⟨lv, Hlv⟩ : ∃ lv : List Value, Hid (lv = m.last.map cu8) := ⟨_, rfl⟩
    have Hwr := Lib.hid (fun W (hW : Below w6.heap.size w6 W) => by have := written_any (hr6.below hW) T T (by omega); rw [← HD1.out] at this; exact this)
    have Hdg := Lib.hid (fun W (hW : Below w6.heap.size w6 W) => by have := pdigest_any (hr6.below hW) T T hlr.symm (by omega) (by omega) (by omega) m.last h.last; rw [← hraw, ← HD2.out, ← Hlv.out] at this; exact this)
    have HL := Lib.hid (fun W (hW : Below w6.heap.size w6 W) => by
      have hl := (hS6.below hW).lastAt
      rw [← Hlv.out] at hl
      exact run_loadAt_mid (P := Tryd.prog) W g 5 23 lv _ hl Tryd.underlying23 rfl (by rw [Hlv.out, List.length_map, h.last]; kernel_rfl))
    have Hcc := Lib.hid hcc
    clear hcc hraw hS6
    refine wp_region_held (S := fun w' => Below w6.heap.size w6 w') (by kernel_rfl) ?_
    have hb7 : Below w6.heap.size w6 { w6 with drawn := w6.drawn + 1 } := ⟨rfl, rfl, rfl, Nat.le_refl _, fun _ _ => rfl⟩
    obtain ⟨wd7, hdr⟩ : ∃ wd7 : World, ({ w6 with drawn := w6.drawn + 1 } : World) = wd7 := ⟨_, rfl⟩
    rw [hdr] at hb7 ⊢
    clear hdr
    refine wpAnyH_take (i := 0) (v := .slice (some ⟨b6, 0, none⟩) T T) rfl (by kernel_rfl) (by kernel_rfl) (by kernel_rfl) (fun _ _ _ h => h) (Or.inl ⟨by rfl, ?_⟩) hb7 ?_
    · intro w' _; go_simp
    try simp only [List.getElem_toArray, List.getElem_cons_succ, List.getElem_cons_zero, Act.put, List.setIfInBounds_toArray, List.set]
    refine wpAnyH_take (i := 2) (v := .pointer (some ⟨g, 0, none⟩)) rfl (by kernel_rfl) (by kernel_rfl) (by kernel_rfl) (fun _ _ _ h => h) (Or.inl ⟨by rfl, ?_⟩) hb7 ?_
    · intro w' _; go_simp
    try simp only [List.getElem_toArray, List.getElem_cons_succ, List.getElem_cons_zero, Act.put, List.setIfInBounds_toArray, List.set]
    refine wpAnyH_take (i := 3) (v := .pointer (some ⟨g, 0, none⟩)) rfl (by kernel_rfl) (by kernel_rfl) (by kernel_rfl) (fun _ _ _ h => h) (Or.inl ⟨by rfl, ?_⟩) hb7 ?_
    · intro w' _; go_simp
    try simp only [List.getElem_toArray, List.getElem_cons_succ, List.getElem_cons_zero, Act.put, List.setIfInBounds_toArray, List.set]
    refine wpAnyH_take (i := 4) (v := .pointer (some ⟨g, 3, none⟩)) rfl (by kernel_rfl) (by kernel_rfl) (by kernel_rfl) (fun _ _ _ h => h) (Or.inl ⟨by rfl, ?_⟩) hb7 ?_
    · intro w' _; go_simp
    try simp only [List.getElem_toArray, List.getElem_cons_succ, List.getElem_cons_zero, Act.put, List.setIfInBounds_toArray, List.set]
    refine wpAnyH_take (i := 5) (v := .pointer (some ⟨g, 5, none⟩)) rfl (by kernel_rfl) (by kernel_rfl) (by kernel_rfl) (fun _ _ _ h => h) (Or.inl ⟨by rfl, ?_⟩) hb7 ?_
    · intro w' _; go_simp
    try simp only [List.getElem_toArray, List.getElem_cons_succ, List.getElem_cons_zero, Act.put, List.setIfInBounds_toArray, List.set]
    refine wpAnyH_take (i := 6) (v := .agg lv.toArray) rfl (by kernel_rfl) (by kernel_rfl) (by kernel_rfl) (fun _ _ _ h => h) (Or.inl ⟨by rfl, ?_⟩) hb7 ?_
    · intro w' hS'; exact exec_load _ _ 23 _ rfl g 5 rfl _ (HL.out w' hS')
    try simp only [List.getElem_toArray, List.getElem_cons_succ, List.getElem_cons_zero, Act.put, List.setIfInBounds_toArray, List.set]
    refine wpAnyH_take (i := 7) (v := .slice (some ⟨b6, 0, none⟩) T T) rfl (by kernel_rfl) (by kernel_rfl) (by kernel_rfl) (fun _ _ _ h => h) (Or.inl ⟨by rfl, ?_⟩) hb7 ?_
    · intro w' _; go_simp
    try simp only [List.getElem_toArray, List.getElem_cons_succ, List.getElem_cons_zero, Act.put, List.setIfInBounds_toArray, List.set]
    refine wpAnyH_oneR 1 _ rfl (by kernel_rfl) (by rfl) (fun K hK => ?_)
    go_simp
    refine (Hwr.out _ hb7).mono ?_
    rintro e w8 ⟨rv, hrv, rfl, hq⟩
    obtain rfl : rv = D1 := hrv.out
    have hb8 := hb7.trans (hq.mono hb7.size)
    refine hK _ _ hb8 ?_
    clear hK K
    try simp only [List.getElem_toArray, List.getElem_cons_succ, List.getElem_cons_zero, Act.put, List.setIfInBounds_toArray, List.set]
    clear hq hrv
    refine wpAnyH_oneR 8 _ rfl (by kernel_rfl) (by rfl) (fun K hK => ?_)
    go_simp
    refine (Hdg.out _ hb8).mono ?_
    rintro e w9 ⟨rv, hrv, rfl, hq⟩
    obtain rfl : rv = D2 := hrv.out
    have hb9 := hb8.trans (hq.mono hb8.size)
    refine hK _ _ hb9 ?_
    clear hK K
    try simp only [List.getElem_toArray, List.getElem_cons_succ, List.getElem_cons_zero, Act.put, List.setIfInBounds_toArray, List.set]
    clear hq hrv
    refine wpAnyH_take (i := 9) (v := .bool (!cc)) rfl (by kernel_rfl) (by kernel_rfl) (by kernel_rfl) (fun _ _ _ h => h) (Or.inl ⟨by rfl, ?_⟩) hb9 ?_
    · intro w' _; go_simp
    try simp only [List.getElem_toArray, List.getElem_cons_succ, List.getElem_cons_zero, Act.put, List.setIfInBounds_toArray, List.set]
    refine wpAnyH_done (by kernel_rfl) ?_ _
    clear heq Hwr Hdg HL hb7 hb8
    have hbelZ := hbelW.trans (hb9.mono hbelW.size)
    cases cc with
    | false =>
      have hnot : ¬ holds pg (n - used) m := fun hh => by
        have h2 := Hcc.out
        rw [decide_eq_true hh.2.symm] at h2; cases h2
      go_wp2
      first | go_ret2 | (refine bodyPost_ret (v := .tuple #[.slice none 0 0, .nilIface]) (by simp [results, Tryd.results56, go_sem]) rfl ?_)
      exact .inr ⟨hnot, rfl, hbelZ⟩
    | true =>
      have hyesH : holds pg (n - used) m := ⟨hbeg, (of_decide_eq_true Hcc.out).symm⟩
      go_wp2
      first | go_ret2 | (refine bodyPost_ret (v := .tuple #[.slice (some ⟨b6, 0, none⟩) T T, .nilIface]) (by simp [results, Tryd.results56, go_sem]) rfl ?_)
      refine .inl ⟨hyesH, b6, by have := hbel5.size; omega, ?_, ?_, hbelZ⟩
      · rw [hk, hT]; rfl
      · rw [hk]; exact hr6.below hb9
theorem stand_any (h : PrAt g gd first n m used w) (hO : RingOk first n m used) (hD : PD S F gd w) (hB : Byt S) (ho : S.off = false) (hin : first + n ≤ S.firm.length) :
    Calls Tryd.prog 56 #[.pointer (some ⟨g, 0, none⟩)] w (StandP (pgOf (imgB S) first n) (n - used) m w) := by
  cases hf : fitsB (n - used) (kOf (pgOf (imgB S) first n) m) with
  | false => exact stand_no h hO hD hB ho hin hf
  | true => exact stand_fits h hO hD hB ho hin hf
end
end Go.Proofs.YtegdlpllljccgaaDoor
