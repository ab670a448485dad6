import Derived.Test.YtjkkbceddbkejaaGreatDoorJPra
import Derived.WalkSpells
set_option linter.unusedSimpArgs false
set_option linter.unusedVariables false
/-
  The program's ring: standing.
-/
namespace Go.Proofs.YtjkkbceddbkejaaGreatDoor
open Go.RowKit Sh Go.Extern.Stop Go.Stop Go.Extern

/-- '!=' of arrays of ten bytes, and of 32. -/
theorem eqIn10 (l1 l2 : List UInt8) (h1 : l1.length = 10) (h2 : l2.length = 10) (W : World) : (Op.equalIn 10000 220 (.agg (l1.map cu8).toArray) (.agg (l2.map cu8).toArray)).run Tryz.prog W = .ok (decide (l1 = l2)) W :=
  run_items (P := Tryz.prog) 220 5 10 Tryz.underlying220 Tryz.underlying5 (by kernel_rfl) l1 l2 h1 h2 W
theorem eqIn32 (l1 l2 : List UInt8) (h1 : l1.length = 32) (h2 : l2.length = 32) (W : World) : (Op.equalIn 10000 56 (.agg (l1.map cu8).toArray) (.agg (l2.map cu8).toArray)).run Tryz.prog W = .ok (decide (l1 = l2)) W :=
  run_items (P := Tryz.prog) 56 5 32 Tryz.underlying56 Tryz.underlying5 (by kernel_rfl) l1 l2 h1 h2 W
def StandP (pg : Nat → List UInt8) (free : Nat) (m : Mk) (w : World) (e : Ending) (w' : World) : Prop :=
  (holds pg free m ∧ ∃ b, w.heap.size ≤ b ∧ e = .returned (.tuple #[.slice (some ⟨b, 0, none⟩) (takes (kOf pg m)) (takes (kOf pg m)), .nilIface]) ∧ RecAt b (pg m.place :: rest pg m.place (kOf pg m)) w' ∧ Below w.heap.size w w') ∨
  (¬ holds pg free m ∧ e = .returned (.tuple #[.slice none 0 0, .nilIface]) ∧ Below w.heap.size w w')
section
variable {g gd first n used : Nat} {m : Mk} {S : St} {F : Nat → Prop} {w w' : World}
set_option maxRecDepth 100000 in
set_option maxHeartbeats 4000000 in
/-- standing: nothing fits. -/
theorem stand_no (h : PrAt g gd first n m used w) (hO : RingOk first n m used) (hD : PD S F gd w) (hB : Byt S) (ho : S.off = false) (hin : first + n ≤ S.firm.length) (hno : fitsB (n - used) (kOf (pgOf (imgB S) first n) m) = false) :
    Calls Tryz.prog 132 #[.pointer (some ⟨g, 0, none⟩)] w (StandP (pgOf (imgB S) first n) (n - used) m w) := by
  have hrd := pread_on h hO hD hB ho hin 1 (by omega) (by omega)
  have hnot : ¬ holds (pgOf (imgB S) first n) (n - used) m := fun hh => by
    have := (fitsB_iff (n - used) (kOf (pgOf (imgB S) first n) m)).2 hh.1.2
    rw [hno] at this; cases this
  obtain ⟨pg, Hpg⟩ : ∃ pg, Hid (pg = pgOf (imgB S) first n) := ⟨_, rfl⟩
  rw [← Hpg.out] at hrd hno hnot ⊢
  have e1 : recPages pg m.place 1 = [pg m.place] := by simp [recPages]
  rw [e1] at hrd
  obtain ⟨k, hk⟩ : ∃ k, kOf pg m = k := ⟨_, rfl⟩
  rw [hk] at hno
  have hk256 : k < 256 := by rw [← hk]; exact (at8 (pg m.place) 9).toNat_lt
  go_enter Tryz.func132, Tryz.ntmps132
  go_wp2_with (go_at_call 144; refine hrd.mono ?_)
  rintro e w1 hp1
  obtain ⟨_, b1, hb1, rfl, hr1, hbel1⟩ := hp1.resolve_right (fun h => by cases h.1)
  clear hrd hp1
  have hct := pcount_any hr1 1 1 (by omega)
  have hkk : (at8 (pg m.place) 9).toNat = k := hk
  rw [hkk] at hct
  go_upto_region 5 with (go_at_call 145; refine hct.mono ?_; rintro e w' ⟨rfl, rfl⟩)
  clear hct hkk
  have Hft := Lib.hid (fun W (hW : Below w1.heap.size w1 W) => by have := fits_any ((h.below hbel1).below hW) hO k (by omega); rw [hno] at this; exact this)
  refine wp_region_held (S := fun w' => Below w1.heap.size w1 w') (by kernel_rfl) ?_
  have hb2 : Below w1.heap.size w1 { w1 with drawn := w1.drawn + 1 } := ⟨rfl, rfl, rfl, Nat.le_refl _, fun _ _ => rfl⟩
  obtain ⟨wd, hdr⟩ : ∃ wd : World, ({ w1 with drawn := w1.drawn + 1 } : World) = wd := ⟨_, rfl⟩
  rw [hdr] at hb2 ⊢
  clear hdr
  refine wpAnyH_take (i := 0) (v := .pointer (some ⟨g, 0, none⟩)) rfl (by kernel_rfl) (by kernel_rfl) (by kernel_rfl) (fun _ _ _ h => h) (Or.inl ⟨by rfl, ?_⟩) hb2 ?_
  · intro w' _; go_simp
  try simp only [List.getElem_toArray, List.getElem_cons_succ, List.getElem_cons_zero, Act.put, List.setIfInBounds_toArray, List.set]
  refine wpAnyH_take (i := 1) (v := .int .i64 k) rfl (by kernel_rfl) (by kernel_rfl) (by kernel_rfl) (fun _ _ _ h => h) (Or.inl ⟨by rfl, ?_⟩) hb2 ?_
  · intro w' _; go_simp
  try simp only [List.getElem_toArray, List.getElem_cons_succ, List.getElem_cons_zero, Act.put, List.setIfInBounds_toArray, List.set]
  refine wpAnyH_oneR 2 _ rfl (by kernel_rfl) (by rfl) (fun K hK => ?_)
  go_simp
  refine (Hft.out _ hb2).mono ?_
  rintro e w7 ⟨rfl, mq, rfl⟩
  have hb3 := hb2.trans (below_drewN wd mq _)
  generalize hwn : wd.drewN mq = w3 at *
  refine hK _ _ hb3 ?_
  clear hK K
  try simp only [List.getElem_toArray, List.getElem_cons_succ, List.getElem_cons_zero, Act.put, List.setIfInBounds_toArray, List.set]
  clear hwn
  refine wpAnyH_take (i := 3) (v := .bool true) rfl (by kernel_rfl) (by kernel_rfl) (by kernel_rfl) (fun _ _ _ h => h) (Or.inl ⟨by rfl, ?_⟩) hb3 ?_
  · intro w' _; go_simp
  try simp only [List.getElem_toArray, List.getElem_cons_succ, List.getElem_cons_zero, Act.put, List.setIfInBounds_toArray, List.set]
  refine wpAnyH_take (i := 4) (v := .bool true) rfl (by kernel_rfl) (by kernel_rfl) (by kernel_rfl) (fun _ _ _ h => h) (Or.inl ⟨by rfl, ?_⟩) hb3 ?_
  · intro w' _; go_simp
  try simp only [List.getElem_toArray, List.getElem_cons_succ, List.getElem_cons_zero, Act.put, List.setIfInBounds_toArray, List.set]
  refine wpAnyH_take (i := 5) (v := undef) rfl (by kernel_rfl) (by kernel_rfl) (by kernel_rfl) (fun _ _ _ h => h) (Or.inr ⟨by rfl, rfl⟩) hb3 ?_
  try simp only [List.getElem_toArray, List.getElem_cons_succ, List.getElem_cons_zero, Act.put, List.setIfInBounds_toArray, List.set]
  refine wpAnyH_take (i := 6) (v := undef) rfl (by kernel_rfl) (by kernel_rfl) (by kernel_rfl) (fun _ _ _ h => h) (Or.inr ⟨by rfl, rfl⟩) hb3 ?_
  try simp only [List.getElem_toArray, List.getElem_cons_succ, List.getElem_cons_zero, Act.put, List.setIfInBounds_toArray, List.set]
  refine wpAnyH_take (i := 7) (v := undef) rfl (by kernel_rfl) (by kernel_rfl) (by kernel_rfl) (fun _ _ _ h => h) (Or.inr ⟨by rfl, rfl⟩) hb3 ?_
  try simp only [List.getElem_toArray, List.getElem_cons_succ, List.getElem_cons_zero, Act.put, List.setIfInBounds_toArray, List.set]
  refine wpAnyH_take (i := 8) (v := undef) rfl (by kernel_rfl) (by kernel_rfl) (by kernel_rfl) (fun _ _ _ h => h) (Or.inr ⟨by rfl, rfl⟩) hb3 ?_
  try simp only [List.getElem_toArray, List.getElem_cons_succ, List.getElem_cons_zero, Act.put, List.setIfInBounds_toArray, List.set]
  refine wpAnyH_take (i := 9) (v := undef) rfl (by kernel_rfl) (by kernel_rfl) (by kernel_rfl) (fun _ _ _ h => h) (Or.inr ⟨by rfl, rfl⟩) hb3 ?_
  try simp only [List.getElem_toArray, List.getElem_cons_succ, List.getElem_cons_zero, Act.put, List.setIfInBounds_toArray, List.set]
  refine wpAnyH_take (i := 10) (v := undef) rfl (by kernel_rfl) (by kernel_rfl) (by kernel_rfl) (fun _ _ _ h => h) (Or.inr ⟨by rfl, rfl⟩) hb3 ?_
  try simp only [List.getElem_toArray, List.getElem_cons_succ, List.getElem_cons_zero, Act.put, List.setIfInBounds_toArray, List.set]
  refine wpAnyH_take (i := 11) (v := undef) rfl (by kernel_rfl) (by kernel_rfl) (by kernel_rfl) (fun _ _ _ h => h) (Or.inr ⟨by rfl, rfl⟩) hb3 ?_
  try simp only [List.getElem_toArray, List.getElem_cons_succ, List.getElem_cons_zero, Act.put, List.setIfInBounds_toArray, List.set]
  refine wpAnyH_take (i := 12) (v := undef) rfl (by kernel_rfl) (by kernel_rfl) (by kernel_rfl) (fun _ _ _ h => h) (Or.inr ⟨by rfl, rfl⟩) hb3 ?_
  try simp only [List.getElem_toArray, List.getElem_cons_succ, List.getElem_cons_zero, Act.put, List.setIfInBounds_toArray, List.set]
  refine wpAnyH_take (i := 13) (v := undef) rfl (by kernel_rfl) (by kernel_rfl) (by kernel_rfl) (fun _ _ _ h => h) (Or.inr ⟨by rfl, rfl⟩) hb3 ?_
  try simp only [List.getElem_toArray, List.getElem_cons_succ, List.getElem_cons_zero, Act.put, List.setIfInBounds_toArray, List.set]
  refine wpAnyH_take (i := 14) (v := undef) rfl (by kernel_rfl) (by kernel_rfl) (by kernel_rfl) (fun _ _ _ h => h) (Or.inr ⟨by rfl, rfl⟩) hb3 ?_
  try simp only [List.getElem_toArray, List.getElem_cons_succ, List.getElem_cons_zero, Act.put, List.setIfInBounds_toArray, List.set]
  refine wpAnyH_take (i := 15) (v := .bool true) rfl (by kernel_rfl) (by kernel_rfl) (by kernel_rfl) (fun _ _ _ h => h) (Or.inl ⟨by rfl, ?_⟩) hb3 ?_
  · intro w' _; go_simp
  try simp only [List.getElem_toArray, List.getElem_cons_succ, List.getElem_cons_zero, Act.put, List.setIfInBounds_toArray, List.set]
  refine wpAnyH_done (by kernel_rfl) ?_ _
  go_wp2
  first | go_ret2 | (refine bodyPost_ret (v := .tuple #[.slice none 0 0, .nilIface]) (by simp [results, Tryz.results132, go_sem]) rfl ?_)
  exact .inr ⟨hnot, rfl, hbel1.trans (hb3.mono hbel1.size)⟩

set_option maxRecDepth 100000 in
set_option maxHeartbeats 8000000 in
/-- standing: a record of k changes may be there. -/
theorem stand_fits (h : PrAt g gd first n m used w) (hO : RingOk first n m used) (hD : PD S F gd w) (hB : Byt S) (ho : S.off = false) (hin : first + n ≤ S.firm.length) (hyes : fitsB (n - used) (kOf (pgOf (imgB S) first n) m) = true) :
    Calls Tryz.prog 132 #[.pointer (some ⟨g, 0, none⟩)] w (StandP (pgOf (imgB S) first n) (n - used) m w) := by
  have hpl := fun i => pg_len (S := S) (first := first) (n := n) hB hin (by have := hO.n0; omega) i
  have hrd := pread_on h hO hD hB ho hin 1 (by omega) (by omega)
  have hfit := (fitsB_iff _ _).1 hyes
  have HR2 := Lib.hid (fun W (hW : Below w.heap.size w W) (L : Nat) (h0 : 0 < L) (h1 : L ≤ 4096) => pread_on (h.below hW) hO (hD.below hW) hB ho hin L h0 h1)
  obtain ⟨pg, Hpg⟩ : ∃ pg, Hid (pg = pgOf (imgB S) first n) := ⟨_, rfl⟩
  rw [← Hpg.out] at hrd hyes hfit hpl ⊢
  have HR3 : Hid (∀ W (hW : Below w.heap.size w W) (L : Nat) (h0 : 0 < L) (h1 : L ≤ 4096), Calls Tryz.prog 144 #[.pointer (some ⟨g, 0, none⟩), .int .i64 L] W (ReadP (recPages pg m.place L) L false W)) := by rw [Hpg.out]; exact HR2.out
  clear HR2
  have e1 : recPages pg m.place 1 = [pg m.place] := by simp [recPages]
  rw [e1] at hrd
  obtain ⟨k, hk⟩ : ∃ k, kOf pg m = k := ⟨_, rfl⟩
  rw [hk] at hyes hfit
  have hp64 := hpl m.place
  obtain ⟨T, hT⟩ : ∃ T, takes k = T := ⟨_, rfl⟩
  have hT3 : 3 ≤ T ∧ T ≤ 65 := by rw [← hT]; unfold takes; omega
  obtain ⟨bb, hbb⟩ : ∃ bb : Bool, decide ((pg m.place).take 10 = head10 m.num k) = bb := ⟨_, rfl⟩
  have heq : ∀ W : World, (Op.equalIn 10000 220 (.agg (((pg m.place).take 10).map cu8).toArray) (.agg ((head10 m.num k).map cu8).toArray)).run Tryz.prog W = .ok bb W := fun W => by
    rw [← hbb]; exact eqIn10 _ _ (by simp; omega) (head10_length _ _) W
  have Hbb := Lib.hid hbb
  clear hbb
  go_enter Tryz.func132, Tryz.ntmps132
  go_wp2_with (go_at_call 144; refine hrd.mono ?_)
  rintro e w1 hp1
  obtain ⟨_, b1, hb1, rfl, hr1, hbel1⟩ := hp1.resolve_right (fun h => by cases h.1)
  clear hrd hp1
  have hct := pcount_any hr1 1 1 (by omega)
  have hkk : (at8 (pg m.place) 9).toNat = k := hk
  rw [hkk] at hct
  go_upto_region 5 with (go_at_call 145; refine hct.mono ?_; rintro e w' ⟨rfl, rfl⟩)
  clear hct hkk
  obtain ⟨A10, HA10⟩ : ∃ A10 : Array Value, Hid (A10 = (((pg m.place).take 10).map cu8).toArray) := ⟨_, rfl⟩
  obtain ⟨B10, HB10⟩ : ∃ B10 : Array Value, Hid (B10 = ((head10 m.num k).map cu8).toArray) := ⟨_, rfl⟩
  rw [← HA10.out, ← HB10.out] at heq
  have Hft := Lib.hid (fun W (hW : Below w1.heap.size w1 W) => by have := fits_any ((h.below hbel1).below hW) hO k (by omega); rw [hyes] at this; exact this)
  have Hop := Lib.hid (fun W (hW : Below w1.heap.size w1 W) => by have := opening_any (hr1.below hW) 1 1 (by omega); rw [← HA10.out] at this; exact this)
  have Hod := Lib.hid (fun W (hW : Below w1.heap.size w1 W) => by have := opened_any m.num k W; rw [← HB10.out] at this; exact this)
  have HS := Lib.hid (h.below hbel1)
  refine wp_region_held (S := fun w' => Below w1.heap.size w1 w') (by kernel_rfl) ?_
  have hb2 : Below w1.heap.size w1 { w1 with drawn := w1.drawn + 1 } := ⟨rfl, rfl, rfl, Nat.le_refl _, fun _ _ => rfl⟩
  obtain ⟨wd, hdr⟩ : ∃ wd : World, ({ w1 with drawn := w1.drawn + 1 } : World) = wd := ⟨_, rfl⟩
  rw [hdr] at hb2 ⊢
  clear hdr
  refine wpAnyH_take (i := 0) (v := .pointer (some ⟨g, 0, none⟩)) rfl (by kernel_rfl) (by kernel_rfl) (by kernel_rfl) (fun _ _ _ h => h) (Or.inl ⟨by rfl, ?_⟩) hb2 ?_
  · intro w' _; go_simp
  try simp only [List.getElem_toArray, List.getElem_cons_succ, List.getElem_cons_zero, Act.put, List.setIfInBounds_toArray, List.set]
  refine wpAnyH_take (i := 1) (v := .int .i64 k) rfl (by kernel_rfl) (by kernel_rfl) (by kernel_rfl) (fun _ _ _ h => h) (Or.inl ⟨by rfl, ?_⟩) hb2 ?_
  · intro w' _; go_simp
  try simp only [List.getElem_toArray, List.getElem_cons_succ, List.getElem_cons_zero, Act.put, List.setIfInBounds_toArray, List.set]
  refine wpAnyH_oneR 2 _ rfl (by kernel_rfl) (by rfl) (fun K hK => ?_)
  go_simp
  refine (Hft.out _ hb2).mono ?_
  rintro e w7 ⟨rfl, mq, rfl⟩
  have hb3 := hb2.trans (below_drewN wd mq _)
  generalize hwn : wd.drewN mq = w3 at *
  refine hK _ _ hb3 ?_
  clear hK K
  try simp only [List.getElem_toArray, List.getElem_cons_succ, List.getElem_cons_zero, Act.put, List.setIfInBounds_toArray, List.set]
  clear hwn
  refine wpAnyH_take (i := 3) (v := .bool false) rfl (by kernel_rfl) (by kernel_rfl) (by kernel_rfl) (fun _ _ _ h => h) (Or.inl ⟨by rfl, ?_⟩) hb3 ?_
  · intro w' _; go_simp
  try simp only [List.getElem_toArray, List.getElem_cons_succ, List.getElem_cons_zero, Act.put, List.setIfInBounds_toArray, List.set]
  refine wpAnyH_take (i := 4) (v := .bool false) rfl (by kernel_rfl) (by kernel_rfl) (by kernel_rfl) (fun _ _ _ h => h) (Or.inl ⟨by rfl, ?_⟩) hb3 ?_
  · intro w' _; go_simp
  try simp only [List.getElem_toArray, List.getElem_cons_succ, List.getElem_cons_zero, Act.put, List.setIfInBounds_toArray, List.set]
  refine wpAnyH_take (i := 5) (v := .slice (some ⟨b1, 0, none⟩) 1 1) rfl (by kernel_rfl) (by kernel_rfl) (by kernel_rfl) (fun _ _ _ h => h) (Or.inl ⟨by rfl, ?_⟩) hb3 ?_
  · intro w' _; go_simp
  try simp only [List.getElem_toArray, List.getElem_cons_succ, List.getElem_cons_zero, Act.put, List.setIfInBounds_toArray, List.set]
  refine wpAnyH_take (i := 7) (v := .pointer (some ⟨g, 0, none⟩)) rfl (by kernel_rfl) (by kernel_rfl) (by kernel_rfl) (fun _ _ _ h => h) (Or.inl ⟨by rfl, ?_⟩) hb3 ?_
  · intro w' _; go_simp
  try simp only [List.getElem_toArray, List.getElem_cons_succ, List.getElem_cons_zero, Act.put, List.setIfInBounds_toArray, List.set]
  refine wpAnyH_take (i := 8) (v := .pointer (some ⟨g, 0, none⟩)) rfl (by kernel_rfl) (by kernel_rfl) (by kernel_rfl) (fun _ _ _ h => h) (Or.inl ⟨by rfl, ?_⟩) hb3 ?_
  · intro w' _; go_simp
  try simp only [List.getElem_toArray, List.getElem_cons_succ, List.getElem_cons_zero, Act.put, List.setIfInBounds_toArray, List.set]
  refine wpAnyH_take (i := 9) (v := .pointer (some ⟨g, 3, none⟩)) rfl (by kernel_rfl) (by kernel_rfl) (by kernel_rfl) (fun _ _ _ h => h) (Or.inl ⟨by rfl, ?_⟩) hb3 ?_
  · intro w' _; go_simp
  try simp only [List.getElem_toArray, List.getElem_cons_succ, List.getElem_cons_zero, Act.put, List.setIfInBounds_toArray, List.set]
  refine wpAnyH_take (i := 10) (v := .pointer (some ⟨g, 4, none⟩)) rfl (by kernel_rfl) (by kernel_rfl) (by kernel_rfl) (fun _ _ _ h => h) (Or.inl ⟨by rfl, ?_⟩) hb3 ?_
  · intro w' _; go_simp
  try simp only [List.getElem_toArray, List.getElem_cons_succ, List.getElem_cons_zero, Act.put, List.setIfInBounds_toArray, List.set]
  refine wpAnyH_take (i := 11) (v := .int .u64 m.num) rfl (by kernel_rfl) (by kernel_rfl) (by kernel_rfl) (fun _ _ _ h => h) (Or.inl ⟨by rfl, ?_⟩) hb3 ?_
  · intro w' hS'
    obtain ⟨c0, c1, c2, c3, c4, c37⟩ := PrAt.cells (HS.out.below hS')
    clear hS'
    go_simp
  try simp only [List.getElem_toArray, List.getElem_cons_succ, List.getElem_cons_zero, Act.put, List.setIfInBounds_toArray, List.set]
  refine wpAnyH_take (i := 12) (v := .int .i64 k) rfl (by kernel_rfl) (by kernel_rfl) (by kernel_rfl) (fun _ _ _ h => h) (Or.inl ⟨by rfl, ?_⟩) hb3 ?_
  · intro w' _; go_simp
  try simp only [List.getElem_toArray, List.getElem_cons_succ, List.getElem_cons_zero, Act.put, List.setIfInBounds_toArray, List.set]
  refine wpAnyH_oneR 6 _ rfl (by kernel_rfl) (by rfl) (fun K hK => ?_)
  go_simp
  refine (Hop.out _ hb3).mono ?_
  rintro e w4 ⟨rv, hrv, rfl, hq⟩
  obtain rfl : rv = A10 := hrv.out
  have hb4 := hb3.trans (hq.mono hb3.size)
  refine hK _ _ hb4 ?_
  clear hK K
  try simp only [List.getElem_toArray, List.getElem_cons_succ, List.getElem_cons_zero, Act.put, List.setIfInBounds_toArray, List.set]
  clear hq hrv
  refine wpAnyH_oneR 13 _ rfl (by kernel_rfl) (by rfl) (fun K hK => ?_)
  go_simp
  refine (Hod.out _ hb4).mono ?_
  rintro e w5 ⟨rv, hrv, rfl, hq⟩
  obtain rfl : rv = B10 := hrv.out
  have hb5 := hb4.trans (hq.mono hb4.size)
  refine hK _ _ hb5 ?_
  clear hK K
  try simp only [List.getElem_toArray, List.getElem_cons_succ, List.getElem_cons_zero, Act.put, List.setIfInBounds_toArray, List.set]
  clear hq hrv
  refine wpAnyH_take (i := 14) (v := .bool (!bb)) rfl (by kernel_rfl) (by kernel_rfl) (by kernel_rfl) (fun _ _ _ h => h) (Or.inl ⟨by rfl, ?_⟩) hb5 ?_
  · intro w' _; go_simp
  try simp only [List.getElem_toArray, List.getElem_cons_succ, List.getElem_cons_zero, Act.put, List.setIfInBounds_toArray, List.set]
  refine wpAnyH_take (i := 15) (v := .bool (!bb)) rfl (by kernel_rfl) (by kernel_rfl) (by kernel_rfl) (fun _ _ _ h => h) (Or.inl ⟨by rfl, ?_⟩) hb5 ?_
  · intro w' _; go_simp
  try simp only [List.getElem_toArray, List.getElem_cons_succ, List.getElem_cons_zero, Act.put, List.setIfInBounds_toArray, List.set]
  refine wpAnyH_done (by kernel_rfl) ?_ _
  clear Hft Hop Hod heq hb2
  have hbel5 := hbel1.trans (hb5.mono hbel1.size)
  clear HS hb5 hb4 hb3 hr1 hb1
  cases bb with
  | false =>
    have hnot : ¬ holds pg (n - used) m := fun hh => by
      have := hh.1.1
      rw [hk] at this
      have h2 := Hbb.out
      rw [decide_eq_true this] at h2; cases h2
    go_wp2
    first | go_ret2 | (refine bodyPost_ret (v := .tuple #[.slice none 0 0, .nilIface]) (by simp [results, Tryz.results132, go_sem]) rfl ?_)
    exact .inr ⟨hnot, rfl, hbel5⟩
  | true =>
    have hbeg : begins pg (n - used) m := by
      refine ⟨?_, ?_⟩
      · rw [hk]; exact of_decide_eq_true Hbb.out
      · rw [hk]; exact hfit
    have hsz := psize_any k (by omega) w5
    rw [hT] at hsz
    go_wp2_with (first
      | (go_at_call 141; refine hsz.mono ?_; rintro e w' ⟨rfl, rfl⟩)
      | (go_at_call 144; refine (HR3.out _ hbel5 T (by omega) (by omega)).mono ?_))
    rintro e w6 hp1
    obtain ⟨_, b6, hb6, rfl, hr6, hbel6⟩ := hp1.resolve_right (fun h => by cases h.1)
    clear hp1 hsz
    have hrec : recPages pg m.place T = pg m.place :: rest pg m.place k := by rw [← hT]; exact recPages_rest pg m.place k
    rw [hrec] at hr6
    have hbelW := hbel5.trans (hbel6.mono hbel5.size)
    have hlr : (rest pg m.place k).length + 1 = T := by simp only [rest, List.length_map, List.length_range]; omega
    go_upto_region 10 with (fail)
    obtain ⟨D1, HD1⟩ : ∃ D1 : Array Value, Hid (D1 = ((((pg m.place).drop 10).take 32).map cu8).toArray) := ⟨_, rfl⟩
    obtain ⟨D2, HD2⟩ : ∃ D2 : Array Value, Hid (D2 = ((dig (rawText pg m)).map cu8).toArray) := ⟨_, rfl⟩
    obtain ⟨cc, hcc⟩ : ∃ cc : Bool, decide (((pg m.place).drop 10).take 32 = dig (rawText pg m)) = cc := ⟨_, rfl⟩
    have heq : ∀ W : World, (Op.equalIn 10000 56 (.agg D1) (.agg D2)).run Tryz.prog W = .ok cc W := fun W => by
      rw [← hcc, HD1.out, HD2.out]; exact eqIn32 _ _ (by simp; omega) (dig_len _) W
    have hraw : rawText pg m = m.last ++ ((pg m.place).take 10 ++ (rest pg m.place k).flatten) := by unfold rawText; rw [hk]
    have hS6 := h.below hbelW
    obtain ⟨lv, Hlv⟩ : ∃ lv : List Value, Hid (lv = m.last.map cu8) := ⟨_, rfl⟩
    have Hwr := Lib.hid (fun W (hW : Below w6.heap.size w6 W) => by have := written_any (hr6.below hW) T T (by omega); rw [← HD1.out] at this; exact this)
    have Hdg := Lib.hid (fun W (hW : Below w6.heap.size w6 W) => by have := pdigest_any (hr6.below hW) T T hlr.symm (by omega) (by omega) (by omega) m.last h.last; rw [← hraw, ← HD2.out, ← Hlv.out] at this; exact this)
    have HL := Lib.hid (fun W (hW : Below w6.heap.size w6 W) => by
      have hl := (hS6.below hW).lastAt
      rw [← Hlv.out] at hl
      exact run_loadAt_mid (P := Tryz.prog) W g 5 56 lv _ hl Tryz.underlying56 rfl (by rw [Hlv.out, List.length_map, h.last]; kernel_rfl))
    have Hcc := Lib.hid hcc
    clear hcc hraw hS6
    refine wp_region_held (S := fun w' => Below w6.heap.size w6 w') (by kernel_rfl) ?_
    have hb7 : Below w6.heap.size w6 { w6 with drawn := w6.drawn + 1 } := ⟨rfl, rfl, rfl, Nat.le_refl _, fun _ _ => rfl⟩
    obtain ⟨wd7, hdr⟩ : ∃ wd7 : World, ({ w6 with drawn := w6.drawn + 1 } : World) = wd7 := ⟨_, rfl⟩
    rw [hdr] at hb7 ⊢
    clear hdr
    refine wpAnyH_take (i := 0) (v := .slice (some ⟨b6, 0, none⟩) T T) rfl (by kernel_rfl) (by kernel_rfl) (by kernel_rfl) (fun _ _ _ h => h) (Or.inl ⟨by rfl, ?_⟩) hb7 ?_
    · intro w' _; go_simp
    try simp only [List.getElem_toArray, List.getElem_cons_succ, List.getElem_cons_zero, Act.put, List.setIfInBounds_toArray, List.set]
    refine wpAnyH_take (i := 2) (v := .pointer (some ⟨g, 0, none⟩)) rfl (by kernel_rfl) (by kernel_rfl) (by kernel_rfl) (fun _ _ _ h => h) (Or.inl ⟨by rfl, ?_⟩) hb7 ?_
    · intro w' _; go_simp
    try simp only [List.getElem_toArray, List.getElem_cons_succ, List.getElem_cons_zero, Act.put, List.setIfInBounds_toArray, List.set]
    refine wpAnyH_take (i := 3) (v := .pointer (some ⟨g, 0, none⟩)) rfl (by kernel_rfl) (by kernel_rfl) (by kernel_rfl) (fun _ _ _ h => h) (Or.inl ⟨by rfl, ?_⟩) hb7 ?_
    · intro w' _; go_simp
    try simp only [List.getElem_toArray, List.getElem_cons_succ, List.getElem_cons_zero, Act.put, List.setIfInBounds_toArray, List.set]
    refine wpAnyH_take (i := 4) (v := .pointer (some ⟨g, 3, none⟩)) rfl (by kernel_rfl) (by kernel_rfl) (by kernel_rfl) (fun _ _ _ h => h) (Or.inl ⟨by rfl, ?_⟩) hb7 ?_
    · intro w' _; go_simp
    try simp only [List.getElem_toArray, List.getElem_cons_succ, List.getElem_cons_zero, Act.put, List.setIfInBounds_toArray, List.set]
    refine wpAnyH_take (i := 5) (v := .pointer (some ⟨g, 5, none⟩)) rfl (by kernel_rfl) (by kernel_rfl) (by kernel_rfl) (fun _ _ _ h => h) (Or.inl ⟨by rfl, ?_⟩) hb7 ?_
    · intro w' _; go_simp
    try simp only [List.getElem_toArray, List.getElem_cons_succ, List.getElem_cons_zero, Act.put, List.setIfInBounds_toArray, List.set]
    refine wpAnyH_take (i := 6) (v := .agg lv.toArray) rfl (by kernel_rfl) (by kernel_rfl) (by kernel_rfl) (fun _ _ _ h => h) (Or.inl ⟨by rfl, ?_⟩) hb7 ?_
    · intro w' hS'; exact exec_load _ _ 56 _ rfl g 5 rfl _ (HL.out w' hS')
    try simp only [List.getElem_toArray, List.getElem_cons_succ, List.getElem_cons_zero, Act.put, List.setIfInBounds_toArray, List.set]
    refine wpAnyH_take (i := 7) (v := .slice (some ⟨b6, 0, none⟩) T T) rfl (by kernel_rfl) (by kernel_rfl) (by kernel_rfl) (fun _ _ _ h => h) (Or.inl ⟨by rfl, ?_⟩) hb7 ?_
    · intro w' _; go_simp
    try simp only [List.getElem_toArray, List.getElem_cons_succ, List.getElem_cons_zero, Act.put, List.setIfInBounds_toArray, List.set]
    refine wpAnyH_oneR 1 _ rfl (by kernel_rfl) (by rfl) (fun K hK => ?_)
    go_simp
    refine (Hwr.out _ hb7).mono ?_
    rintro e w8 ⟨rv, hrv, rfl, hq⟩
    obtain rfl : rv = D1 := hrv.out
    have hb8 := hb7.trans (hq.mono hb7.size)
    refine hK _ _ hb8 ?_
    clear hK K
    try simp only [List.getElem_toArray, List.getElem_cons_succ, List.getElem_cons_zero, Act.put, List.setIfInBounds_toArray, List.set]
    clear hq hrv
    refine wpAnyH_oneR 8 _ rfl (by kernel_rfl) (by rfl) (fun K hK => ?_)
    go_simp
    refine (Hdg.out _ hb8).mono ?_
    rintro e w9 ⟨rv, hrv, rfl, hq⟩
    obtain rfl : rv = D2 := hrv.out
    have hb9 := hb8.trans (hq.mono hb8.size)
    refine hK _ _ hb9 ?_
    clear hK K
    try simp only [List.getElem_toArray, List.getElem_cons_succ, List.getElem_cons_zero, Act.put, List.setIfInBounds_toArray, List.set]
    clear hq hrv
    refine wpAnyH_take (i := 9) (v := .bool (!cc)) rfl (by kernel_rfl) (by kernel_rfl) (by kernel_rfl) (fun _ _ _ h => h) (Or.inl ⟨by rfl, ?_⟩) hb9 ?_
    · intro w' _; go_simp
    try simp only [List.getElem_toArray, List.getElem_cons_succ, List.getElem_cons_zero, Act.put, List.setIfInBounds_toArray, List.set]
    refine wpAnyH_done (by kernel_rfl) ?_ _
    clear heq Hwr Hdg HL hb7 hb8
    have hbelZ := hbelW.trans (hb9.mono hbelW.size)
    cases cc with
    | false =>
      have hnot : ¬ holds pg (n - used) m := fun hh => by
        have h2 := Hcc.out
        rw [decide_eq_true hh.2.symm] at h2; cases h2
      go_wp2
      first | go_ret2 | (refine bodyPost_ret (v := .tuple #[.slice none 0 0, .nilIface]) (by simp [results, Tryz.results132, go_sem]) rfl ?_)
      exact .inr ⟨hnot, rfl, hbelZ⟩
    | true =>
      have hyesH : holds pg (n - used) m := ⟨hbeg, (of_decide_eq_true Hcc.out).symm⟩
      go_wp2
      first | go_ret2 | (refine bodyPost_ret (v := .tuple #[.slice (some ⟨b6, 0, none⟩) T T, .nilIface]) (by simp [results, Tryz.results132, go_sem]) rfl ?_)
      refine .inl ⟨hyesH, b6, by have := hbel5.size; omega, ?_, ?_, hbelZ⟩
      · rw [hk, hT]; rfl
      · rw [hk]; exact hr6.below hb9
theorem stand_any (h : PrAt g gd first n m used w) (hO : RingOk first n m used) (hD : PD S F gd w) (hB : Byt S) (ho : S.off = false) (hin : first + n ≤ S.firm.length) :
    Calls Tryz.prog 132 #[.pointer (some ⟨g, 0, none⟩)] w (StandP (pgOf (imgB S) first n) (n - used) m w) := by
  cases hf : fitsB (n - used) (kOf (pgOf (imgB S) first n) m) with
  | false => exact stand_no h hO hD hB ho hin hf
  | true => exact stand_fits h hO hD hB ho hin hf
end
end Go.Proofs.YtjkkbceddbkejaaGreatDoor

/-
  Changes in memory; the program's ring: changes.
-/
namespace Go.Proofs.YtjkkbceddbkejaaGreatDoor
open Go.RowKit Sh

theorem splice_rows (s : Nat) : ∀ {pgs : List (List Value)} (_ : ∀ p ∈ pgs, p.length = s) (k : Nat) (_ : k < pgs.length) (p : List Value) (_ : p.length = s), splice pgs.flatten (k * s) p = (pgs.set k p).flatten
  | [], _, k, hk, _, _ => by simp at hk
  | q :: r, hP, 0, _, p, hp => by
    have hq := hP q (by simp)
    simp only [splice, Nat.zero_mul, Nat.zero_add, List.flatten_cons, List.set_cons_zero, List.take_zero, List.nil_append]
    rw [hp, ← hq, List.drop_left]
  | q :: r, hP, k + 1, hk, p, hp => by
    have hq := hP q (by simp)
    have := splice_rows s (pgs := r) (fun x hx => hP x (by simp [hx])) k (by simpa using hk) p hp
    simp only [splice] at this
    simp only [splice, List.flatten_cons, List.set_cons_succ]
    rw [show (k + 1) * s = q.length + k * s by rw [hq, Nat.succ_mul]; omega, List.take_length_add_append, show q.length + k * s + p.length = q.length + (k * s + p.length) by omega, List.drop_length_add_append, ← this]
    simp only [List.append_assoc]
theorem rows_len (s : Nat) : ∀ {pgs : List (List Value)}, (∀ p ∈ pgs, p.length = s) → pgs.flatten.length = pgs.length * s
  | [], _ => by simp
  | p :: ps, h => by
    rw [List.flatten_cons, List.length_append, h p (by simp), rows_len s (fun q hq => h q (by simp [hq])), List.length_cons, Nat.succ_mul]; omega
theorem made_rows (zc : List Value) (s : Nat) (hs : zc.length = s) (h0 : 0 < s) (n : Nat) : madeCells zc.toArray (n * s) = (List.replicate n zc).flatten.toArray := by
  have hP : ∀ p ∈ List.replicate n zc, p.length = s := fun p hp => by rw [(List.mem_replicate.1 hp).2]; exact hs
  apply Array.ext
  · show (madeCells zc.toArray (n * s)).size = (List.replicate n zc).flatten.length
    rw [rows_len s hP, List.length_replicate]; simp [madeCells]
  · intro i h1 h2
    have hi : i < n * s := by simpa [madeCells] using h1
    have hm := Nat.mod_lt i h0
    have hd : i / s < n := Nat.div_lt_of_lt_mul (by rw [Nat.mul_comm]; exact hi)
    have e := flat_getM s hP (i / s) zc (by rw [List.getElem?_replicate, if_pos hd]) (i % s) hm
    rw [Nat.mul_comm, Nat.div_add_mod] at e
    have hz : i % zc.toArray.size < zc.toArray.size := by rw [List.size_toArray, hs]; exact hm
    simp only [madeCells, Array.getElem_map, Array.getElem_range, List.getElem_toArray]
    rw [getElem!_pos zc.toArray (i % zc.toArray.size) hz]
    have e2 : (List.replicate n zc).flatten[i]? = some ((List.replicate n zc).flatten[i]'(by simpa using h2)) := List.getElem?_eq_getElem _
    rw [e2] at e
    have e3 : zc[i % s]? = some (zc[i % s]'(by omega)) := List.getElem?_eq_getElem _
    rw [e3] at e
    simp only [List.getElem_toArray, List.size_toArray, hs]
    exact (Option.some.inj e).symm
/-- The first k are there, the others are z. -/
def midL {α : Type} (f : Nat → α) (z : α) (n k : Nat) : List α := (List.range n).map fun i => if i < k then f i else z
section
variable {α : Type} (f : Nat → α) (z : α) (n k : Nat)
theorem midL_length : (midL f z n k).length = n := by simp [midL]
theorem midL_zero : midL f z n 0 = List.replicate n z := by
  apply List.ext_getElem (by rw [midL_length, List.length_replicate])
  intro i h1 h2
  simp only [midL, List.getElem_map, List.getElem_range, List.getElem_replicate]
  rw [if_neg (by omega)]
theorem midL_all : midL f z n n = (List.range n).map f := by
  apply List.map_congr_left
  intro i hi
  rw [if_pos (List.mem_range.1 hi)]
theorem midL_set : (midL f z n k).set k (f k) = midL f z n (k + 1) := by
  apply List.ext_getElem (by simp [midL])
  intro i h1 h2
  simp only [midL, List.getElem_set, List.getElem_map, List.getElem_range]
  by_cases e : k = i
  · subst e; simp
  · rw [if_neg e]
    by_cases hlt : i < k
    · rw [if_pos hlt, if_pos (by omega)]
    · rw [if_neg hlt, if_neg (by omega)]
theorem midL_mem {P : α → Prop} (hf : ∀ i, P (f i)) (hz : P z) : ∀ q ∈ midL f z n k, P q := fun q hq => by
  obtain ⟨i, _, rfl⟩ := List.mem_map.1 hq
  split
  · exact hf _
  · exact hz
end

def chgC (c : Chg) : List Value := .int .i64 c.at_ :: c.what.map cu8
def zChg : List Value := .int .i64 0 :: zeroPage
theorem zChg_len : zChg.length = 65 := rfl
theorem chgC_len {c : Chg} (h : c.what.length = 64) : (chgC c).length = 65 := by simp [chgC, h]
theorem chgC_one (c : Chg) : ∀ v ∈ chgC c, v.oneCell' = true := fun v hv => by
  simp only [chgC, List.mem_cons, List.mem_map] at hv
  rcases hv with rfl | ⟨x, _, rfl⟩ <;> rfl
/-- Changes in a row; its block lies below N. -/
def Chgs (N : Nat) (w : World) (bp : Option Addr) (l : List Chg) : Prop := l = [] ∨ ∃ b, bp = some ⟨b, 0, none⟩ ∧ b < N ∧ ∀ i c, l[i]? = some c → w.rangeAt b (i * 65) (chgC c)
theorem Chgs.below {N : Nat} {w w' : World} {bp : Option Addr} {l : List Chg} (h : Chgs N w bp l) (hb : Below N w w') : Chgs N w' bp l :=
  h.imp id fun ⟨b, e, hN, hr⟩ => ⟨b, e, hN, fun i c hi j v hj => (hb.cell (p := ⟨b, _, none⟩) hN).trans (hr i c hi j v hj)⟩
theorem Chgs.mono {N M : Nat} {w : World} {bp : Option Addr} {l : List Chg} (h : Chgs N w bp l) (hM : N ≤ M) : Chgs M w bp l :=
  h.imp id fun ⟨b, e, hN, hr⟩ => ⟨b, e, Nat.lt_of_lt_of_le hN hM, hr⟩
theorem chgs_of_row {w : World} {b : Nat} {t : TypeId} {l : List Chg} (hl : ∀ c ∈ l, c.what.length = 64) (h : w.heap[b]? = some (.cells ((l.map chgC).flatten).toArray t (0, 0))) : Chgs w.heap.size w (some ⟨b, 0, none⟩) l :=
  .inr ⟨b, rfl, (Array.getElem?_eq_some_iff.1 h).1, fun i c hi j v hj => by
    have h65 := chgC_len (hl c (List.mem_of_getElem? hi))
    have hj65 : j < 65 := by rw [← h65]; exact (List.getElem?_eq_some_iff.1 hj).1
    rw [cell_of_row w b _ _ _ _ h, List.getElem?_toArray]
    have := flat_getM 65 (pgs := l.map chgC) (fun p hp => by obtain ⟨x, hx, rfl⟩ := List.mem_map.1 hp; exact chgC_len (hl x hx)) i (chgC c) (by rw [List.getElem?_map, hi]; rfl) j hj65
    rw [this, hj]⟩

theorem infoChg : (Tryz.prog.info? 194).map (fun i => (i.zero, i.size, i.bytes)) = some (some (.agg zChg.toArray), 65, 72) := by kernel_rfl
theorem infoChg65 : (Tryz.prog.info? 194).map (·.size) = some 65 := by kernel_rfl
theorem built_chg (a : Int) (p : List Value) (hp : IsPage p) : Tryz.prog.built 194 [(0, .int .i64 a), (1, .agg p.toArray)] = some (.int .i64 a :: p).toArray := by
  have hu : (Tryz.prog.underlying 194).bind (fun d => match d with | .struct fs => fs.toList.mapM (fun f => (Tryz.prog.info? f.type).map fun i => (f.offset, i.size)) | _ => none) = some [(0, 1), (1, 64)] := by kernel_rfl
  obtain ⟨ti, hti, hz⟩ := Option.map_eq_some_iff.1 infoChg
  simp only [Prod.mk.injEq] at hz
  unfold Program.built
  rw [hti, Tryz.underlying194]
  rw [Tryz.underlying194] at hu
  simp only [Option.bind_some] at hu
  simp only [hz.1, hu]
  exact fill_two _ (by simp [Value.cells, zChg, zeroPage]) (.int .i64 a) rfl p hp.1 _ rfl rfl
theorem make_chgs (n : Nat) (hn : n ≤ 4096) (w : World) :
    (Instr.makeSlice 162 (.int .i64 (n : Int)) (.int .i64 (n : Int))).run Tryz.prog w = .ok (.slice (some ⟨w.heap.size, 0, none⟩) n n) (w.alloc (.cells (List.replicate n zChg).flatten.toArray 194)) := by
  obtain ⟨i, hi, hzz⟩ := Option.map_eq_some_iff.1 infoChg
  simp only [Prod.mk.injEq] at hzz
  obtain ⟨hz, hs, hb⟩ := hzz
  have h := run_make (P := Tryz.prog) w 162 194 i (.agg zChg.toArray) Tryz.underlying162 hi hz .i64 .i64 n n (by omega) (Int.le_refl _) (by rw [hb]; omega) (by omega)
  rw [hs] at h
  have e : madeCells (Value.agg zChg.toArray).cells (n * 65) = (List.replicate n zChg).flatten.toArray := made_rows zChg 65 zChg_len (by omega) n
  rw [h, Int.toNat_natCast, e]

theorem num4_four (p : List UInt8) (o : Nat) : numFrom [at8 p o, at8 p (o + 1), at8 p (o + 2), at8 p (o + 3)] 0 = num4 p o := by
  simp [numFrom, num4]; omega
theorem num4_lt (p : List UInt8) (o : Nat) : num4 p o < 4294967296 := by
  have h0 := (at8 p o).toNat_lt; have h1 := (at8 p (o + 1)).toNat_lt; have h2 := (at8 p (o + 2)).toNat_lt; have h3 := (at8 p (o + 3)).toNat_lt
  unfold num4; omega
structure CgRow (b bl : Nat) (pgs : List (List UInt8)) (rows : List (List Value)) (w wr : World) : Prop where
  rec_ : RecAt b pgs wr
  row : wr.heap[bl]? = some (.cells rows.flatten.toArray 194 (0, 0))
  bel : Below w.heap.size w wr
def ChangesP (l : List Chg) (w : World) (e : Ending) (w' : World) : Prop :=
  ∃ b, w.heap.size ≤ b ∧ e = .returned (.slice (some ⟨b, 0, none⟩) l.length l.length) ∧ w'.heap[b]? = some (.cells ((l.map chgC).flatten).toArray 194 (0, 0)) ∧ Below w.heap.size w w'
theorem decode_what {rs : List (List UInt8)} {k : Nat} (hrs : ∀ p ∈ rs, p.length = 64) (hl : (k + 15) / 16 + k ≤ rs.length) : ∀ c ∈ decode rs k, c.what.length = 64 := fun c hc => by
  obtain ⟨i, hi, rfl⟩ := List.mem_map.1 hc
  have hi := List.mem_range.1 hi
  have hlt : (k + 15) / 16 + i < rs.length := by omega
  show (rs.getD _ []).length = 64
  rw [List.getD_eq_getElem?_getD, List.getElem?_eq_getElem hlt]
  exact hrs _ (List.getElem_mem hlt)
section
variable {b : Nat} {w w' : World}
set_option maxRecDepth 100000 in
set_option maxHeartbeats 4000000 in
/-- changes. -/
theorem changes_any {p : List UInt8} {rs : List (List UInt8)} (h : RecAt b (p :: rs) w) (k T cap : Nat) (hk : (at8 p 9).toNat = k) (hT : takes k = T) (hrs : rs.length + 1 = T) (hT65 : T ≤ 4096) :
    Calls Tryz.prog 133 #[.slice (some ⟨b, 0, none⟩) T cap] w (ChangesP (decode rs k) w) := by
  have hT2 : 1 + (k + 15) / 16 + k = T := hT
  have hct := pcount_any h T cap (by omega)
  rw [hk] at hct
  have hmk := make_chgs k (by omega) w
  let f : Nat → List Value := fun i => chgC ⟨num4 (rs.getD (i / 16) []) (4 * (i % 16)), rs.getD ((k + 15) / 16 + i) []⟩
  have hfin : (List.range k).map f = (decode rs k).map chgC := by simp [decode, f]
  have hdl : (decode rs k).length = k := by simp [decode]
  have hz0 : List.replicate k zChg = midL f zChg k 0 := (midL_zero f zChg k).symm
  rw [hz0] at hmk
  have Hf : Hid (∀ i, f i = chgC ⟨num4 (rs.getD (i / 16) []) (4 * (i % 16)), rs.getD ((k + 15) / 16 + i) []⟩) := fun i => rfl
  have Hfin := Lib.hid hfin
  obtain ⟨f', hf'⟩ : ∃ f', f = f' := ⟨_, rfl⟩
  rw [hf'] at Hf Hfin hmk
  clear hf' hfin hz0 f
  obtain ⟨cs0, Hcs0⟩ : ∃ cs0, Hid (cs0 = (midL f' zChg k 0).flatten) := ⟨_, rfl⟩
  rw [← Hcs0.out] at hmk
  go_enter Tryz.func133, Tryz.ntmps133
  go_wp2_with (go_at_call 145; refine hct.mono ?_; rintro e w' ⟨rfl, rfl⟩)
  clear hmk hct
  have hba := (Below.refl w.heap.size w).alloc (Nat.le_refl _) (.cells cs0.toArray 194)
  have hW0 : CgRow b w.heap.size (p :: rs) (midL f' zChg k 0) w (w.alloc (.cells cs0.toArray 194)) := ⟨h.below hba, by rw [← Hcs0.out]; exact heap_alloc_new _ _, hba⟩
  clear hba
  generalize w.alloc (.cells cs0.toArray 194) = wa at hW0 ⊢
  obtain ⟨bl, hbl⟩ : ∃ bl, w.heap.size = bl := ⟨_, rfl⟩
  have hbbl : b < bl := by rw [← hbl]; exact h.lt
  rw [hbl] at hW0 ⊢
  have Hbl := Lib.hid hbl
  clear hbl
  go_loopg [11] k (fun gg i wr => ∃ c : Nat, c ≤ k ∧ gg = k - c ∧ i = .int .i64 c ∧ CgRow b bl (p :: rs) (midL f' zChg k c) w wr)
  case atStart => exact ⟨0, by omega, rfl, rfl, hW0⟩
  case round =>
    clear hW0
    obtain ⟨c, hc, rfl, rfl, hW⟩ := hrel
    by_cases hlt : c < k
    · have hlt' : (c : Int) < k := by omega
      obtain ⟨J, hJ⟩ : ∃ J, (k + 15) / 16 = J := ⟨_, rfl⟩
      have hJk : c / 16 < J := by omega
      have hTJ : 1 + J + k = T := by omega
      -- the number
      obtain ⟨np, Hnp⟩ : ∃ np, Hid (np = rs.getD (c / 16) []) := ⟨_, rfl⟩
      have hnp : (p :: rs)[1 + c / 16]? = some np := by rw [Nat.add_comm, List.getElem?_cons_succ, Hnp.out]; exact getD_some (by omega)
      obtain ⟨wp, Hwp⟩ : ∃ wp, Hid (wp = rs.getD (J + c) []) := ⟨_, rfl⟩
      have hwp : (p :: rs)[1 + J + c]? = some wp := by rw [show 1 + J + c = (J + c) + 1 from by omega, List.getElem?_cons_succ, Hwp.out]; exact getD_some (by omega)
      have hw64 : wp.length = 64 := hW.rec_.len _ (List.mem_of_getElem? hwp)
      have hnum := pnumber_any (b := b) T cap c (by omega) (by omega) wr
      have hget := get_any (w := wr) (bs := [at8 np (4 * (c % 16)), at8 np (4 * (c % 16) + 1), at8 np (4 * (c % 16) + 2), at8 np (4 * (c % 16) + 3)]) (n := 4) rfl (by omega) (g := b) (o := (1 + c / 16) * 64 + 4 * (c % 16)) (cap := 64 - 4 * (c % 16)) (fun j hj => by
        have := hW.rec_.cell hnp (j := 4 * (c % 16) + j) (by omega)
        rw [Nat.add_assoc, this]
        match j, hj with
        | 0, _ => rfl
        | 1, _ => rfl
        | 2, _ => rfl
        | 3, _ => rfl)
      rw [num4_four] at hget
      obtain ⟨nm, Hnm⟩ : ∃ nm, Hid (nm = num4 np (4 * (c % 16))) := ⟨_, rfl⟩
      rw [← Hnm.out] at hget
      have hnm : nm < 4294967296 := by rw [Hnm.out]; exact num4_lt _ _
      have hls := plists_any k (by omega) wr
      rw [hJ] at hls
      have hwr := hW.rec_.range hwp 0 64 (by omega)
      rw [List.drop_zero, List.take_of_length_le (by omega)] at hwr
      obtain ⟨wv, Hwv⟩ : ∃ wv : List Value, Hid (wv = wp.map cu8) := ⟨_, rfl⟩
      rw [← Hwv.out] at hwr
      have hwvl : wv.length = 64 := by rw [Hwv.out, List.length_map, hw64]
      have hwi : Hid ((Tryz.prog.info? 33).map (·.size) = some wv.length) := by rw [hwvl]; exact info64
      rw [Nat.add_zero] at hwr
      have Hwr := Lib.hid hwr
      obtain ⟨cv, Hcv⟩ : ∃ cv : List Value, Hid (cv = .int .i64 (nm : Int) :: wv) := ⟨_, rfl⟩
      have Hb : Hid (Tryz.prog.built 194 [(0, .int .i64 (nm : Int)), (1, .agg wv.toArray)] = some cv.toArray) := by rw [Hcv.out]; exact built_chg _ _ (by rw [Hwv.out]; exact bytes_page hw64)
      have hcvl : cv.length = 65 := by rw [Hcv.out, List.length_cons, hwvl]
      have hci : Hid ((Tryz.prog.info? 194).map (·.size) = some cv.toArray.size) := by rw [List.size_toArray, hcvl]; exact infoChg65
      have hcone : Hid (∀ v ∈ cv.toArray.toList, v.oneCell' = true) := fun v hv => by
        rw [Hcv.out, Hwv.out] at hv
        rcases List.mem_cons.1 (show v ∈ Value.int .i64 (nm : Int) :: wp.map cu8 from hv) with rfl | hv
        · rfl
        · obtain ⟨x, _, rfl⟩ := List.mem_map.1 hv; rfl
      have hall : ∀ q ∈ midL f' zChg k c, q.length = 65 := fun q hq => by
        obtain ⟨i, hi, rfl⟩ := List.mem_map.1 hq
        have hi := List.mem_range.1 hi
        split
        · rw [Hf.out]
          refine chgC_len ?_
          show (rs.getD ((k + 15) / 16 + i) []).length = 64
          have hlt2 : (k + 15) / 16 + i < rs.length := by omega
          exact hW.rec_.len _ (List.mem_cons_of_mem _ (List.mem_of_getElem? (getD_some hlt2)))
        · rfl
      have hcf : cv = f' c := by
        rw [Hf.out, Hcv.out, Hwv.out, hJ, ← Hwp.out, ← Hnp.out, ← Hnm.out]; rfl
      have hspl : Hid (splice (midL f' zChg k c).flatten (c * 65) cv.toArray.toList = (midL f' zChg k (c + 1)).flatten) := by
        rw [List.toList_toArray, splice_rows 65 hall c (by rw [midL_length]; exact hlt) cv hcvl, hcf, midL_set]; exact rfl
      have hfit : Hid (c * 65 + cv.toArray.size ≤ (midL f' zChg k c).flatten.length) := by
        show c * 65 + cv.toArray.size ≤ (midL f' zChg k c).flatten.length
        rw [rows_len 65 hall, midL_length, List.size_toArray, hcvl]; omega
      have Hrow := Lib.hid hW.row
      have hu1 : IntKind.i64.wrap (nm : Int) = (nm : Int) := IntWalk.i64_in _ (by omega)
      clear hwr hall hcf hcvl hwvl hnp hwp hJ
      go_wp2_with (first
        | (go_at_call 151; refine hnum.mono ?_; rintro e w' ⟨rfl, rfl⟩)
        | (go_at_call 150; refine hget.mono ?_; rintro e w' ⟨rfl, rfl⟩)
        | (go_at_call 152; refine hls.mono ?_; rintro e w' ⟨rfl, rfl⟩)
        | (refine wpList_load_mid rfl 33 _ rfl b ((1 + J + c) * 64) rfl wv _ Hwr.out Tryz.underlying33 rfl hwi.out ?_)
        | (refine wpList_build_to rfl 194 _ rfl cv.toArray (Eq.trans (congrArg (Program.built _ _) (by simp [Act.eval, Act.put])) Hb.out) ?_)
        | (refine wpList_store_into rfl 194 _ _ rfl bl (c * 65) cv.toArray rfl rfl _ 194 Hrow.out hci.out hfit.out hcone.out ?_; intro w6 Hs6 Hg6))
      have hW6 : CgRow b bl (p :: rs) (midL f' zChg k (c + 1)) w w6 := ⟨hW.rec_.of_block (Hg6.out.block b hW.rec_.lt (by simp; omega)), by have := Hs6.out; rw [hspl.out] at this; exact this,
        by have h1 := hW.bel; exact below_of_grown h1 Hg6.out h1.size (by have := Hbl.out; omega)⟩
      clear hW Hrow Hs6 Hg6 hspl hfit hcone hci Hb hwi Hwr hnum hget hls
      go_roundg (k - (c + 1))
      case measure => omega
      case rel => exact ⟨c + 1, by omega, rfl, by go_num, hW6⟩
    · obtain rfl : c = k := by omega
      have hW' := hW
      rw [midL_all, Hfin.out] at hW'
      go_wp2
      go_ret
      exact ⟨bl, by rw [Hbl.out]; exact Nat.le_refl _, by rw [hdl]; rfl, hW'.row, hW'.bel⟩
end
end Go.Proofs.YtjkkbceddbkejaaGreatDoor

/-
  The program's ring: find.
-/
namespace Go.Proofs.YtjkkbceddbkejaaGreatDoor
open Go.RowKit Sh Go.Extern.Stop Go.Stop Go.Extern

theorem infoChgs : (Tryz.prog.info? 162).map (fun i => (i.zero, i.size, i.bytes)) = some (some (.slice none 0 0), 1, 24) := by kernel_rfl
/-- The records that were found, each in a row of its own from block B on. -/
def RecsOk (B : Nat) (w : World) (vs : List Value) (rs : List (List Chg)) : Prop := vs.length = rs.length ∧
  ∀ (i : Nat) (l : List Chg), rs[i]? = some l → ∃ b, B ≤ b ∧ vs[i]? = some (Value.slice (some ⟨b, 0, none⟩) l.length l.length) ∧ w.heap[b]? = some (.cells ((l.map chgC).flatten).toArray 194 (0, 0))
theorem RecsOk.keep {B : Nat} {w w' : World} {vs : List Value} {rs : List (List Chg)} (h : RecsOk B w vs rs) (hk : ∀ b cs, B ≤ b → w.heap[b]? = some (.cells cs 194 (0, 0)) → w'.heap[b]? = w.heap[b]?) : RecsOk B w' vs rs :=
  ⟨h.1, fun i l hi => by obtain ⟨b, h1, h2, h3⟩ := h.2 i l hi; exact ⟨b, h1, h2, (hk b _ h1 h3).trans h3⟩⟩
theorem RecsOk.below {B : Nat} {w w' : World} {vs : List Value} {rs : List (List Chg)} (h : RecsOk B w vs rs) (hb : Below w.heap.size w w') : RecsOk B w' vs rs :=
  h.keep fun b _ _ e => hb.block b (Array.getElem?_eq_some_iff.1 e).1
theorem RecsOk.snoc {B : Nat} {w : World} {vs : List Value} {rs : List (List Chg)} (h : RecsOk B w vs rs) {b : Nat} {l : List Chg} (hb : B ≤ b) (hr : w.heap[b]? = some (.cells ((l.map chgC).flatten).toArray 194 (0, 0))) :
    RecsOk B w (vs ++ [.slice (some ⟨b, 0, none⟩) l.length l.length]) (rs ++ [l]) := by
  refine ⟨by simp [h.1], fun i l' hi => ?_⟩
  by_cases hlt : i < rs.length
  · rw [List.getElem?_append_left hlt] at hi
    obtain ⟨b', h1, h2, h3⟩ := h.2 i l' hi
    exact ⟨b', h1, by rw [List.getElem?_append_left (by rw [h.1]; exact hlt)]; exact h2, h3⟩
  · have hi2 : i = rs.length := by
      have := (List.getElem?_eq_some_iff.1 hi).1
      simp at this; omega
    subst hi2
    rw [List.getElem?_append_right (by omega), Nat.sub_self] at hi
    obtain rfl : l = l' := by simpa using hi
    exact ⟨b, hb, by rw [List.getElem?_append_right (by rw [h.1]; exact Nat.le_refl _), h.1, Nat.sub_self]; rfl, hr⟩
theorem row_form {w : World} {B : Nat} {e : TypeId} {s n : Nat} {v : Value} {xs : List Value} (h : w.ownsRow B e s v n xs) : ∃ ao cap, v = .slice ao n cap := by
  rcases h.2 with ⟨rfl, rfl⟩ | ⟨g, cap, cur, rfl, _⟩
  · exact ⟨none, 0, rfl⟩
  · exact ⟨_, cap, rfl⟩
theorem Only.grownBy {g : Nat} {w w' : World} (h : Only (fun j => j = g) w w') : w.grownBy w' (some g) := ⟨h.os, h.tape, h.output, h.size, fun k hk hne => h.block k hk (fun e => hne (by rw [e]))⟩
theorem row_block {w : World} {B : Nat} {e : TypeId} {s n : Nat} {v : Value} {xs : List Value} (h : w.ownsRow B e s v n xs) {k : Nat} (hk : v.ownBlock = some k) : ∃ cur, w.heap[k]? = some (.cells cur e (0, 0)) := by
  rcases h.2 with ⟨rfl, _⟩ | ⟨g, cap, cur, rfl, _, hg, _⟩
  · simp [Value.ownBlock] at hk
  · simp only [Value.ownBlock, Option.some.injEq] at hk
    subst hk; exact ⟨cur, hg⟩
/-- What turns a row of slices of changes leaves rows of changes. -/
theorem RecsOk.grown {B : Nat} {w w' : World} {vs : List Value} {rs : List (List Chg)} (h : RecsOk B w vs rs) {v : Value} {s n : Nat} {xs : List Value} {C : Nat} (hv : w.ownsRow C 162 s v n xs) (hg : w.grownBy w' v.ownBlock) : RecsOk B w' vs rs :=
  h.keep fun b cs _ e => hg.block b (Array.getElem?_eq_some_iff.1 e).1 (fun hq => by
    obtain ⟨cur, hc⟩ := row_block hv hq.symm
    rw [e] at hc
    simp only [Option.some.injEq, Obj.cells.injEq] at hc
    exact absurd hc.2.1 (by decide))
structure FdW (g gd first n : Nat) (m : Mk) (used : Nat) (pg : Nat → List UInt8) (m0 : Mk) (used0 : Nat) (v : Value) (done : List (List Chg)) (w wr : World) : Prop where
  ring : PrAt g gd first n m used wr
  ok : RingOk first n m used
  own : ∃ vs, wr.ownsRow w.heap.size 162 1 v done.length vs ∧ RecsOk w.heap.size wr vs done
  only : Only (fun j => j = g) w wr
  cnt : done.length ≤ used
  eqn : openAll n pg n (n - used0) m0 = (done ++ (openAll n pg n (n - used) m).1, (openAll n pg n (n - used) m).2)
def FindP (g gd first n : Nat) (r : List (List Chg) × Mk × Nat) (w : World) (e : Ending) (w' : World) : Prop :=
  ∃ v vs used, e = .returned (.tuple #[v, .nilIface]) ∧ PrAt g gd first n r.2.1 used w' ∧ RingOk first n r.2.1 used ∧ n - used = r.2.2 ∧ w'.ownsRow w.heap.size 162 1 v r.1.length vs ∧ RecsOk w.heap.size w' vs r.1 ∧ Only (fun j => j = g) w w'
theorem openAll_one {n : Nat} {pg : Nat → List UInt8} {free : Nat} {m : Mk} (hf : free ≤ n) (h : holds pg free m) :
    openAll n pg n free m = (found pg m :: (openAll n pg n (free - takes (kOf pg m)) (behind n m (kOf pg m) (dig (rawText pg m)))).1, (openAll n pg n (free - takes (kOf pg m)) (behind n m (kOf pg m) (dig (rawText pg m)))).2) := by
  have h1 := holds_free h
  obtain ⟨f, hfe⟩ : ∃ f, n = f + 1 := ⟨n - 1, by omega⟩
  have e : ∀ k, k = f + 1 → openAll n pg k free m = (found pg m :: (openAll n pg f (free - takes (kOf pg m)) (behind n m (kOf pg m) (dig (rawText pg m)))).1, (openAll n pg f (free - takes (kOf pg m)) (behind n m (kOf pg m) (dig (rawText pg m)))).2) := fun k hk => by
    subst hk; rw [openAll, if_pos h]
  rw [e n hfe, openAll_rounds n pg f n _ _ (by have := takes_pos (kOf pg m); omega) (by omega)]
section
variable {g gd first n used : Nat} {m : Mk} {S : St} {F : Nat → Prop} {w w' : World}
set_option maxRecDepth 100000 in
set_option maxHeartbeats 8000000 in
/-- find. -/
theorem find_any (h : PrAt g gd first n m used w) (hO : RingOk first n m used) (hD : PD S F gd w) (hgF : ¬ F g) (hB : Byt S) (ho : S.off = false) (hin : first + n ≤ S.firm.length) :
    Calls Tryz.prog 114 #[.pointer (some ⟨g, 0, none⟩)] w (FindP g gd first n (openAll n (pgOf (imgB S) first n) n (n - used) m) w) := by
  obtain ⟨i0, hi, hzz⟩ := Option.map_eq_some_iff.1 infoChgs
  simp only [Prod.mk.injEq] at hzz
  obtain ⟨hz0, hz1, hz2⟩ := hzz
  have Hi := Lib.hid hi; have Hz0 := Lib.hid hz0; have Hz1 := Lib.hid hz1; have Hz2 := Lib.hid hz2
  clear hi hz0 hz1 hz2
  have hpl := fun i => pg_len (S := S) (first := first) (n := n) hB hin (by have := hO.n0; omega) i
  have hgl := h.lt
  obtain ⟨pg, Hpg⟩ : ∃ pg, Hid (pg = pgOf (imgB S) first n) := ⟨_, rfl⟩
  have HSt : Hid (∀ {W : World} {M : Mk} {U : Nat}, PrAt g gd first n M U W → RingOk first n M U → PD S F gd W → Calls Tryz.prog 132 #[.pointer (some ⟨g, 0, none⟩)] W (StandP pg (n - U) M W)) := by
    rw [Hpg.out]; exact fun h1 h2 h3 => stand_any h1 h2 h3 hB ho hin
  rw [← Hpg.out] at hpl ⊢
  have HPl := Lib.hid hpl
  clear hpl
  go_enter Tryz.func114, Tryz.ntmps114
  go_wp2
  go_loopg [4] (n + 1 - used) (fun gg v wr => ∃ ap cp m' used' done, gg = n + 1 - used' ∧ v = .slice ap done.length cp ∧ FdW g gd first n m' used' pg m used (.slice ap done.length cp) done w wr)
  case atStart => exact ⟨none, 0, m, used, [], rfl, rfl, h, hO, ⟨[], World.ownsRow_nil _ _ _ _, rfl, fun i l hi => by simp at hi⟩, Only.refl _ _, by simp, by simp⟩
  case round =>
    obtain ⟨ap, cp, m', used', done, rfl, rfl, hW⟩ := hrel
    obtain ⟨vs, hown, hrecs⟩ := hW.own
    have hDr : PD S F gd wr := hD.keep hW.only (fun k hk e => hgF (e ▸ hk))
    have hst := HSt.out hW.ring hW.ok hDr
    go_wp2_with (go_at_call 132; refine hst.mono ?_)
    rintro e w2 hp
    rcases hp with ⟨hh, b, hb, rfl, hr2, hb2⟩ | ⟨hno, rfl, hb2⟩
    · obtain ⟨k, hk⟩ : ∃ k, kOf pg m' = k := ⟨_, rfl⟩
      obtain ⟨T, hT⟩ : ∃ T, takes k = T := ⟨_, rfl⟩
      have hone := openAll_one (n := n) (free := n - used') (by omega) hh
      have hk60 := hh.1.2.2.1
      have hfr := (holds_free hh).2
      have hdig := hh.2
      rw [hk] at hr2 hone hk60 hfr
      rw [hT] at hone hfr
      rw [hk, hT]
      have hT3 : T ≤ 65 ∧ 1 ≤ T := by rw [← hT]; unfold takes; omega
      have hkk : (at8 (pg m'.place) 9).toNat = k := hk
      have hlr : (rest pg m'.place k).length + 1 = T := by simp only [rest, List.length_map, List.length_range]; omega
      have hch := changes_any hr2 k T T hkk hT hlr (by omega)
      have hfd : decode (rest pg m'.place k) k = found pg m' := by unfold found; rw [hk]
      rw [hfd] at hch
      have hnn : (binOp .eql 73 (.slice (some ⟨b, 0, none⟩) T T) (.slice none 0 0)).run Tryz.prog w2 = .ok (.bool false) w2 := by kernel_rfl
      go_wp2_with (go_at_call 133; refine hch.mono ?_)
      clear hch hnn
      rintro e w3 ⟨b3, hb3, rfl, hrow3, hbel3⟩
      have hb23 := hb2.trans (hbel3.mono hb2.size)
      have hown3 : w3.ownsRow w.heap.size 162 1 (.slice ap done.length cp) done.length vs := hown.kept (grownBy_of_below (r := none) hb23) (by cases (Value.slice ap done.length cp).ownBlock <;> simp)
      obtain ⟨fd, hfde⟩ : ∃ fd, found pg m' = fd := ⟨_, rfl⟩
      rw [hfde] at hrow3 hone
      rw [hfde]
      obtain ⟨L, hL⟩ : ∃ L, fd.length = L := ⟨_, rfl⟩
      rw [hL]
      have HL := Lib.hid hL
      clear hL
      have hownA := hown3.alloc (.cells #[.slice (some ⟨b3, 0, none⟩) L L] 162)
      have hcell : ∀ (j : Nat) (u : Value), [Value.slice (some ⟨b3, 0, none⟩) L L][j]? = some u → (w3.alloc (.cells #[.slice (some ⟨b3, 0, none⟩) L L] 162)).cell? ((⟨w3.heap.size, 0, none⟩ : Addr).add j) = some u := fun j u hu => by
        match j with
        | 0 =>
          obtain rfl : Value.slice (some ⟨b3, 0, none⟩) L L = u := by simpa using hu
          exact cell_of_row _ w3.heap.size _ _ _ _ (heap_alloc_new w3 _)
        | j + 1 => simp at hu
      have hHc := Lib.hid hcell
      have hlen : done.length + 1 ≤ 4097 := by
        have h1 := hW.cnt; have h2 := hW.ok.used; have h3 := hW.ok.n1; omega
      clear hcell
      go_wp2_with (first
        | (refine wpList_append_own _ rfl _ _ 159 rfl w.heap.size 162 i0 (.slice none 0 0) 1 24 Tryz.underlying159 Hi.out Hz0.out Hz1.out Hz2.out rfl (by decide) _ _ _ rfl hownA ⟨w3.heap.size, 0, none⟩ 1 1 [.slice (some ⟨b3, 0, none⟩) L L] rfl rfl hHc.out (fun u hu => by rw [List.mem_singleton.1 hu]; rfl) (by unfold maxLen; omega) (by omega) (by have := hW.only.size; have := hb23.size; simp; omega) ?_; intro v' w4 hown4 hgr4 _))
      have hb3A : Below w3.heap.size w3 (w3.alloc (.cells #[Value.slice (some ⟨b3, 0, none⟩) L L] 162)) := (Below.refl _ _).alloc (Nat.le_refl _) _
      have hbA := hb23.trans (hb3A.mono hb23.size)
      have hos := hW.only.size
      have hownlt := hown.lt
      have hringA := hW.ring.below hbA
      have hring4 := hringA.of_block (hgr4.block g (by have := hbA.size; have := hW.ring.lt; omega) (fun e => by have := hownlt g e.symm; omega))
      have hrA := (hr2.below hbel3).below hb3A
      have hr4 := hrA.of_block (hgr4.block b hrA.lt (fun e => by have := hownlt b e.symm; omega))
      have hrecsA := (hrecs.below hbA).grown hownA hgr4
      have hrow3A := (hb3A.block b3 (Array.getElem?_eq_some_iff.1 hrow3).1).trans hrow3
      have hrow4 := (hgr4.block b3 (Array.getElem?_eq_some_iff.1 hrow3A).1 (fun e => by have := hownlt b3 e.symm; have := hb2.size; omega)).trans hrow3A
      have hrecs4 := hrecsA.snoc (by have := hb2.size; omega) hrow4
      have ho4 : Only (fun j => j = g) w w4 := (hW.only.trans (Only.of_below (F := fun _ => False) hbA) (fun j hj => hj.elim)).trans (Only.of_grown (F := fun j => some j = (Value.slice ap done.length cp).ownBlock) hgr4 (fun j e => e.symm)) (fun j hj => .inr (hownlt j hj.symm).1)
      have hps := pass_any hring4 hW.ok hr4 (by omega) T T (by omega) (by omega) k hT
      rw [← hdig] at hps
      have Hone := Lib.hid hone
      have Hrecs4 := Lib.hid hrecs4
      have Hown4 := Lib.hid hown4
      have hringok := hW.ok
      have hcnt := hW.cnt
      have Heqn := Lib.hid hW.eqn
      clear hrecs4 hrow4 hrow3A hrecsA hr4 hrA hring4 hringA hone hownA hown3 hown hrecs hgr4 hst hrow3 hr2 hb3A hbA hb23 hbel3 hb2 hown4 hHc hDr hW
      go_wp2_with (go_at_call 134; refine hps.mono ?_)
      rintro e w5 ⟨rfl, hring5, ho5⟩
      obtain ⟨ap', cp', hv'⟩ := row_form Hown4.out
      subst hv'
      have hown5 := Hown4.out.kept ho5.grownBy (by
        rcases hc : (Value.slice ap' (done.length + 1) cp').ownBlock with _ | q
        · exact .inl rfl
        · refine .inr (fun e => ?_)
          have := Hown4.out.lt q hc
          simp only [Option.some.injEq] at e
          omega)
      have hrecs5 := Hrecs4.out.keep (w' := w5) (fun b' cs hb' e => ho5.block b' (Array.getElem?_eq_some_iff.1 e).1 (by omega))
      rw [HL.out] at hrecs5
      have ho05 := ho4.trans ho5 (fun j hj => .inl hj)
      have hmod := Nat.mod_lt (m'.place + takes k) (show 0 < n by have := hringok.n0; omega)
      have hok5 : RingOk first n (behind n m' k (dig (rawText pg m'))) (used' + T) := ⟨hringok.n0, hringok.n1, hringok.first, hmod, Nat.mod_lt _ (by omega), by have := hringok.used; omega⟩
      have hl5 : (done ++ [fd]).length = done.length + 1 := by simp
      have hW5 : FdW g gd first n (behind n m' k (dig (rawText pg m'))) (used' + T) pg m used (.slice ap' (done ++ [fd]).length cp') (done ++ [fd]) w w5 := by
        rw [hl5]
        refine ⟨hring5, hok5, ⟨_, by rw [hl5]; exact hown5, hrecs5⟩, ho05, by rw [hl5]; omega, ?_⟩
        rw [Heqn.out, Hone.out, show n - (used' + T) = n - used' - T from by omega]
        simp
      have HW5 := Lib.hid hW5
      clear hW5 hown5 hrecs5 hring5 ho05 ho5 Hown4 Hrecs4 Heqn Hone hps hl5 hmod
      go_wp2
      go_roundg (n + 1 - (used' + T))
      case measure => have := hringok.used; omega
      case rel => exact ⟨ap', cp', _, _, done ++ [fd], rfl, by rw [List.length_append]; rfl, HW5.out⟩
    · have hstop := openAll_stop (n := n) (pg := pg) (f := n) (free := n - used') (m := m') hno
      have heqn := hW.eqn
      rw [hstop, List.append_nil] at heqn
      have Heqn := Lib.hid heqn
      have hring := hW.ring.below hb2
      have hown2 := hown.kept (grownBy_of_below (r := none) hb2) (by cases (Value.slice ap done.length cp).ownBlock <;> simp)
      have hrecs2 := hrecs.below hb2
      have ho2 := hW.only.trans (Only.of_below (F := fun _ => False) hb2) (fun j hj => hj.elim)
      have hok := hW.ok
      have hnn : (binOp .eql 73 (.slice none 0 0) (.slice none 0 0)).run Tryz.prog w2 = .ok (.bool true) w2 := by kernel_rfl
      clear heqn hstop hst hown hrecs
      go_wp2
      first | go_ret2 | (refine bodyPost_ret (v := .tuple #[.slice ap done.length cp, .nilIface]) (by simp [results, Tryz.results114, go_sem]) rfl ?_)
      refine ⟨.slice ap done.length cp, vs, used', rfl, ?_⟩
      rw [Heqn.out]
      exact ⟨hring, hok, rfl, hown2, hrecs2, ho2⟩
end
end Go.Proofs.YtjkkbceddbkejaaGreatDoor

/-
  The program's ring: Open, what is refused.
-/
namespace Go.Proofs.YtjkkbceddbkejaaGreatDoor
open Go.RowKit Sh Go.Extern.Stop Go.Stop Go.Extern

/-- A mark, whose place may be any number. -/
def markI (pl : Int) (num : Nat) (last : List UInt8) : List Value := .int .i64 pl :: .int .u64 num :: last.map cu8
theorem markI_nat (m : Mk) : markI m.place m.num m.last = markCells m := rfl
def BadP (n : Int) (w : World) (e : Ending) (w' : World) : Prop := ∃ v, e = .returned (.tuple #[.pointer none, .slice none 0 0, v]) ∧ ErrV w' n v ∧ Below w.heap.size w w'
section
variable {w w' : World}
set_option maxRecDepth 100000 in
set_option maxHeartbeats 4000000 in
/-- Open: what is refused. -/
theorem open_bad (p : Value) (D : Nat) (hD : D ≤ 4096) (hsize : ∀ W, Below w.heap.size w W → Calls Tryz.prog 84 #[p] W fun e w' => e = .returned (.int .i64 D) ∧ W = w')
    (first n pl : Int) (num : Nat) (last : List UInt8) (hf : -9223372036854775808 ≤ first ∧ first ≤ 9223372036854775807)
    (hbad : n < 96 ∨ 4096 < n ∨ first < 0 ∨ (D : Int) - n < first ∨ pl < 0 ∨ n ≤ pl) :
    Calls Tryz.prog 86 #[p, .int .i64 first, .int .i64 n, .agg (markI pl num last).toArray] w (BadP 1 w) := by
  obtain ⟨mv, Hmv⟩ : ∃ mv : List Value, Hid (mv = markI pl num last) := ⟨_, rfl⟩
  rw [← Hmv.out]
  have hb1 := (Below.refl w.heap.size w).alloc (Nat.le_refl _) (.cells mv.toArray 156)
  have c0 : (w.alloc (.cells mv.toArray 156)).cell? ⟨w.heap.size, 0, none⟩ = some (.int .i64 pl) := by
    rw [cell_of_row _ w.heap.size 0 _ _ _ (heap_alloc_new w _), Hmv.out]; rfl
  have hs := hsize _ hb1
  clear hsize
  by_cases h1 : n < 96
  · clear hbad
    go_enter Tryz.func86, Tryz.ntmps86
    go_wp2_with (first
      | (go_at_call 84; refine hs.mono ?_; rintro e w' ⟨rfl, rfl⟩)
      | (go_at_call 35; refine (in_more ⟨#[114, 105, 110, 103, 46, 79, 112, 101, 110]⟩ 1 [] _ _ rfl).mono ?_; rintro e w3 ⟨rfl, hC3, hb3⟩))
    refine bodyPost_ret (v := .tuple #[.pointer none, .slice none 0 0, .iface 135 (.pointer (some ⟨_, 0, none⟩))]) (by simp [results, Tryz.results86, go_sem]) rfl ⟨_, rfl, .inr ⟨by decide, _, hC3⟩, hb1.trans (hb3.mono hb1.size)⟩
  by_cases h2 : 4096 < n
  · clear hbad
    go_enter Tryz.func86, Tryz.ntmps86
    go_wp2_with (first
      | (go_at_call 84; refine hs.mono ?_; rintro e w' ⟨rfl, rfl⟩)
      | (go_at_call 35; refine (in_more ⟨#[114, 105, 110, 103, 46, 79, 112, 101, 110]⟩ 1 [] _ _ rfl).mono ?_; rintro e w3 ⟨rfl, hC3, hb3⟩))
    refine bodyPost_ret (v := .tuple #[.pointer none, .slice none 0 0, .iface 135 (.pointer (some ⟨_, 0, none⟩))]) (by simp [results, Tryz.results86, go_sem]) rfl ⟨_, rfl, .inr ⟨by decide, _, hC3⟩, hb1.trans (hb3.mono hb1.size)⟩
  by_cases h3 : first < 0
  · clear hbad
    go_enter Tryz.func86, Tryz.ntmps86
    go_wp2_with (first
      | (go_at_call 84; refine hs.mono ?_; rintro e w' ⟨rfl, rfl⟩)
      | (go_at_call 35; refine (in_more ⟨#[114, 105, 110, 103, 46, 79, 112, 101, 110]⟩ 1 [] _ _ rfl).mono ?_; rintro e w3 ⟨rfl, hC3, hb3⟩))
    refine bodyPost_ret (v := .tuple #[.pointer none, .slice none 0 0, .iface 135 (.pointer (some ⟨_, 0, none⟩))]) (by simp [results, Tryz.results86, go_sem]) rfl ⟨_, rfl, .inr ⟨by decide, _, hC3⟩, hb1.trans (hb3.mono hb1.size)⟩
  have w1 : IntKind.i64.wrap ((D : Int) - n) = (D : Int) - n := IntWalk.i64_in _ (by omega)
  by_cases h4 : (D : Int) - n < first
  · clear hbad
    go_enter Tryz.func86, Tryz.ntmps86
    go_wp2_with (first
      | (go_at_call 84; refine hs.mono ?_; rintro e w' ⟨rfl, rfl⟩)
      | (go_at_call 35; refine (in_more ⟨#[114, 105, 110, 103, 46, 79, 112, 101, 110]⟩ 1 [] _ _ rfl).mono ?_; rintro e w3 ⟨rfl, hC3, hb3⟩))
    refine bodyPost_ret (v := .tuple #[.pointer none, .slice none 0 0, .iface 135 (.pointer (some ⟨_, 0, none⟩))]) (by simp [results, Tryz.results86, go_sem]) rfl ⟨_, rfl, .inr ⟨by decide, _, hC3⟩, hb1.trans (hb3.mono hb1.size)⟩
  by_cases h5 : pl < 0
  · clear hbad
    go_enter Tryz.func86, Tryz.ntmps86
    go_wp2_with (first
      | (go_at_call 84; refine hs.mono ?_; rintro e w' ⟨rfl, rfl⟩)
      | (go_at_call 35; refine (in_more ⟨#[114, 105, 110, 103, 46, 79, 112, 101, 110]⟩ 1 [] _ _ rfl).mono ?_; rintro e w3 ⟨rfl, hC3, hb3⟩))
    refine bodyPost_ret (v := .tuple #[.pointer none, .slice none 0 0, .iface 135 (.pointer (some ⟨_, 0, none⟩))]) (by simp [results, Tryz.results86, go_sem]) rfl ⟨_, rfl, .inr ⟨by decide, _, hC3⟩, hb1.trans (hb3.mono hb1.size)⟩
  have h6 : n ≤ pl := by omega
  clear hbad
  go_enter Tryz.func86, Tryz.ntmps86
  go_wp2_with (first
    | (go_at_call 84; refine hs.mono ?_; rintro e w' ⟨rfl, rfl⟩)
    | (go_at_call 35; refine (in_more ⟨#[114, 105, 110, 103, 46, 79, 112, 101, 110]⟩ 1 [] _ _ rfl).mono ?_; rintro e w3 ⟨rfl, hC3, hb3⟩))
  refine bodyPost_ret (v := .tuple #[.pointer none, .slice none 0 0, .iface 135 (.pointer (some ⟨_, 0, none⟩))]) (by simp [results, Tryz.results86, go_sem]) rfl ⟨_, rfl, .inr ⟨by decide, _, hC3⟩, hb1.trans (hb3.mono hb1.size)⟩
end
end Go.Proofs.YtjkkbceddbkejaaGreatDoor

/-
  The program's ring: Open, what is found.
-/
namespace Go.Proofs.YtjkkbceddbkejaaGreatDoor
open Go.RowKit Sh Go.Extern.Stop Go.Stop Go.Extern

theorem row_base {w : World} {B C : Nat} {e : TypeId} {s n : Nat} {v : Value} {xs : List Value} (h : w.ownsRow B e s v n xs) (hC : C ≤ B) : w.ownsRow C e s v n xs :=
  ⟨h.1, h.2.imp id fun ⟨g, cap, cur, e, hb, r⟩ => ⟨g, cap, cur, e, Nat.le_trans hC hb, r⟩⟩
section
variable {g gd first n used : Nat} {m : Mk} {S : St} {F : Nat → Prop} {w w' : World}
def ringAgg (gd first n : Nat) (m : Mk) : Array Value := ringCells gd first n m 0
theorem fill_ring (cells : Array Value) (hc : cells.size = 38) (hc37 : cells[37]? = some (.int .i64 0)) (a b c : Value) (ha : a.cells = #[a]) (hb : b.cells = #[b]) (hcc : c.cells = #[c]) (p : List Value) (hp : p.length = 34) (places : Nat → Option (Nat × Nat)) (h0 : places 0 = some (0, 1)) (h1 : places 1 = some (1, 1)) (h2 : places 2 = some (2, 1)) (h3 : places 3 = some (3, 34)) :
    Instr.fill places cells [(0, a), (1, b), (2, c), (3, .agg p.toArray)] = some (a :: b :: c :: (p ++ [.int .i64 0])).toArray := by
  have e1 : (Value.agg p.toArray).cells = p.toArray := rfl
  simp only [Instr.fill, h0, h1, h2, h3, ha, hb, hcc, e1]
  have s1 : ∀ (x : Value) (k : Nat) (cs : Array Value), (#[x] : Array Value).zipIdx.foldl (fun cs x => match x with | (c, j) => cs.setIfInBounds (k + j) c) cs = cs.setIfInBounds k x := fun x k cs => by
    show cs.setIfInBounds (k + 0) x = _
    rw [Nat.add_zero]
  rw [if_neg (by simp [hc]), s1, if_neg (by simp [hc]), s1, if_neg (by simp [hc]), s1, if_neg (by simp [hc, hp])]
  congr 1
  rw [← Array.foldl_toList, Array.toList_zipIdx]
  obtain ⟨hs, hk⟩ := Great.foldl_set 3 p 0 (((cells.setIfInBounds 0 a).setIfInBounds 1 b).setIfInBounds 2 c)
  apply Array.ext_getElem?
  intro k
  refine (hk k).trans ?_
  rw [Array.size_setIfInBounds, Array.size_setIfInBounds, Array.size_setIfInBounds, hc]
  by_cases hk0 : k = 0
  · subst hk0
    rw [if_neg (by omega), Array.getElem?_setIfInBounds, Array.getElem?_setIfInBounds, Array.getElem?_setIfInBounds]
    simp [hc]
  · by_cases hk1 : k = 1
    · subst hk1
      rw [if_neg (by omega), Array.getElem?_setIfInBounds, Array.getElem?_setIfInBounds]
      simp [hc]
    · by_cases hk2 : k = 2
      · subst hk2
        rw [if_neg (by omega), Array.getElem?_setIfInBounds]
        simp [hc]
      · obtain ⟨j, rfl⟩ : ∃ j, k = j + 3 := ⟨k - 3, by omega⟩
        by_cases hlt : j + 3 < 37
        · rw [if_pos (by omega), show j + 3 - (3 + 0) = j by omega]
          simp [List.getElem?_append_left (show j < p.length by omega)]
        · rw [if_neg (by omega)]
          by_cases h37 : j + 3 = 37
          · obtain rfl : j = 34 := by omega
            have e : (p ++ [Value.int .i64 0])[34]? = some (.int .i64 0) := by rw [List.getElem?_append_right (by omega), hp]; rfl
            rw [Array.getElem?_setIfInBounds, Array.getElem?_setIfInBounds, Array.getElem?_setIfInBounds, if_neg (by omega), if_neg (by omega), if_neg (by omega), hc37, List.getElem?_toArray]
            exact e.symm
          · rw [Array.getElem?_eq_none (by simp [hc]; omega), Array.getElem?_eq_none (by simp [hp]; omega)]
theorem built_ring (gd first n : Nat) (m : Mk) (h : m.last.length = 32) : Tryz.prog.built 189 [(0, .pointer (some ⟨gd, 0, none⟩)), (1, .int .i64 first), (2, .int .i64 n), (3, .agg (markCells m).toArray)] = some (ringCells gd first n m 0) := by
  have hu : (Tryz.prog.underlying 189).bind (fun d => match d with | .struct fs => fs.toList.mapM (fun f => (Tryz.prog.info? f.type).map fun i => (f.offset, i.size)) | _ => none) = some [(0, 1), (1, 1), (2, 1), (3, 34), (37, 1)] := by kernel_rfl
  have hin : (Tryz.prog.info? 189).map (fun i => (i.zero, i.size)) = some (some (.agg (Value.pointer none :: .int .i64 0 :: .int .i64 0 :: (zMark ++ [.int .i64 0])).toArray), 38) := by kernel_rfl
  obtain ⟨ti, hti, hz⟩ := Option.map_eq_some_iff.1 hin
  simp only [Prod.mk.injEq] at hz
  unfold Program.built
  rw [hti, Tryz.underlying189]
  rw [Tryz.underlying189] at hu
  simp only [Option.bind_some] at hu
  simp only [hz.1, hu]
  exact fill_ring _ (by simp [Value.cells, zMark, markCells]) (by rfl) (.pointer (some ⟨gd, 0, none⟩)) (.int .i64 first) (.int .i64 n) rfl rfl rfl (markCells m) (by simp [markCells, h]) _ rfl rfl rfl rfl
def OpenP (gd first n : Nat) (r : List (List Chg) × Mk × Nat) (w : World) (e : Ending) (w' : World) : Prop :=
  ∃ g v vs used, e = .returned (.tuple #[.pointer (some ⟨g, 0, none⟩), v, .nilIface]) ∧ w.heap.size ≤ g ∧ PrAt g gd first n r.2.1 used w' ∧ RingOk first n r.2.1 used ∧ n - used = r.2.2 ∧ w'.ownsRow w.heap.size 162 1 v r.1.length vs ∧ RecsOk w.heap.size w' vs r.1 ∧ Below w.heap.size w w'
set_option maxRecDepth 100000 in
set_option maxHeartbeats 4000000 in
/-- Open: what is found. -/
theorem open_any (hD : PD S F gd w) (hG : Good S) (hB : Byt S) (ho : S.off = false) (hin : first + n ≤ S.firm.length) (hn0 : 96 ≤ n) (hn1 : n ≤ 4096) (hpl : m.place < n) (hnum : m.num < 18446744073709551616) (hlast : m.last.length = 32) :
    Calls Tryz.prog 86 #[.pointer (some ⟨gd, 0, none⟩), .int .i64 first, .int .i64 n, .agg (markCells m).toArray] w (OpenP gd first n (openAll n (pgOf (imgB S) first n) n n m) w) := by
  have hD4 := hG.le
  have hO : RingOk first n m 0 := ⟨hn0, hn1, by omega, hpl, hnum, by omega⟩
  obtain ⟨mv, Hmv⟩ : ∃ mv : List Value, Hid (mv = markCells m) := ⟨_, rfl⟩
  rw [← Hmv.out]
  have hmvl : mv.length = 34 := by rw [Hmv.out]; simp [markCells, hlast]
  have hb1 := (Below.refl w.heap.size w).alloc (Nat.le_refl _) (.cells mv.toArray 156)
  have hbox : (w.alloc (.cells mv.toArray 156)).heap[w.heap.size]? = some (.cells mv.toArray 156 (0, 0)) := heap_alloc_new w _
  have c0 : (w.alloc (.cells mv.toArray 156)).cell? ⟨w.heap.size, 0, none⟩ = some (.int .i64 (m.place : Nat)) := by
    rw [cell_of_row _ w.heap.size 0 _ _ _ hbox, Hmv.out]; rfl
  have hs := pd_size (hD.below hb1)
  obtain ⟨D, hDl⟩ : ∃ D, S.firm.length = D := ⟨_, rfl⟩
  rw [hDl] at hs hD4
  have hin2 : first + n ≤ D := by rw [← hDl]; exact hin
  have w1 : IntKind.i64.wrap ((D : Int) - n) = (D : Int) - n := IntWalk.i64_in _ (by omega)
  have h4 : ¬ (D : Int) - n < first := by omega
  have HB := Lib.hid (built_ring gd first n m hlast)
  rw [← Hmv.out] at HB
  obtain ⟨rc, Hrc⟩ : ∃ rc : Array Value, Hid (rc = ringCells gd first n m 0) := ⟨_, rfl⟩
  rw [← Hrc.out] at HB
  have hmi : Hid ((Tryz.prog.info? 156).map (·.size) = some mv.toArray.size) := by rw [List.size_toArray, hmvl]; exact infoPMark
  have Hbox := Lib.hid hbox
  clear hbox hDl hmvl
  go_enter Tryz.func86, Tryz.ntmps86
  go_upto_region 4 with (first
    | (go_at_call 84; refine hs.mono ?_; rintro e w' ⟨rfl, rfl⟩)
    | (refine wpList_load_row rfl 156 _ rfl w.heap.size rfl 156 mv.toArray (0, 0) _ Hbox.out Tryz.underlying156 rfl hmi.out ?_)
    | (refine wpList_build_to rfl 189 _ rfl rc (Eq.trans (congrArg (Program.built _ _) (by simp [Act.eval, Act.put])) HB.out) ?_))
  have hb2 := hb1.alloc hb1.size (.cells rc 189)
  have hgA : ((w.alloc (.cells mv.toArray 156)).alloc (.cells rc 189)).heap[w.heap.size + 1]? = some (.cells rc 189 (0, 0)) := by
    have := heap_alloc_new (w.alloc (.cells mv.toArray 156)) (.cells rc 189)
    simpa using this
  generalize (w.alloc (.cells mv.toArray 156)).alloc (.cells rc 189) = wa at hb2 hgA ⊢
  rw [Hrc.out] at hgA
  obtain ⟨g, hge⟩ : ∃ g, w.heap.size + 1 = g := ⟨_, rfl⟩
  rw [hge] at hgA ⊢
  have hring : PrAt g gd first n m 0 wa := ⟨hgA, hlast⟩
  have hgF : ¬ F g := fun hf => by have := hD.lt hf; omega
  have hfd := find_any hring hO (hD.below hb2) hgF hB ho hin
  rw [Nat.sub_zero] at hfd
  have hgl := hring.lt
  clear hs HB Hbox hmi c0 hgA hb1
  go_wp2_with (first
    | (go_at_call 114; refine hfd.mono ?_))
  rintro e w3 ⟨v, vs, used, rfl, hring3, hok3, hfr3, hown3, hrecs3, ho3⟩
  have hbel3 : Below w.heap.size w w3 := hb2.trans (ho3.base hb2.size (fun k hk => by omega))
  have hown3' := row_base hown3 hb2.size
  have hrecs3' : RecsOk w.heap.size w3 vs (openAll n (pgOf (imgB S) first n) n n m).1 := ⟨hrecs3.1, fun i l hi => by obtain ⟨b, h1, h2, h3⟩ := hrecs3.2 i l hi; exact ⟨b, Nat.le_trans hb2.size h1, h2, h3⟩⟩
  obtain ⟨r, Hr⟩ : ∃ r, Hid (r = openAll n (pgOf (imgB S) first n) n n m) := ⟨_, rfl⟩
  rw [← Hr.out] at hring3 hok3 hfr3 hown3' hrecs3' ⊢
  have Hfin := Lib.hid (show OpenP gd first n r w (.returned (.tuple #[.pointer (some ⟨g, 0, none⟩), v, .nilIface])) w3 from ⟨g, v, vs, used, rfl, by omega, hring3, hok3, hfr3, hown3', hrecs3', hbel3⟩)
  obtain ⟨ap, cp, hv⟩ := row_form hown3'
  obtain ⟨K, hK⟩ : ∃ K, r.1.length = K := ⟨_, rfl⟩
  rw [hK] at hv
  subst hv
  clear hfd hring3 hok3 hfr3 hown3 hown3' hrecs3 hrecs3' hbel3 ho3 hK
  go_wp2
  refine bodyPost_ret (v := .tuple #[.pointer (some ⟨g, 0, none⟩), .slice ap K cp, .nilIface]) (by simp [results, Tryz.results86, go_sem]) rfl ?_
  rw [← Hr.out]
  exact Hfin.out
end
end Go.Proofs.YtjkkbceddbkejaaGreatDoor
