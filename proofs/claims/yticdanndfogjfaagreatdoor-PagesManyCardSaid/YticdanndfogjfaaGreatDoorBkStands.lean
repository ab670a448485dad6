/-
  Law 06's own: stands.
-/
import Derived.Test.YticdanndfogjfaaGreatDoorBkStd6
set_option linter.unusedSimpArgs false
set_option linter.unusedVariables false
namespace Go.Proofs.YticdanndfogjfaaGreatDoor
open Go.RowKit Sh Go.Maps Go.Extern.Stop Go.Stop Go.Extern

attribute [local irreducible] bk1 bk0 s6a s6b s6c s6d s6S s6e
set_option maxRecDepth 100000 in
set_option maxHeartbeats 4000000 in
theorem stands6_any (w : World) : Calls Tryz.prog 15 #[] w fun e w' => e = .returned (.bool true) ∧ Below w.heap.size w w' := by
  obtain ⟨p1, H1⟩ : ∃ p, Hid (p = page1 7) := ⟨_, rfl⟩
  obtain ⟨p3, H3⟩ : ∃ p, Hid (p = page1 8) := ⟨_, rfl⟩
  have b1 : BP p1 := by rw [H1.out]; exact page1_bytes 7
  have b3 : BP p3 := by rw [H3.out]; exact page1_bytes 8
  have hV1 : pageV (pA 7) = .agg p1.toArray := by rw [pageV_pA, H1.out]
  have hV3 : pageV (pA 8) = .agg p3.toArray := by rw [pageV_pA, H3.out]
  have hq1 : ∀ W : World, (binOp .eql 37 (.agg p1.toArray) (.agg p1.toArray)).run Tryz.prog W = .ok (.bool true) W := b1.eql
  have hq3 : ∀ W : World, (binOp .eql 37 (.agg p3.toArray) (.agg p3.toArray)).run Tryz.prog W = .ok (.bool true) W := b3.eql
  have hi1 : ∀ W : World, (Op.equalIn 10000 37 (.agg p1.toArray) (.agg p1.toArray)).run Tryz.prog W = .ok true W := b1.same
  have hi3 : ∀ W : World, (Op.equalIn 10000 37 (.agg p3.toArray) (.agg p3.toArray)).run Tryz.prog W = .ok true W := b3.same
  have HB1 : Hid (Tryz.prog.built 37 [(0, .int .u8 7)] = some p1.toArray) := by rw [H1.out]; exact built_one 7
  have HB3 : Hid (Tryz.prog.built 37 [(0, .int .u8 8)] = some p3.toArray) := by rw [H3.out]; exact built_one 8
  have k := s6
  obtain ⟨B, hB⟩ : ∃ B, w.heap.size = B := ⟨_, rfl⟩
  have hnew := own_new (B := B) (w0 := w) (w := w) 120 (by omega) (by omega) (Below.refl _ _) (by omega)
  rw [hB]
  have Hnew := Lib.hid hnew
  have HB := Lib.hid hB
  clear hnew hB
  go_enter Tryz.func15, Tryz.ntmps15
  go_wp2_with (go_at_call 17; refine Hnew.out.mono ?_)
  rintro e w1 ⟨gd, rfl, hD1⟩
  have Hm := Lib.hid (hD1.mountNew (D := 120) (n := 96) (by omega) (by omega) (by omega) (by omega))
  clear hD1 Hnew
  go_wp2_with (go_at_call 18; refine Hm.out.mono ?_)
  rintro e w2 ⟨g, rfl, hB2⟩
  have hw := hB2.write k.ok1 5 (pA 7) (pA_len 7)
  rw [k.w5, hV1] at hw
  have Hw := Lib.hid hw
  clear hw hB2 Hm
  go_wp2_with (first
    | (refine wpList_build1 (.const (.int .u8 7)) rfl _ rfl _ HB1.out (by rfl) ?_)
    | (go_at_call 19; refine Hw.out.mono ?_))
  rintro e w3 ⟨v, rfl, hE, hB3⟩
  obtain rfl := ErrV.zero hE
  have hw := hB3.write k.oka 6 (pA 8) (pA_len 8)
  rw [k.w6, hV3] at hw
  have Hw2 := Lib.hid hw
  clear hw hB3 Hw hE
  go_wp2_with (first
    | (refine wpList_build1 (.const (.int .u8 8)) rfl _ rfl _ HB3.out (by rfl) ?_)
    | (go_at_call 19; refine Hw2.out.mono ?_))
  rintro e w4 ⟨v, rfl, hE, hB4⟩
  obtain rfl := ErrV.zero hE
  have hat : s6b.S.ats.length ≤ 10000 := by
    have e : s6b.S = (bk1 120 96).S := by unfold s6b; rfl
    have f := fr (D := 120) (n := 96) (by omega) (by omega) (by omega) (by omega)
    rw [e, f.ats]; simp
  have hc := hB4.commit k.okb hat
  rw [k.cm] at hc
  have Hc := Lib.hid hc
  clear hc hB4 Hw2 hE hat
  go_wp2_with (first
    | (go_at_call 22; refine Hc.out.mono ?_))
  rintro e w5 ⟨v, rfl, hE, hB5⟩
  obtain rfl := ErrV.zero hE
  have hs := hB5.sync k.okc k.atc
  rw [k.sy] at hs
  have Hs := Lib.hid hs
  clear hs hB5 Hc hE
  go_wp2_with (first
    | (go_at_call 26; refine Hs.out.mono ?_))
  rintro e w6 ⟨v, rfl, hE, hB6⟩
  obtain rfl := ErrV.zero hE
  have hcr := hB6.disk.crash k.okd.good (by rw [k.atd]; simp)
  have Hcr := Lib.hid hcr
  clear hcr hB6 Hs hE
  go_wp2_with (first
    | (go_at_call 27; refine Hcr.out.mono ?_))
  rintro e w7 ⟨gd2, rfl, hD7⟩
  have eS : crashOf s6d.S [] = s6S := by unfold s6S; rfl
  rw [eS] at hD7
  have hm := hD7.mountAgain k.ag (by rw [k.nd, k.fd]; omega) (by rw [k.gd]; omega)
  have eE : (bringOf (newBk s6S s6d.n s6d.gen s6d.m s6d.used [s6l])).1 = s6e := by unfold s6e; rfl
  rw [eE, k.nd] at hm
  have Hm2 := Lib.hid hm
  clear hm hD7 Hcr eS eE
  go_wp2_with (first
    | (go_at_call 18; refine Hm2.out.mono ?_))
  rintro e w8 ⟨g2, rfl, hB8⟩
  have hr5 := hB8.read k.oke 5
  rw [k.r5] at hr5
  simp only [OwnRd, hV1] at hr5
  have Hr5 := Lib.hid hr5
  clear hr5 hB8 Hm2
  have hz1 : Hid ((Tryz.prog.info? 37).map (·.size) = some p1.toArray.size) := page_size b1.page
  have hz2 : Hid (p1.toArray.all (·.oneCell') = true) := page_all b1.page
  have hz3 : Hid (zeros64.size = p1.toArray.size) := by
    have : p1.toArray.size = 64 := by rw [List.size_toArray]; exact b1.page.1
    rw [this]; exact (rfl : zeros64.size = 64)
  have hz4 : Hid ((Tryz.prog.info? 37).map (·.size) = some p3.toArray.size) := page_size b3.page
  have hz5 : Hid (p3.toArray.all (·.oneCell') = true) := page_all b3.page
  have hz6 : Hid (zeros64.size = p3.toArray.size) := by
    have : p3.toArray.size = 64 := by rw [List.size_toArray]; exact b3.page.1
    rw [this]; exact (rfl : zeros64.size = 64)
  go_wp2_with (first
    | (go_at_call 24; refine Hr5.out.mono ?_))
  rintro e w9 ⟨v, rfl, hE, hB9, _⟩
  obtain rfl := ErrV.zero hE
  clear hE Hr5
  go_upto_region 9 with (first
    | (refine wpList_alloc_arr rfl 37 rfl _ alloc64 ?_)
    | (refine wpList_store_new rfl 37 _ _ rfl w9.heap.size rfl p1.toArray rfl rfl 37 _ hz1.out hz3.out hz2.out ?_))
  have hba : Below w9.heap.size w9 (w9.alloc (.cells p1.toArray 37)) := (Below.refl _ _).alloc (Nat.le_refl _) _
  have hx1 : (w9.alloc (.cells p1.toArray 37)).heap[w9.heap.size]? = some (.cells p1.toArray 37 (0, 0)) := heap_alloc_new w9 _
  have hBa := hB9.below hba
  generalize w9.alloc (.cells p1.toArray 37) = wa at hba hx1 hBa ⊢
  obtain ⟨k1, hk1⟩ : ∃ k1, w9.heap.size = k1 := ⟨_, rfl⟩
  rw [hk1] at hx1 ⊢
  clear hk1 hba hB9
  have hr6 := hBa.read k.oke 6
  rw [k.r6] at hr6
  simp only [OwnRd, hV3] at hr6
  have Hr6 := Lib.hid hr6
  clear hr6 hBa
  go_wp2_with (first
    | (go_at_call 24; refine Hr6.out.mono ?_))
  rintro e wb ⟨v, rfl, hE, hBb, hbb⟩
  obtain rfl := ErrV.zero hE
  have hx1b := (hbb.block k1 (Array.getElem?_eq_some_iff.1 hx1).1).trans hx1
  clear hE Hr6 hbb hx1
  go_upto_region 10 with (first
    | (refine wpList_alloc_arr rfl 37 rfl _ alloc64 ?_)
    | (refine wpList_store_new rfl 37 _ _ rfl wb.heap.size rfl p3.toArray rfl rfl 37 _ hz4.out hz6.out hz5.out ?_))
  have hba : Below wb.heap.size wb (wb.alloc (.cells p3.toArray 37)) := (Below.refl _ _).alloc (Nat.le_refl _) _
  have hx3 : (wb.alloc (.cells p3.toArray 37)).heap[wb.heap.size]? = some (.cells p3.toArray 37 (0, 0)) := heap_alloc_new wb _
  have hBx := hBb.below hba
  have hx1 := (hba.block k1 (Array.getElem?_eq_some_iff.1 hx1b).1).trans hx1b
  generalize wb.alloc (.cells p3.toArray 37) = wx at hba hx1 hx3 hBx ⊢
  obtain ⟨k3, hk3⟩ : ∃ k3, wb.heap.size = k3 := ⟨_, rfl⟩
  rw [hk3] at hx3 ⊢
  clear hk3 hba hBb hx1b
  have hl1 := Lib.hid (run_loadAt_mid (P := Tryz.prog) wx k1 0 37 p1 _ (fun j v hj => by rw [Nat.zero_add, cell_of_row wx k1 j _ _ _ hx1]; simpa using hj) Tryz.underlying37 rfl (by rw [b1.page.1]; exact info64))
  have hl3 := Lib.hid (run_loadAt_mid (P := Tryz.prog) wx k3 0 37 p3 _ (fun j v hj => by rw [Nat.zero_add, cell_of_row wx k3 j _ _ _ hx3]; simpa using hj) Tryz.underlying37 rfl (by rw [b3.page.1]; exact info64))
  have hpg := hBx.pages
  rw [k.pg] at hpg
  have hsz22 : ((22 : Nat) : Int) = 22 := rfl
  rw [hsz22] at hpg
  have Hpg := Lib.hid hpg
  have Hbel := Lib.hid hBx.bel
  clear hx1 hx3 hpg hBx hsz22 k hV1 hV3
  go_wp2_with (first
    | (go_at_call 25; refine (num_nil _).mono ?_))
  iterate 7
    rintro e w' ⟨rfl, rfl⟩
    go_wp2_with (go_at_call 25; refine (num_nil _).mono ?_)
  rintro e w' ⟨rfl, rfl⟩
  go_wp2_with (first
    | (go_at_call 23; refine Hpg.out.mono ?_; rintro e w' ⟨rfl, rfl⟩)
    | (have _t := hl1; refine wpList_load_page _ rfl k1 0 rfl _ hl1.out (by rfl) ?_; clear hl1)
    | (have _t := hl3; refine wpList_load_page _ rfl k3 0 rfl _ hl3.out (by rfl) ?_; clear hl3)
    | (have _t := HB1; refine wpList_build1 (.const (.int .u8 7)) rfl _ rfl _ HB1.out (by rfl) ?_; clear HB1)
    | (have _t := HB3; refine wpList_build1 (.const (.int .u8 8)) rfl _ rfl _ HB3.out (by rfl) ?_; clear HB3))
  go_ret
  exact ⟨rfl, Hbel.out⟩
end Go.Proofs.YticdanndfogjfaaGreatDoor
