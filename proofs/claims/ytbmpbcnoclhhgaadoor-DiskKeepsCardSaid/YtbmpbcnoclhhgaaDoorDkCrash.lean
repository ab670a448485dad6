/-
  The program's disk: Crash.
-/
import Derived.Test.YtbmpbcnoclhhgaaDoorDkKept
namespace Go.Proofs.YtbmpbcnoclhhgaaDoor
open Go.RowKit Sh Go.Extern.Stop Go.Stop Go.Extern

def PCrashPost (firm : List (List Value)) (w : World) (e : Ending) (w' : World) : Prop := ∃ g vf vn, e = .returned (.pointer (some ⟨g, 0, none⟩)) ∧
  DiskAt g vf vn (.slice none 0 0) firm firm [] [] (-1) false w' ∧ Below w.heap.size w w' ∧ ∀ k, Foot g vf vn (.slice none 0 0) k → w.heap.size ≤ k

theorem crashS_length : ∀ (k : Nat) (firm : List (List Value)) (ats : List Int) (what : List (List Value)) (pick : List Int), (crashS k firm ats what pick).length = firm.length
  | _, _, [], _, _ => by simp [crashS]
  | _, _, _ :: _, [], _ => by simp [crashS]
  | k, firm, a :: xs, p :: ys, pick => by simp only [crashS]; rw [crashS_length]; split <;> simp

section
variable {g : Nat} {vf vn vp : Value} {firm newest what : List (List Value)} {ats pick : List Int} {fuel : Int} {off : Bool} {w : World}

theorem pcrash_nil (w : World) (v : Value) : Calls Tryd.prog 21 #[.pointer none, v] w fun e w' => e = .returned (.pointer none) ∧ w' = w := by
  go_enter Tryd.func21, Tryd.ntmps21
  go_wp2
  go_ret
  exact ⟨rfl, rfl⟩

set_option maxRecDepth 100000 in
set_option maxHeartbeats 4000000 in
theorem pcrash_any (h : DiskAt g vf vn vp firm newest ats what fuel off w) (hn : ats.length ≤ 1048576) (hF : 0 < firm.length ∧ firm.length ≤ 4096) (hin : ∀ a ∈ ats, 0 ≤ a ∧ a < (firm.length : Int))
    (ap : Option Addr) (cp : Nat) (hp : Nums w.heap.size w ap pick) (hpn : pick.length ≤ 9223372036854775807) :
    Calls Tryd.prog 21 #[.pointer (some ⟨g, 0, none⟩), .slice ap pick.length cp] w (PCrashPost (crashS 0 firm ats what pick) w) := by
  have hsame := h.same
  have c0 : w.cell? ⟨g, 0, none⟩ = some vf := h.cell 0
  obtain ⟨hF0, hF1⟩ := hF
  obtain ⟨gf, cf, rfl, _, _⟩ := h.rowF.form hF0
  obtain ⟨aa, ca, rfl⟩ := slice_form h.rowP
  have hclone := clone_any gf firm.length cf firm w hF0 hF1 h.firmOk h.rowF
  obtain ⟨F, hFl⟩ : ∃ F, firm.length = F := ⟨_, rfl⟩
  rw [hFl] at c0 hclone
  go_enter Tryd.func21, Tryd.ntmps21
  go_wp2_with (go_at_call 32; refine hclone.mono ?_)
  rintro e w1 ⟨b, cb, rfl, hrow1, hb1, hbge⟩
  have h1 := h.below hb1
  have hkept := kept_any h1 hn ap cp ((hp.below hb1).mono hb1.size) hpn
  have hbl : b < w1.heap.size := (hrow1.lt b rfl).2
  clear hclone c0
  go_wp2_with (go_at_call 33; refine hkept.mono ?_)
  rintro e w2 ⟨bk, rfl, hrow2, hb2⟩
  have hb02 := hb1.trans (hb2.mono hb1.size)
  have h2 := h.below hb02
  have hbk := (hrow2.lt bk rfl).1
  have hr12 : w2.ownsRow 0 42 64 (.slice (some ⟨b, 0, none⟩) F cb) F firm.flatten := hrow1.kept (⟨hb2.os, hb2.tape, hb2.output, hb2.size, fun q hq _ => hb2.block q hq⟩ : w1.grownBy w2 none) (.inr (by simp [Value.ownBlock]))
  have hbkb : bk ≠ b := by omega
  have hbkg : w.heap.size ≤ bk := by have := hb1.size; omega
  obtain ⟨B2, hB2⟩ : ∃ B2, w1.heap.size = B2 := ⟨_, rfl⟩
  rw [hB2] at hrow2
  have c2 : w2.cell? ⟨g, 2, none⟩ = some (.slice aa ats.length ca) := h2.cell 2
  clear hkept h1 hrow1 hb1 hb2 hbl hbk hB2
  obtain ⟨L, hL⟩ : ∃ L, Hid (ats.length = L) := ⟨_, rfl⟩
  have hLn : L ≤ 1048576 := by rw [← hL.out]; exact hn
  go_wp2
  rw [hL.out]
  rw [hL.out] at hrow2
  go_loopg [24] L (fun m v wr => ∃ (k : Nat) (fm : List (List Value)), m = L - k ∧ k ≤ L ∧ v = .int .i64 k ∧ fm.length = F ∧ Pages fm ∧ crashS k fm (ats.drop k) (what.drop k) pick = crashS 0 firm ats what pick ∧
      wr.ownsRow 0 42 64 (.slice (some ⟨b, 0, none⟩) F cb) F fm.flatten ∧ wr.ownsRow B2 4 1 (.slice (some ⟨bk, 0, none⟩) L L) L (keptL L pick) ∧ Below w.heap.size w wr)
  case atStart => exact ⟨0, firm, rfl, by omega, rfl, hFl, h.firmOk, rfl, hr12, hrow2, hb02⟩
  case round =>
    obtain ⟨k, fm, rfl, hk, rfl, hfm, hfp, hcr, hR, hK, hB⟩ := hrel
    clear c2 h2 hr12 hrow2 hb02
    by_cases hlt : k < L
    · have hlt' : (k : Int) < (L : Int) := by omega
      have hka : k < ats.length := by rw [hL.out]; exact hlt
      have hkw : k < what.length := by rw [hsame]; exact hka
      have ha := List.getElem?_eq_getElem hka
      have hpw := List.getElem?_eq_getElem hkw
      have hai := hin ats[k] (List.getElem_mem hka)
      have hRR := h.below hB
      obtain ⟨gp, cp', hvp, _, _⟩ := hRR.rowP.form (by omega)
      obtain ⟨rfl, rfl⟩ : aa = some ⟨gp, 0, none⟩ ∧ ca = cp' := by
        simp only [Value.slice.injEq] at hvp
        exact ⟨hvp.1, hvp.2.2⟩
      have hd1 : ats.drop k = ats[k] :: ats.drop (k + 1) := List.drop_eq_getElem_cons hka
      have hd2 : what.drop k = what[k] :: what.drop (k + 1) := List.drop_eq_getElem_cons hkw
      have hPg := h.whatOk what[k] (List.getElem_mem hkw)
      rw [hd1, hd2] at hcr
      simp only [crashS] at hcr
      have hwr : wr.rangeAt gp (k * 65) (wcell ats[k] what[k]) := own_write hRR.rowP h.whatOk hsame k ats[k] what[k] ha hpw rfl
      obtain ⟨i, haa⟩ : ∃ i, ats[k] = i := ⟨_, rfl⟩
      obtain ⟨pg, hpp⟩ : ∃ pg, what[k] = pg := ⟨_, rfl⟩
      rw [haa] at hai hcr hwr
      rw [hpp] at hPg hcr hwr
      obtain ⟨n, rfl⟩ : ∃ n : Nat, i = (n : Int) := ⟨i.toNat, by omega⟩
      rw [Int.toNat_natCast] at hcr
      have hnF : (n : Int) < (F : Int) := by omega
      have hwk : IntKind.i64.wrap ((k : Int) + 1) = ((k + 1 : Nat) : Int) := by rw [IntWalk.i64_in _ (by omega)]; omega
      obtain ⟨wc, hwc⟩ : ∃ wc, Hid (wcell n pg = wc) := ⟨_, rfl⟩
      have hwcl : wc.length = 65 := by rw [← hwc.out]; simp [wcell, hPg.1]
      rw [hwc.out] at hwr
      have HRg := Lib.hid hwr
      have hi73 : Hid ((Tryd.prog.info? 73).map (·.size) = some wc.length) := by rw [hwcl]; exact info65
      have hi74 : Hid ((Tryd.prog.info? 73).map (·.size) = some wc.toArray.size) := by rw [List.size_toArray, hwcl]; exact info65
      have hold : Hid (zeros65.size = wc.toArray.size) := by
        have e : wc.toArray.size = 65 := by rw [List.size_toArray]; exact hwcl
        rw [e]; exact (rfl : zeros65.size = 65)
      have hall1 : Hid (wc.toArray.all (·.oneCell') = true) := all_oneCell_toArray (by rw [← hwc.out]; exact wcell_one hPg)
      obtain ⟨wa, hwa⟩ : ∃ wa : World, Hid (wr.alloc (.cells wc.toArray 73) = wa) := ⟨_, rfl⟩
      have hba : Below wr.heap.size wr wa := by rw [← hwa.out]; exact (Below.refl _ wr).alloc (Nat.le_refl _) _
      have hbk2 : wa.heap[wr.heap.size]? = some (.cells wc.toArray 73 (0, 0)) := by rw [← hwa.out]; exact heap_alloc_new wr _
      have hga : wr.grownBy wa none := ⟨hba.os, hba.tape, hba.output, hba.size, fun q hq _ => hba.block q hq⟩
      have hRa := hR.kept hga (.inr (by simp [Value.ownBlock]))
      have hKa := hK.kept hga (.inr (by simp [Value.ownBlock]))
      have hBa : Below w.heap.size w wa := hB.trans (hba.mono hB.size)
      have hrl : wr.heap.size < wa.heap.size := (Array.getElem?_eq_some_iff.1 hbk2).1
      have hbr := (hR.lt b rfl).2
      have ckk : wa.cell? ⟨bk, k, none⟩ = some (.bool (decide ((k : Int) ∈ pick))) := by
        rw [hKa.cellAt k (by omega), keptL_get L _ k hlt]
      have HCR := Lib.hid hcr
      clear hcr hd1 hd2 hvp hpp haa ha hpw hwr hai hR hK hRR
      by_cases hkp : (k : Int) ∈ pick
      · have HC2 : Hid (crashS (k + 1) (fm.set n pg) (ats.drop (k + 1)) (what.drop (k + 1)) pick = crashS 0 firm ats what pick) := by
          have := HCR.out; rw [if_pos hkp] at this; exact this
        rw [decide_eq_true hkp] at ckk
        have ck : wa.cell? ⟨wr.heap.size, 0, none⟩ = some (.int .i64 n) := by rw [cell_of_row wa _ 0 _ _ _ hbk2, ← hwc.out]; rfl
        have hrange : wa.rangeAt wr.heap.size 1 pg := fun j v hj => by
          rw [cell_of_row wa _ (1 + j) _ _ _ hbk2, ← hwc.out, List.getElem?_toArray, Nat.add_comm]
          simpa [wcell] using hj
        have HRA := Lib.hid hrange
        have hi64 : Hid ((Tryd.prog.info? 42).map (·.size) = some pg.length) := by rw [hPg.1]; exact info64
        obtain ⟨cur, hcur, hcl⟩ : ∃ cur : List Value, wa.heap[b]? = some (.cells cur.toArray 42 (0, 0)) ∧ F * 64 ≤ cur.length := by
          rcases hRa.2 with ⟨hv, h0⟩ | ⟨g', cap', cur, hv, _, hg, hc, _, hs, _⟩
          · simp at hv
          · simp only [Value.slice.injEq, Option.some.injEq, Addr.mk.injEq, true_and, and_true] at hv
            obtain ⟨rfl, rfl⟩ := hv
            have hs2 : cur.toList.length = cb * 64 := by rw [Array.length_toList]; exact hs
            exact ⟨cur.toList, by simpa using hg, by omega⟩
        have hsz : pg.toArray.size = 64 := by rw [List.size_toArray]; exact hPg.1
        have hi65 : Hid ((Tryd.prog.info? 42).map (·.size) = some pg.toArray.size) := by rw [hsz]; exact info64
        have hfit : Hid (n * 64 + pg.toArray.size ≤ cur.length) := by
          show n * 64 + pg.toArray.size ≤ cur.length
          rw [hsz]
          omega
        have HPg := Lib.hid hPg
        have hall : Hid (∀ v ∈ pg.toArray.toList, v.oneCell' = true) := fun v hv => HPg.out.2 v (by simpa using hv)
        have Hcur := Lib.hid hcur
        clear hcur hsz hcl hrange hPg
        go_wp2_with (first
          | (refine wpList_load_mid rfl 73 _ rfl gp (k * 65) rfl wc _ HRg.out Tryd.underlying73 rfl hi73.out ?_)
          | (refine wpList_alloc_arr rfl 73 rfl _ alloc65 ?_)
          | (refine wpList_store_new rfl 73 _ _ rfl wr.heap.size rfl wc.toArray rfl rfl 73 _ hi74.out hold.out hall1.out ?_; rw [hwa.out])
          | (refine wpList_load_mid rfl 42 _ rfl wr.heap.size 1 rfl pg _ HRA.out Tryd.underlying42 rfl hi64.out ?_)
          | (refine wpList_store_into rfl 42 _ _ rfl b (n * 64) pg.toArray rfl rfl cur 42 Hcur.out hi65.out hfit.out hall.out ?_; intro w5 Hs5 Hg5))
        have hst : ∀ c : List Value, wa.heap[b]? = some (.cells c.toArray 42 (0, 0)) → w5.heap[b]? = some (.cells (splice c (n * 64) pg).toArray 42 (0, 0)) := fun c hc => by
          have e := hc.symm.trans Hcur.out
          simp only [Option.some.injEq, Obj.cells.injEq, and_true] at e
          have e2 : c = cur := by simpa using congrArg Array.toList e
          subst e2
          exact Hs5.out
        have hR5 := own_store hRa hfp (by omega) n (by omega) pg HPg.out hst
        have hK5 := hKa.kept Hg5.out (.inr (by simp [Value.ownBlock, hbkb]))
        have hB5 : Below w.heap.size w w5 := ⟨Hg5.out.os.trans hBa.os, Hg5.out.tape.trans hBa.tape, Hg5.out.output.trans hBa.output, Nat.le_trans hBa.size Hg5.out.size, fun q hq =>
          (Hg5.out.block q (by have := hBa.size; omega) (by simp; omega)).trans (hBa.block q hq)⟩
        have hfp5 : Pages (fm.set n pg) := fun x hx => by
          rcases List.mem_or_eq_of_mem_set hx with hx | rfl
          · exact hfp x hx
          · exact HPg.out
        go_roundg (L - (k + 1))
        case measure => omega
        case rel => exact ⟨k + 1, fm.set n pg, rfl, by omega, by first | rfl | simp, by rw [List.length_set]; exact hfm, hfp5, HC2.out, hR5, hK5, hB5⟩
      · have HC2 : Hid (crashS (k + 1) fm (ats.drop (k + 1)) (what.drop (k + 1)) pick = crashS 0 firm ats what pick) := by
          have := HCR.out; rw [if_neg hkp] at this; exact this
        rw [decide_eq_false hkp] at ckk
        go_wp2_with (first
          | (refine wpList_load_mid rfl 73 _ rfl gp (k * 65) rfl wc _ HRg.out Tryd.underlying73 rfl hi73.out ?_)
          | (refine wpList_alloc_arr rfl 73 rfl _ alloc65 ?_)
          | (refine wpList_store_new rfl 73 _ _ rfl wr.heap.size rfl wc.toArray rfl rfl 73 _ hi74.out hold.out hall1.out ?_; rw [hwa.out]))
        go_roundg (L - (k + 1))
        case measure => omega
        case rel => exact ⟨k + 1, fm, rfl, by omega, by first | rfl | simp, hfm, hfp, HC2.out, hRa, hKa, hBa⟩
    · obtain rfl : k = L := by omega
      have hge : ¬ ((k : Int) < (k : Int)) := by omega
      have e1 : ats.drop k = [] := by rw [← hL.out, List.drop_length]
      rw [e1] at hcr
      have hfe : fm = crashS 0 firm ats what pick := by simpa [crashS] using hcr
      have hhold := holding_any b cb fm wr (by omega) (by omega) hfp (by rw [hfm]; exact hR)
      rw [hfm] at hhold
      have HFE := Lib.hid hfe
      clear hfe hcr
      go_wp2_with (go_at_call 24; refine hhold.mono ?_; rintro e w9 ⟨g9, c9, vn9, rfl, hD9, hb9, hg9, hv9⟩)
      go_ret
      rw [HFE.out] at hD9
      have hBs := hB.size
      refine ⟨g9, _, vn9, rfl, hD9, hB.trans (hb9.mono hB.size), fun j hj => ?_⟩
      rcases hj with rfl | e | e | e
      · omega
      · simp [Value.ownBlock] at e; omega
      · have := hv9 j e; omega
      · simp [Value.ownBlock] at e
end
end Go.Proofs.YtbmpbcnoclhhgaaDoor
