/-
  The reference's disk: Crash.
-/
import Derived.Test.YtbmpbcnoclhhgaaDoorDiskFlush2
namespace Go.Proofs.YtbmpbcnoclhhgaaDoor
open Go.RowKit Sh

/-- What is left behind a crash: the firm pages, and of the pending ones the picked. -/
def crashS : Nat → List (List Value) → List Int → List (List Value) → List Int → List (List Value)
  | k, firm, a :: xs, p :: ys, pick => crashS (k + 1) (if (k : Int) ∈ pick then firm.set a.toNat p else firm) xs ys pick
  | _, firm, _, _, _ => firm

/-- A slice's numbers, wherever it lies below block N. -/
def Nums (N : Nat) (w : World) (bp : Option Addr) (xs : List Int) : Prop := xs = [] ∨ ∃ b o, bp = some ⟨b, o, none⟩ ∧ b < N ∧ ∀ (j : Nat) (v : Int), xs[j]? = some v → w.cell? ⟨b, o + j, none⟩ = some (.int .i64 v)
theorem Nums.below {N : Nat} {w w' : World} {bp : Option Addr} {xs : List Int} (h : Nums N w bp xs) (hb : Below N w w') : Nums N w' bp xs :=
  h.imp id (fun ⟨b, o, h1, h2, h3⟩ => ⟨b, o, h1, h2, fun j v hj => (hb.cell (p := ⟨b, o + j, none⟩) h2).trans (h3 j v hj)⟩)
theorem Nums.mono {N N' : Nat} {w : World} {bp : Option Addr} {xs : List Int} (h : Nums N w bp xs) (hN : N ≤ N') : Nums N' w bp xs :=
  h.imp id (fun ⟨b, o, h1, h2, h3⟩ => ⟨b, o, h1, by omega, h3⟩)

def CrashPost (firm : List (List Value)) (w : World) (e : Ending) (w' : World) : Prop := ∃ g vf, e = .returned (.pointer (some ⟨g, 0, none⟩)) ∧
  RefAt g vf (.slice none 0 0) (.slice none 0 0) firm [] [] (-1) false w' ∧ Below w.heap.size w w' ∧ w.heap.size ≤ g ∧ ∀ k, vf.ownBlock = some k → w.heap.size ≤ k

section
variable {g : Nat} {vf va vw : Value} {firm what : List (List Value)} {ats pick : List Int} {fuel : Int} {off : Bool} {w : World}

set_option maxRecDepth 100000 in
set_option maxHeartbeats 4000000 in
theorem rcrash_any (h : RefAt g vf va vw firm ats what fuel off w) (hsame : what.length = ats.length) (hn : ats.length ≤ 1048576) (hF : 0 < firm.length ∧ firm.length ≤ 4096) (hin : ∀ a ∈ ats, 0 ≤ a ∧ a < (firm.length : Int))
    (ap : Option Addr) (cp : Nat) (hp : Nums w.heap.size w ap pick) (hpn : pick.length ≤ 9223372036854775807) :
    Calls Tryd.prog 28 #[.pointer (some ⟨g, 0, none⟩), .slice ap pick.length cp] w (CrashPost (crashS 0 firm ats what pick) w) := by
  have c0 : w.cell? ⟨g, 0, none⟩ = some vf := h.cell 0
  obtain ⟨hF0, hF1⟩ := hF
  obtain ⟨gf, cf, rfl, _, _⟩ := h.rowF.form hF0
  obtain ⟨F, hFl⟩ : ∃ F, firm.length = F := ⟨_, rfl⟩
  have hrow := h.rowF
  rw [hFl] at c0 hF0 hF1 hrow
  have hfl := hrow.1
  have HN := Lib.hid (fun (j : Nat) (u : Value) (hj : firm.flatten[j]? = some u) => show w.cell? ((⟨gf, 0, none⟩ : Addr).add j) = some u from by
    have hjl : j < F * 64 := by rw [← hfl]; exact (List.getElem?_eq_some_iff.1 hj).1
    rw [show (⟨gf, 0, none⟩ : Addr).add j = ⟨gf, j, none⟩ by unfold Addr.add; split <;> simp_all, hrow.cellAt j hjl, hj])
  have H1 := Lib.hid (fun (u : Value) (hu : u ∈ firm.flatten) => show u.oneCell' = true from by
    obtain ⟨p, hp1, hp2⟩ := List.mem_flatten.1 hu
    exact (h.firmOk p hp1).2 u hp2)
  have HL := Lib.hid hfl
  obtain ⟨i0, hi0, hzz⟩ := Option.map_eq_some_iff.1 infoPage
  simp only [Prod.mk.injEq] at hzz
  have HI := Lib.hid hzz
  clear hzz hrow hfl
  obtain ⟨hq0, hq1, hq2⟩ := HI.out
  go_enter Tryd.func28, Tryd.ntmps28
  go_wp2_with (at_builtin; refine wpList_append_lies _ rfl _ _ _ rfl 0 42 i0 _ 64 64 Tryd.underlying38 hi0 hq0 hq1 hq2 rfl (by omega) (.slice none 0 0) 0 [] rfl (World.ownsRow_nil _ _ _ _) ⟨gf, 0, none⟩ F cf firm.flatten rfl HL.out HN.out H1.out hF0 (by unfold maxLen; omega) (by omega) (by omega) w.heap.size rfl ?_)
  intro gg cap w3 hown3 hgr3 hat3 hlt3
  have hgg : gg = w.heap.size := by
    rcases hat3 with e | e
    · simp [Value.ownBlock] at e
    · exact e
  have hb3 : Below w.heap.size w w3 := ⟨hgr3.os, hgr3.tape, hgr3.output, hgr3.size, fun k hk => hgr3.block k hk (by simp [Value.ownBlock])⟩
  have hggl : w.heap.size ≤ gg := by omega
  clear HN H1 HL HI hi0 hq0 hq1 hq2 hat3 c0 hgg
  obtain ⟨L, hL⟩ : ∃ L, Hid (ats.length = L) := ⟨_, rfl⟩
  have hLn : L ≤ 1048576 := by rw [← hL.out]; exact hn
  obtain ⟨w4, hw4⟩ : ∃ w4, Hid (w4 = w3.alloc (.cells #[.slice (some ⟨gg, 0, none⟩) F cap, .slice none 0 0, .slice none 0 0, .int .i64 (-1), .bool false] 40)) := ⟨_, rfl⟩
  have hb4 : Below w.heap.size w w4 := by rw [hw4.out]; exact hb3.alloc hb3.size _
  have hR4 : RefAt w3.heap.size (.slice (some ⟨gg, 0, none⟩) firm.length cap) (.slice none 0 0) (.slice none 0 0) firm [] [] (-1) false w4 := by
    rw [hFl]
    refine ⟨?_, ?_, World.ownsRow_nil _ _ _ _, World.ownsRow_nil _ _ _ _, h.firmOk, fun p hp => by simp at hp, ?_⟩
    · rw [hw4.out]; exact heap_alloc_new w3 _
    · rw [hFl, hw4.out]; exact hown3.alloc _
    · simp [Value.ownBlock]; omega
  have hg4 : w.heap.size ≤ w3.heap.size := hb3.size
  obtain ⟨g4, hg4'⟩ : ∃ g4, Hid (w3.heap.size = g4) := ⟨_, rfl⟩
  rw [hg4'.out] at hR4 hg4
  obtain ⟨aa, ca, rfl⟩ : ∃ ao cap, va = .slice ao ats.length cap := by
    rcases h.rowA.2 with ⟨hv, h0⟩ | ⟨g, cap, cur, hv, _⟩
    · exact ⟨none, 0, by rw [hv, h0]⟩
    · exact ⟨_, _, hv⟩
  obtain ⟨U, hU⟩ : ∃ U, Hid (pick.length = U) := ⟨_, rfl⟩
  have hUn : U ≤ 9223372036854775807 := by rw [← hU.out]; exact hpn
  go_wp2
  rw [hg4'.out, ← hw4.out, hU.out]
  clear hown3 hgr3 hlt3 hb3
  go_loopg [6] L (fun m v wr => ∃ (k : Nat) (fm : List (List Value)), m = L - k ∧ k ≤ L ∧ v = .int .i64 k ∧ fm.length = firm.length ∧ crashS k fm (ats.drop k) (what.drop k) pick = crashS 0 firm ats what pick ∧
      RefAt g4 (.slice (some ⟨gg, 0, none⟩) firm.length cap) (.slice none 0 0) (.slice none 0 0) fm [] [] (-1) false wr ∧ Below w.heap.size w wr)
  case atStart => exact ⟨0, firm, rfl, by omega, rfl, rfl, rfl, hR4, hb4⟩
  case round =>
    obtain ⟨k, fm, rfl, hk, rfl, hfm, hcr, hR, hB⟩ := hrel
    have c1 : wr.cell? ⟨g, 1, none⟩ = some (.slice aa L ca) := by rw [← hL.out]; exact (h.below hB).cell 1
    by_cases hlt : k < L
    · have hlt' : (k : Int) < (L : Int) := by omega
      have hka : k < ats.length := by rw [hL.out]; exact hlt
      have hkw : k < what.length := by rw [hsame]; exact hka
      have ha := List.getElem?_eq_getElem hka
      have hpw := List.getElem?_eq_getElem hkw
      have hai := hin ats[k] (List.getElem_mem hka)
      obtain ⟨ga, ca', hva, _, _⟩ := h.rowA.form (by omega)
      obtain ⟨rfl, rfl⟩ : aa = some ⟨ga, 0, none⟩ ∧ ca = ca' := by
        simp only [Value.slice.injEq] at hva
        exact ⟨hva.1, hva.2.2⟩
      obtain ⟨gw, cw, hvw, _, _⟩ := h.rowW.form (by omega)
      have hd1 : ats.drop k = ats[k] :: ats.drop (k + 1) := List.drop_eq_getElem_cons hka
      have hd2 : what.drop k = what[k] :: what.drop (k + 1) := List.drop_eq_getElem_cons hkw
      have hPg := h.whatOk what[k] (List.getElem_mem hkw)
      rw [hd1, hd2] at hcr
      simp only [crashS] at hcr
      obtain ⟨i, haa⟩ : ∃ i, ats[k] = i := ⟨_, rfl⟩
      obtain ⟨pg, hpp⟩ : ∃ pg, what[k] = pg := ⟨_, rfl⟩
      rw [haa] at hai hcr ha
      rw [hpp] at hPg hcr hpw
      obtain ⟨n, rfl⟩ : ∃ n : Nat, i = (n : Int) := ⟨i.toNat, by omega⟩
      have hnF : n < firm.length := by omega
      have hnF2 : (n : Int) < (F : Int) := by omega
      obtain ⟨M, hM⟩ : ∃ M, Hid (what.length = M) := ⟨_, rfl⟩
      have hkM : (k : Int) < (M : Int) := by rw [← hM.out]; omega
      have HPg := Lib.hid hPg
      have HCR := Lib.hid hcr
      have HIN := Lib.hid hin
      have hwk : IntKind.i64.wrap ((k : Int) + 1) = ((k + 1 : Nat) : Int) := by rw [IntWalk.i64_in _ (by omega)]; omega
      clear hPg hcr hpp haa hva hd1 hd2 hai hin
      go_wp2
      go_loopg [7] U (fun m v w2 => ∃ (j : Nat) (f2 : List (List Value)), m = U - j ∧ j ≤ U ∧ v = .int .i64 j ∧ f2 = (if (k : Int) ∈ pick.take j then fm.set n pg else fm) ∧
          RefAt g4 (.slice (some ⟨gg, 0, none⟩) firm.length cap) (.slice none 0 0) (.slice none 0 0) f2 [] [] (-1) false w2 ∧ Below w.heap.size w w2)
      case atStart => exact ⟨0, fm, rfl, by omega, rfl, by simp, hR, hB⟩
      case round =>
        clear hR hB c1
        rename World => w2
        obtain ⟨j, f2, rfl, hj, rfl, hf2, hR, hB⟩ := hrel
        have h2 := h.below hB
        have hgrow : w.grownBy w2 none := ⟨hB.os, hB.tape, hB.output, hB.size, fun q hq _ => hB.block q hq⟩
        have hp2 := hp.below hB
        have hf2l : f2.length = firm.length := by rw [hf2]; split <;> simp [hfm]
        by_cases hjU : j < U
        · have hjU' : (j : Int) < (U : Int) := by omega
          have hjp : j < pick.length := by rw [hU.out]; exact hjU
          have hwj : IntKind.i64.wrap ((j : Int) + 1) = ((j + 1 : Nat) : Int) := by rw [IntWalk.i64_in _ (by omega)]; omega
          obtain ⟨gp, op, rfl, hgpl, hcp⟩ := hp2.resolve_left (by intro h0; rw [h0] at hjp; simp at hjp)
          have htk : pick.take (j + 1) = pick.take j ++ [pick[j]] := by rw [List.take_succ_eq_append_getElem hjp]
          have cq : w2.cell? ⟨gp, op + j, none⟩ = some (.int .i64 pick[j]) := hcp j pick[j] (List.getElem?_eq_getElem hjp)
          obtain ⟨q, hq⟩ : ∃ q, pick[j] = q := ⟨_, rfl⟩
          rw [hq] at cq htk
          by_cases hqk : q = (k : Int)
          · subst hqk
            have hnext : f2.set n pg = (if (k : Int) ∈ pick.take (j + 1) then fm.set n pg else fm) := by
              rw [htk, if_pos (by simp), hf2]
              split <;> simp
            have HNX := Lib.hid hnext
            rw [← hf2l] at hR
            obtain ⟨wd, hdr⟩ : ∃ wd : World, ({ w2 with drawn := w2.drawn + 1 } : World) = wd := ⟨_, rfl⟩
            have hRd : RefAt g4 (.slice (some ⟨gg, 0, none⟩) f2.length cap) (.slice none 0 0) (.slice none 0 0) f2 [] [] (-1) false { w2 with drawn := w2.drawn + 1 } := hR.drew
            have hBd : Below w.heap.size w { w2 with drawn := w2.drawn + 1 } := hB.trans ⟨rfl, rfl, rfl, Nat.le_refl _, fun _ _ => rfl⟩
            rw [hdr] at hRd hBd
            have hRo := h.below hBd
            have c0 : wd.cell? ⟨g4, 0, none⟩ = some (.slice (some ⟨gg, 0, none⟩) F cap) := by rw [← hFl, ← hf2l]; exact hRd.cell 0
            have c1 : wd.cell? ⟨g, 1, none⟩ = some (.slice (some ⟨ga, 0, none⟩) L ca) := by rw [← hL.out]; exact hRo.cell 1
            have c2 : wd.cell? ⟨g, 2, none⟩ = some (.slice (some ⟨gw, 0, none⟩) M cw) := by rw [← hM.out, ← hvw]; exact hRo.cell 2
            have ck : wd.cell? ⟨ga, k, none⟩ = some (.int .i64 n) := by
              rw [hRo.rowA.cellAt k (by omega), List.getElem?_map, ha]; rfl
            have hrange : wd.rangeAt gw (k * 64) pg := own_page (hvw ▸ hRo.rowW) hRo.whatOk k pg hpw rfl
            have HRg := Lib.hid hrange
            obtain ⟨cur, hcur, hcl⟩ : ∃ cur : List Value, wd.heap[gg]? = some (.cells cur.toArray 42 (0, 0)) ∧ f2.length * 64 ≤ cur.length := by
              rcases hRd.rowF.2 with ⟨hv, h0⟩ | ⟨g', cap', cur, hv, _, hg, hc, _, hs, _⟩
              · simp at hv
              · simp only [Value.slice.injEq, Option.some.injEq, Addr.mk.injEq, true_and, and_true] at hv
                obtain ⟨rfl, rfl⟩ := hv
                have hs2 : cur.toList.length = cap * 64 := by rw [Array.length_toList]; exact hs
                exact ⟨cur.toList, by simpa using hg, by omega⟩
            have hi64 : Hid ((Tryd.prog.info? 42).map (·.size) = some pg.length) := by rw [HPg.out.1]; exact info64
            have hsz : pg.toArray.size = 64 := by rw [List.size_toArray]; exact HPg.out.1
            have hi65 : Hid ((Tryd.prog.info? 42).map (·.size) = some pg.toArray.size) := by rw [hsz]; exact info64
            have hfit : Hid (n * 64 + pg.toArray.size ≤ cur.length) := by
              show n * 64 + pg.toArray.size ≤ cur.length
              rw [hsz]
              omega
            have hall : Hid (∀ v ∈ pg.toArray.toList, v.oneCell' = true) := fun v hv => HPg.out.2 v (by simpa using hv)
            have HL := Lib.hid (run_loadAt_mid wd gw (k * 64) 42 pg _ HRg.out Tryd.underlying42 rfl hi64.out)
            have Hcur := Lib.hid hcur
            clear hcur hsz hcl hrange hnext htk hf2 hR hB h2 hgrow hp2 hcp hp hpw ha hq
            go_wp2
            refine wp_region_still_tail 18 (by kernel_rfl) (by kernel_rfl) ?_
            rw [hdr]
            simp only [List.take_succ_cons, List.take_zero, List.drop_succ_cons, List.drop_zero]
            iterate 17 still_step
            refine wpStill_val rfl (v := .agg pg.toArray) ?_ ?_
            · unfold execOp
              rw [Sem.run_bind]
              exact (congrArg (fun r : Result Value => r.andThen fun v w' => (pure (Next.value v) : Sem Next).run Tryd.prog w') HL.out).trans rfl
            refine wpStill_nil ?_
            go_wp2_with (first
              | (refine wpList_store_into rfl 42 _ _ rfl gg (n * 64) pg.toArray rfl rfl cur 42 Hcur.out hi65.out hfit.out hall.out ?_; intro w5 Hs5 Hg5))
            have hst : ∀ c : List Value, wd.heap[gg]? = some (.cells c.toArray 42 (0, 0)) → w5.heap[gg]? = some (.cells (splice c (n * 64) pg).toArray 42 (0, 0)) := fun c hc => by
              have e := hc.symm.trans Hcur.out
              simp only [Option.some.injEq, Obj.cells.injEq, and_true] at e
              have e2 : c = cur := by simpa using congrArg Array.toList e
              subst e2
              exact Hs5.out
            have h5 := hRd.setFirm n (by omega) pg HPg.out hst Hg5.out
            rw [hf2l] at h5
            have hB5 : Below w.heap.size w w5 := ⟨Hg5.out.os.trans hBd.os, Hg5.out.tape.trans hBd.tape, Hg5.out.output.trans hBd.output, Nat.le_trans hBd.size Hg5.out.size, fun q hq =>
              (Hg5.out.block q (by have := hBd.size; omega) (fun e => by simp at e; omega)).trans (hBd.block q hq)⟩
            go_roundg (U - (j + 1))
            case measure => omega
            case rel => exact ⟨j + 1, f2.set n pg, rfl, by omega, by first | rfl | simp, HNX.out, h5, hB5⟩
          · have hnext : f2 = (if (k : Int) ∈ pick.take (j + 1) then fm.set n pg else fm) := by
              rw [htk, hf2]
              have e : ((k : Int) ∈ pick.take j ++ [q]) ↔ ((k : Int) ∈ pick.take j) := by
                simp only [List.mem_append, List.mem_singleton]
                exact ⟨fun e => e.elim id (fun e => absurd e.symm hqk), .inl⟩
              simp only [e]
            have HNX := Lib.hid hnext
            clear hnext htk hf2 hgrow hp2 hcp hp hpw ha hq
            go_wp2
            go_roundg (U - (j + 1))
            case measure => omega
            case rel => exact ⟨j + 1, f2, rfl, by omega, by first | rfl | simp, HNX.out, hR, hB⟩
        · obtain rfl : j = U := by omega
          have hge : ¬ ((j : Int) < (j : Int)) := by omega
          have e1 : pick.take j = pick := by rw [← hU.out, List.take_length]
          rw [e1] at hf2
          have hcr := HCR.out
          rw [Int.toNat_natCast, ← hf2] at hcr
          have HCR2 := Lib.hid hcr
          clear hcr hf2 hgrow hp2 hpw ha HCR
          go_wp2
          go_roundg (L - (k + 1))
          case measure => omega
          case rel => exact ⟨k + 1, f2, rfl, by omega, by first | rfl | simp, hf2l, HCR2.out, hR, hB⟩
    · obtain rfl : k = L := by omega
      have hge : ¬ ((k : Int) < (k : Int)) := by omega
      have e1 : ats.drop k = [] := by rw [← hL.out, List.drop_length]
      rw [e1] at hcr
      have hfe : fm = crashS 0 firm ats what pick := by simpa [crashS] using hcr
      have HFE := Lib.hid hfe
      clear hfe hcr
      go_wp2
      go_ret
      exact ⟨g4, _, rfl, by rw [← HFE.out]; exact hR, hB, hg4, fun j hj => by simp [Value.ownBlock] at hj; omega⟩
end
end Go.Proofs.YtbmpbcnoclhhgaaDoor
