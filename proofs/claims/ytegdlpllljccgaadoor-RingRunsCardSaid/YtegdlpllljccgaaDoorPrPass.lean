/-
  The program's ring: pass.
-/
import Derived.Test.YtegdlpllljccgaaDoorPrFits
set_option linter.unusedSimpArgs false
set_option linter.unusedVariables false
namespace Go.Proofs.YtegdlpllljccgaaDoor
open Go.RowKit Sh

theorem built_pmark (m : Mk) (h : m.last.length = 32) : Tryd.prog.built 25 [(0, .int .i64 m.place), (1, .int .u64 m.num), (2, .agg (m.last.map cu8).toArray)] = some (markCells m).toArray := by
  have hu : (Tryd.prog.underlying 25).bind (fun d => match d with | .struct fs => fs.toList.mapM (fun f => (Tryd.prog.info? f.type).map fun i => (f.offset, i.size)) | _ => none) = some [(0, 1), (1, 1), (2, 32)] := by kernel_rfl
  have hin : (Tryd.prog.info? 25).map (fun i => (i.zero, i.size)) = some (some (.agg (markCells ⟨0, 0, List.replicate 32 0⟩).toArray), 34) := by kernel_rfl
  obtain ⟨ti, hti, hz⟩ := Option.map_eq_some_iff.1 hin
  simp only [Prod.mk.injEq] at hz
  unfold Program.built
  rw [hti, Tryd.underlying25]
  rw [Tryd.underlying25] at hu
  simp only [Option.bind_some] at hu
  simp only [hz.1, hu]
  exact fill_three _ (by simp [Value.cells, markCells]) (.int .i64 m.place) (.int .u64 m.num) rfl rfl _ (by simp [h]) _ rfl rfl rfl
section
variable {g gd first n used : Nat} {m : Mk} {w w' : World}
set_option maxRecDepth 100000 in
set_option maxHeartbeats 4000000 in
/-- pass: the head goes behind a record. -/
theorem pass_any (h : PrAt g gd first n m used w) (hO : RingOk first n m used) {b : Nat} {p : List UInt8} {ps : List (List UInt8)} (hr : RecAt b (p :: ps) w) (hbg : b ≠ g) (L cap : Nat) (hL : 0 < L) (hL65 : L ≤ 4096) (k : Nat) (hk : takes k = L) :
    Calls Tryd.prog 58 #[.pointer (some ⟨g, 0, none⟩), .slice (some ⟨b, 0, none⟩) L cap] w (TurnP g gd first n (behind n m k ((p.drop 10).take 32)) (used + L) w) := by
  obtain ⟨n0, n1, f1, pl1, nm1, u1⟩ := hO
  have hmod := Nat.mod_lt (m.place + L) (show 0 < n by omega)
  obtain ⟨Pl, hP⟩ : ∃ Pl : Nat, (m.place + L) % n = Pl := ⟨_, rfl⟩
  obtain ⟨N, hN⟩ : ∃ N : Nat, (m.num + 1) % 18446744073709551616 = N := ⟨_, rfl⟩
  obtain ⟨d, Hd⟩ : ∃ d, Hid (d = (p.drop 10).take 32) := ⟨_, rfl⟩
  have hd : d.length = 32 := by rw [Hd.out]; have := hr.len p (by simp); simp; omega
  have hm2 : behind n m k ((p.drop 10).take 32) = ⟨Pl, N, d⟩ := by unfold behind; rw [hk, hP, hN, Hd.out]
  rw [hm2]
  have hn2 : ¬ n = 0 := by omega
  obtain ⟨U, hU⟩ : ∃ U : Nat, used + L = U := ⟨_, rfl⟩
  have w1 : IntKind.i64.wrap ((used : Int) + (L : Int)) = (U : Int) := by rw [IntWalk.i64_in _ (by omega)]; omega
  have w2 : IntKind.i64.wrap ((m.place : Int) + (L : Int)) = ((m.place + L : Nat) : Int) := by rw [IntWalk.i64_in _ (by omega)]; omega
  have wN : IntKind.u64.wrap ((m.num : Int) + 1) = (N : Int) := by rw [IntKind.wrap_u64, ← hN]; omega
  have w4 : ((m.place : Int) + (L : Int)) % (n : Int) = (Pl : Int) := by
    rw [← hP]
    show _ = ((m.place + L : Nat) : Int) % ((n : Nat) : Int)
    rw [Int.natCast_add]
  have w5 : ((m.place : Int) + (L : Int)).tmod (n : Int) = (Pl : Int) := by rw [Int.tmod_eq_emod_of_nonneg (by omega), w4]
  have hwr := written_any hr L cap hL
  rw [← Hd.out] at hwr
  have hW := Lib.hid (fun (W : World) (hW : RecAt b (p :: ps) W) => by have := written_any hW L cap hL; rw [← Hd.out] at this; exact this)
  obtain ⟨dv, hdv⟩ : ∃ dv : List Value, d.map cu8 = dv := ⟨_, rfl⟩
  have HB := Lib.hid (built_pmark ⟨Pl, N, d⟩ hd)
  rw [hdv] at HB
  have hmk : (markCells ⟨Pl, N, d⟩).length = 34 := by simp [markCells, hd]
  have hsp := Lib.hid (splice_ring gd first n m ⟨Pl, N, d⟩ used h.last hd)
  have hlen : (ringCells gd first n m used).toList.length = 38 := by simp [ringCells, h.last]
  have HI : Hid ((Tryd.prog.info? 25).map (·.size) = some (markCells ⟨Pl, N, d⟩).toArray.size) := by rw [List.size_toArray, hmk]; exact infoPMark
  have Hone : Hid (∀ v ∈ (markCells ⟨Pl, N, d⟩).toArray.toList, v.oneCell' = true) := fun v hv => mark_one ⟨Pl, N, d⟩ v (by simpa using hv)
  have Hfit : Hid (3 + (markCells ⟨Pl, N, d⟩).toArray.size ≤ (ringCells gd first n m used).toList.length) := by
    show 3 + (markCells ⟨Pl, N, d⟩).toArray.size ≤ (ringCells gd first n m used).toList.length
    rw [hlen, List.size_toArray, hmk]; omega
  have hgl := h.lt
  clear hwr hmk hlen
  go_enter Tryd.func58, Tryd.ntmps58
  go_wp2
  refine wp_region_up 25 (PrAt g gd first n m used) (by kernel_rfl) ?_
  have hb2 : Below w.heap.size w { w with drawn := w.drawn + 1 } := ⟨rfl, rfl, rfl, Nat.le_refl _, fun _ _ => rfl⟩
  obtain ⟨wd, hdr⟩ : ∃ wd : World, ({ w with drawn := w.drawn + 1 } : World) = wd := ⟨_, rfl⟩
  rw [hdr] at hb2 ⊢
  clear hdr
  have hS0 := h.below hb2
  have hr2 := hr.below hb2
  refine up_take (i := 0) (v := .pointer (some ⟨g, 0, none⟩)) rfl (by kernel_rfl) (by kernel_rfl) (fun _ _ _ h => h) (Or.inl ⟨by rfl, ?_⟩) hS0 ?_
  · intro w' _; go_simp
  try simp only [List.getElem_toArray, List.getElem_cons_succ, List.getElem_cons_zero, Act.put, List.setIfInBounds_toArray, List.set]
  refine up_take (i := 1) (v := .pointer (some ⟨g, 0, none⟩)) rfl (by kernel_rfl) (by kernel_rfl) (fun _ _ _ h => h) (Or.inl ⟨by rfl, ?_⟩) hS0 ?_
  · intro w' _; go_simp
  try simp only [List.getElem_toArray, List.getElem_cons_succ, List.getElem_cons_zero, Act.put, List.setIfInBounds_toArray, List.set]
  refine up_take (i := 2) (v := .pointer (some ⟨g, 0, none⟩)) rfl (by kernel_rfl) (by kernel_rfl) (fun _ _ _ h => h) (Or.inl ⟨by rfl, ?_⟩) hS0 ?_
  · intro w' _; go_simp
  try simp only [List.getElem_toArray, List.getElem_cons_succ, List.getElem_cons_zero, Act.put, List.setIfInBounds_toArray, List.set]
  refine up_take (i := 3) (v := .pointer (some ⟨g, 3, none⟩)) rfl (by kernel_rfl) (by kernel_rfl) (fun _ _ _ h => h) (Or.inl ⟨by rfl, ?_⟩) hS0 ?_
  · intro w' _; go_simp
  try simp only [List.getElem_toArray, List.getElem_cons_succ, List.getElem_cons_zero, Act.put, List.setIfInBounds_toArray, List.set]
  refine up_take (i := 4) (v := .pointer (some ⟨g, 3, none⟩)) rfl (by kernel_rfl) (by kernel_rfl) (fun _ _ _ h => h) (Or.inl ⟨by rfl, ?_⟩) hS0 ?_
  · intro w' _; go_simp
  try simp only [List.getElem_toArray, List.getElem_cons_succ, List.getElem_cons_zero, Act.put, List.setIfInBounds_toArray, List.set]
  refine up_take (i := 5) (v := (.int .i64 m.place)) rfl (by kernel_rfl) (by kernel_rfl) (fun _ _ _ h => h) (Or.inl ⟨by rfl, ?_⟩) hS0 ?_
  · intro w' hS'
    obtain ⟨c0, c1, c2, c3, c4, c37⟩ := PrAt.cells hS'
    clear hS'
    go_simp
  try simp only [List.getElem_toArray, List.getElem_cons_succ, List.getElem_cons_zero, Act.put, List.setIfInBounds_toArray, List.set]
  refine up_take (i := 6) (v := .slice (some ⟨b, 0, none⟩) L cap) rfl (by kernel_rfl) (by kernel_rfl) (fun _ _ _ h => h) (Or.inl ⟨by rfl, ?_⟩) hS0 ?_
  · intro w' _; go_simp
  try simp only [List.getElem_toArray, List.getElem_cons_succ, List.getElem_cons_zero, Act.put, List.setIfInBounds_toArray, List.set]
  refine up_take (i := 7) (v := (.int .i64 L)) rfl (by kernel_rfl) (by kernel_rfl) (fun _ _ _ h => h) (Or.inl ⟨by rfl, ?_⟩) hS0 ?_
  · intro w' _; go_simp
  try simp only [List.getElem_toArray, List.getElem_cons_succ, List.getElem_cons_zero, Act.put, List.setIfInBounds_toArray, List.set]
  refine up_take (i := 8) (v := (.int .i64 (m.place + L : Nat))) rfl (by kernel_rfl) (by kernel_rfl) (fun _ _ _ h => h) (Or.inl ⟨by rfl, ?_⟩) hS0 ?_
  · intro w' _; go_simp
  try simp only [List.getElem_toArray, List.getElem_cons_succ, List.getElem_cons_zero, Act.put, List.setIfInBounds_toArray, List.set]
  refine up_take (i := 9) (v := .pointer (some ⟨g, 0, none⟩)) rfl (by kernel_rfl) (by kernel_rfl) (fun _ _ _ h => h) (Or.inl ⟨by rfl, ?_⟩) hS0 ?_
  · intro w' _; go_simp
  try simp only [List.getElem_toArray, List.getElem_cons_succ, List.getElem_cons_zero, Act.put, List.setIfInBounds_toArray, List.set]
  refine up_take (i := 10) (v := .pointer (some ⟨g, 0, none⟩)) rfl (by kernel_rfl) (by kernel_rfl) (fun _ _ _ h => h) (Or.inl ⟨by rfl, ?_⟩) hS0 ?_
  · intro w' _; go_simp
  try simp only [List.getElem_toArray, List.getElem_cons_succ, List.getElem_cons_zero, Act.put, List.setIfInBounds_toArray, List.set]
  refine up_take (i := 11) (v := .pointer (some ⟨g, 2, none⟩)) rfl (by kernel_rfl) (by kernel_rfl) (fun _ _ _ h => h) (Or.inl ⟨by rfl, ?_⟩) hS0 ?_
  · intro w' _; go_simp
  try simp only [List.getElem_toArray, List.getElem_cons_succ, List.getElem_cons_zero, Act.put, List.setIfInBounds_toArray, List.set]
  refine up_take (i := 12) (v := (.int .i64 n)) rfl (by kernel_rfl) (by kernel_rfl) (fun _ _ _ h => h) (Or.inl ⟨by rfl, ?_⟩) hS0 ?_
  · intro w' hS'
    obtain ⟨c0, c1, c2, c3, c4, c37⟩ := PrAt.cells hS'
    clear hS'
    go_simp
  try simp only [List.getElem_toArray, List.getElem_cons_succ, List.getElem_cons_zero, Act.put, List.setIfInBounds_toArray, List.set]
  refine up_take (i := 13) (v := (.int .i64 Pl)) rfl (by kernel_rfl) (by kernel_rfl) (fun _ _ _ h => h) (Or.inl ⟨by rfl, ?_⟩) hS0 ?_
  · intro w' _; go_simp
  try simp only [List.getElem_toArray, List.getElem_cons_succ, List.getElem_cons_zero, Act.put, List.setIfInBounds_toArray, List.set]
  refine up_take (i := 14) (v := .pointer (some ⟨g, 0, none⟩)) rfl (by kernel_rfl) (by kernel_rfl) (fun _ _ _ h => h) (Or.inl ⟨by rfl, ?_⟩) hS0 ?_
  · intro w' _; go_simp
  try simp only [List.getElem_toArray, List.getElem_cons_succ, List.getElem_cons_zero, Act.put, List.setIfInBounds_toArray, List.set]
  refine up_take (i := 15) (v := .pointer (some ⟨g, 0, none⟩)) rfl (by kernel_rfl) (by kernel_rfl) (fun _ _ _ h => h) (Or.inl ⟨by rfl, ?_⟩) hS0 ?_
  · intro w' _; go_simp
  try simp only [List.getElem_toArray, List.getElem_cons_succ, List.getElem_cons_zero, Act.put, List.setIfInBounds_toArray, List.set]
  refine up_take (i := 16) (v := .pointer (some ⟨g, 3, none⟩)) rfl (by kernel_rfl) (by kernel_rfl) (fun _ _ _ h => h) (Or.inl ⟨by rfl, ?_⟩) hS0 ?_
  · intro w' _; go_simp
  try simp only [List.getElem_toArray, List.getElem_cons_succ, List.getElem_cons_zero, Act.put, List.setIfInBounds_toArray, List.set]
  refine up_take (i := 17) (v := .pointer (some ⟨g, 4, none⟩)) rfl (by kernel_rfl) (by kernel_rfl) (fun _ _ _ h => h) (Or.inl ⟨by rfl, ?_⟩) hS0 ?_
  · intro w' _; go_simp
  try simp only [List.getElem_toArray, List.getElem_cons_succ, List.getElem_cons_zero, Act.put, List.setIfInBounds_toArray, List.set]
  refine up_take (i := 18) (v := (.int .u64 m.num)) rfl (by kernel_rfl) (by kernel_rfl) (fun _ _ _ h => h) (Or.inl ⟨by rfl, ?_⟩) hS0 ?_
  · intro w' hS'
    obtain ⟨c0, c1, c2, c3, c4, c37⟩ := PrAt.cells hS'
    clear hS'
    go_simp
  try simp only [List.getElem_toArray, List.getElem_cons_succ, List.getElem_cons_zero, Act.put, List.setIfInBounds_toArray, List.set]
  refine up_take (i := 19) (v := (.int .u64 N)) rfl (by kernel_rfl) (by kernel_rfl) (fun _ _ _ h => h) (Or.inl ⟨by rfl, ?_⟩) hS0 ?_
  · intro w' _; go_simp
  try simp only [List.getElem_toArray, List.getElem_cons_succ, List.getElem_cons_zero, Act.put, List.setIfInBounds_toArray, List.set]
  refine up_take (i := 20) (v := .slice (some ⟨b, 0, none⟩) L cap) rfl (by kernel_rfl) (by kernel_rfl) (fun _ _ _ h => h) (Or.inl ⟨by rfl, ?_⟩) hS0 ?_
  · intro w' _; go_simp
  try simp only [List.getElem_toArray, List.getElem_cons_succ, List.getElem_cons_zero, Act.put, List.setIfInBounds_toArray, List.set]
  refine up_one 21 _ rfl (by kernel_rfl) (by decide) (by rfl) (fun K hK => ?_)
  go_simp
  refine (hW.out wd hr2).mono ?_
  rintro e w3 ⟨rv, Hrv, rfl, hb3'⟩
  have hb3 := hb2.trans (hb3'.mono hb2.size)
  have hrv : rv = dv.toArray := by rw [Hrv.out, hdv]
  subst hrv
  clear Hrv
  refine hK _ _ (h.below hb3) ?_
  clear hK K
  try simp only [List.getElem_toArray, List.getElem_cons_succ, List.getElem_cons_zero, Act.put, List.setIfInBounds_toArray, List.set]
  have hS3 := h.below hb3
  refine up_take (i := 22) (v := (.agg (markCells ⟨Pl, N, d⟩).toArray)) rfl (by kernel_rfl) (by kernel_rfl) (fun _ _ _ h => h) (Or.inl ⟨by rfl, ?_⟩) hS3 ?_
  · intro w' _; exact exec_build w' rfl (Eq.trans (congrArg (Program.built _ _) (by simp [Act.eval, Act.put])) HB.out)
  try simp only [List.getElem_toArray, List.getElem_cons_succ, List.getElem_cons_zero, Act.put, List.setIfInBounds_toArray, List.set]
  refine up_take (i := 23) (v := .pointer (some ⟨g, 0, none⟩)) rfl (by kernel_rfl) (by kernel_rfl) (fun _ _ _ h => h) (Or.inl ⟨by rfl, ?_⟩) hS3 ?_
  · intro w' _; go_simp
  try simp only [List.getElem_toArray, List.getElem_cons_succ, List.getElem_cons_zero, Act.put, List.setIfInBounds_toArray, List.set]
  refine up_take (i := 24) (v := .pointer (some ⟨g, 3, none⟩)) rfl (by kernel_rfl) (by kernel_rfl) (fun _ _ _ h => h) (Or.inl ⟨by rfl, ?_⟩) hS3 ?_
  · intro w' _; go_simp
  try simp only [List.getElem_toArray, List.getElem_cons_succ, List.getElem_cons_zero, Act.put, List.setIfInBounds_toArray, List.set]
  refine up_tail ?_
  refine up_last 25 _ rfl (by kernel_rfl) (by decide) (by rfl) (fun K hK => ?_)
  refine wp_store_into 25 _ _ rfl g 3 (markCells ⟨Pl, N, d⟩).toArray rfl rfl (ringCells gd first n m used).toList 98 hS3.at_ HI.out Hfit.out Hone.out ?_
  intro w5 Hs5 Hg5
  refine hK _ _ ?_
  clear hK K
  try simp only [List.getElem_toArray, List.getElem_cons_succ, List.getElem_cons_zero, Act.put, List.setIfInBounds_toArray, List.set]
  refine up_done (by kernel_rfl) ?_ _
  have hS5 : PrAt g gd first n ⟨Pl, N, d⟩ used w5 := ⟨by rw [← hsp.out]; exact Hs5, hd⟩
  have ho5 : Only (fun j => j = g) w w5 := (Only.of_below hb3).trans (Only.of_grown (F := fun j => j = g) Hg5 (fun j e => by simpa using e.symm)) (fun j hj => .inl hj)
  clear Hs5 Hg5 hsp HB HI Hone Hfit
  have c37 := hS5.cell37
  have f37 := hS5.thawed 37
  go_wp2
  have hS6 := hS5.setUsed U
  have ho6 := ho5.trans (Only.of_grown (F := fun j => j = g) (grown_setCell w5 ⟨g, 37, none⟩ (.int .i64 ((U : Nat) : Int))) (fun j e => by simpa using e.symm)) (fun j hj => .inl hj)
  first | go_end0 | refine bodyPost_ret (v := .tuple #[]) (results_none rfl _ _ _) rfl ?_
  rw [hU]
  exact ⟨rfl, hS6, ho6⟩
end
end Go.Proofs.YtegdlpllljccgaaDoor
