/-
  Bytes come behind what was written: the walk of 'Write'.
-/
import Derived.Test.YtcnjffckjcoafaaShaEnd
import Derived.Test.YtcnjffckjcoafaaShaStir
import Derived.Test.YtcnjffckjcoafaaShaFill
import Derived.Deep.RegionLaw
import Derived.Deep.RegionHeld3
import Derived.Deep.AppendLies
namespace Go.Proofs.Ytcnjffckjcoafaa
open Go.RowKit Sh

/-- What a call of Write leaves. -/
def WritePost (g : Nat) (m : List UInt8) (w : World) (e : Ending) (w' : World) : Prop := e = .returned (.tuple #[]) ∧ HashAt w' g m ∧ w.grownBy w' (some g)

theorem grownBy_refl (w : World) (r : Option Nat) : w.grownBy w r := ⟨rfl, rfl, rfl, Nat.le_refl _, fun _ _ _ => rfl⟩
theorem grownBy_trans {a b c : World} {r : Option Nat} (h : a.grownBy b r) (k : b.grownBy c r) : a.grownBy c r :=
  ⟨k.os.trans h.os, k.tape.trans h.tape, k.output.trans h.output, Nat.le_trans h.size k.size, fun i hi hne => (k.block i (Nat.lt_of_lt_of_le hi h.size) hne).trans (h.block i hi hne)⟩

/-- The round's head: k of the bytes are in. -/
structure WrW (w : World) (g : Nat) (m bs : List UInt8) (k : Nat) (wr : World) : Prop where
  hash : HashAt wr g (m ++ bs.take k)
  grown : w.grownBy wr (some g)

theorem hash_wait {w : World} {g N : Nat} {s : S8} {wt : List UInt8} {t : TypeId} (h : w.heap[g]? = some (.cells (hCells s wt N).toArray t (0, 0))) (hl : wt.length = 64) : w.rangeAt g 8 (wt.map cu8) := fun j v hv => by
  have hj : j < 64 := by
    rcases Nat.lt_or_ge j 64 with h7 | h7
    · exact h7
    · rw [List.getElem?_eq_none (by simpa [hl] using h7)] at hv; cases hv
  rw [cell_of_row w g (8 + j) _ _ _ h, List.getElem?_toArray]
  unfold hCells
  have h8 : (s.list.map cu32).length = 8 := rfl
  rw [List.getElem?_append_right (by omega), h8]
  have e : 8 + j - 8 = j := by omega
  rw [e, List.getElem?_append_left (by rw [List.length_map]; omega)]
  exact hv
theorem hash_cell {w : World} {g N : Nat} {s : S8} {wt : List UInt8} {t : TypeId} (h : w.heap[g]? = some (.cells (hCells s wt N).toArray t (0, 0))) (j : Nat) (hj : j < 8) : w.cell? ⟨g, j, none⟩ = some (.int .u32 (uz (at32 s.list j))) := by
  rw [cell_of_row w g j _ _ _ h, List.getElem?_toArray]
  unfold hCells
  have h8 : (s.list.map cu32).length = 8 := rfl
  rw [List.getElem?_append_left (by omega)]
  obtain rfl | rfl | rfl | rfl | rfl | rfl | rfl | rfl : j = 0 ∨ j = 1 ∨ j = 2 ∨ j = 3 ∨ j = 4 ∨ j = 5 ∨ j = 6 ∨ j = 7 := by omega
  all_goals rfl
theorem hash_count {w : World} {g N M : Nat} {s : S8} {wt : List UInt8} {t : TypeId} (h : w.heap[g]? = some (.cells (hCells s wt N).toArray t (0, 0))) (hl : wt.length = 64) :
    (w.setCell ⟨g, 72, none⟩ (.int .u64 (M : Int))).heap[g]? = some (.cells (hCells s wt M).toArray t (0, 0)) := by
  rw [heap_setCell_same w g 72 _ _ _ h]
  congr 2
  apply Array.ext_getElem?
  intro i
  rw [Array.getElem?_setIfInBounds]
  have h8 : (s.list.map cu32).length = 8 := rfl
  have hN := hCells_length s wt N hl
  have hM := hCells_length s wt M hl
  by_cases e : 72 = i
  · subst e
    rw [if_pos rfl, if_pos (by simp [hN])]
    simp [hCells, S8.list, hl]
  · rw [if_neg e]
    simp only [List.getElem?_toArray]
    unfold hCells
    rw [← List.append_assoc, ← List.append_assoc]
    have h64 : (wt.map cu8).length = 64 := by rw [List.length_map, hl]
    have h72 : (s.list.map cu32 ++ wt.map cu8).length = 72 := by rw [List.length_append, h64, h8]
    by_cases hi : i < 72
    · have h1 : i < (s.list.map cu32 ++ wt.map cu8).length := by rw [h72]; exact hi
      rw [List.getElem?_append_left h1, List.getElem?_append_left h1]
    · rw [List.getElem?_eq_none (by rw [List.length_append, h72]; simp; omega), List.getElem?_eq_none (by rw [List.length_append, h72]; simp; omega)]
theorem hash_state (s s' : S8) (wt : List UInt8) (N : Nat) : splice (hCells s wt N) 0 (s32 s').toList = hCells s' wt N := by
  have h8 : (s.list.map cu32).length = 8 := rfl
  have h8' : (s32 s').toList.length = 8 := rfl
  unfold splice
  rw [h8', List.take_zero, List.nil_append]
  unfold hCells
  rw [List.drop_append_of_le_length (by omega), List.drop_of_length_le (by omega)]
  rfl
theorem hash_head {w : World} {g N : Nat} {s : S8} {wt : List UInt8} {t : TypeId} (h : w.heap[g]? = some (.cells (hCells s wt N).toArray t (0, 0))) : w.rangeAt g 0 (s.list.map cu32) := fun j v hv => by
  have hj : j < 8 := by
    rcases Nat.lt_or_ge j 8 with h7 | h7
    · exact h7
    · rw [List.getElem?_eq_none (by rw [List.length_map]; exact h7)] at hv; cases hv
  have h8 : (s.list.map cu32).length = 8 := rfl
  rw [Nat.zero_add, cell_of_row w g j _ _ _ h, List.getElem?_toArray, ← hv]
  unfold hCells
  rw [List.getElem?_append_left (by omega)]
theorem rangeAt_block {w w' : World} {g o : Nat} {cs : List Value} (h : w.rangeAt g o cs) (hb : w'.heap[g]? = w.heap[g]?) : w'.rangeAt g o cs := fun j v hv => by
  rw [← h j v hv]; exact World.cell?_of_block (a := ⟨g, o + j, none⟩) hb

/-- The next round's head, where the block isn't full .. -/
theorem WrW.part {w w3 : World} {g : Nat} {m bs piece wt : List UInt8} {k n N R : Nat} (hgr : w.grownBy w3 (some g)) (hp : piece = (bs.drop k).take n) (hpl : piece.length = n) (hN : N = (m ++ bs.take k).length) (hR : R = N % 64) (hl : wt.length = 64)
    (hw : wt.take (R + n) = ((m ++ bs.take k) ++ piece).drop (64 * (N / 64))) (hn : R + n < 64)
    (h : w3.heap[g]? = some (.cells (hCells (stateOf (m ++ bs.take k) (N / 64)) wt (N + n)).toArray 44 (0, 0))) : WrW w g m bs (k + n) w3 := by
  have hM : m ++ bs.take (k + n) = (m ++ bs.take k) ++ piece := by rw [hp, List.append_assoc, List.take_add]
  have hl2 : (m ++ bs.take (k + n)).length = N + n := by rw [hM, List.length_append, ← hN, hpl]
  have e1 : (N + n) % 64 = R + n := by omega
  have e2 : (N + n) / 64 = N / 64 := by omega
  refine ⟨⟨wt, hl, ?_, ?_⟩, hgr⟩
  · rw [hl2, e1, e2, hM]; exact hw
  · rw [hl2, e2, hM, part_state _ _ _ hN.symm]; exact h
/-- .. and where it is. -/
theorem WrW.full {w w3 : World} {g : Nat} {m bs piece wt : List UInt8} {k n N R : Nat} (hgr : w.grownBy w3 (some g)) (hp : piece = (bs.drop k).take n) (hpl : piece.length = n) (hN : N = (m ++ bs.take k).length) (hR : R = N % 64) (hl : wt.length = 64)
    (hw : wt.take (R + n) = ((m ++ bs.take k) ++ piece).drop (64 * (N / 64))) (hn : R + n = 64)
    (h : w3.heap[g]? = some (.cells (hCells (comp (stateOf (m ++ bs.take k) (N / 64)) wt) wt (N + n)).toArray 44 (0, 0))) : WrW w g m bs (k + n) w3 := by
  have hM : m ++ bs.take (k + n) = (m ++ bs.take k) ++ piece := by rw [hp, List.append_assoc, List.take_add]
  have hl2 : (m ++ bs.take (k + n)).length = N + n := by rw [hM, List.length_append, ← hN, hpl]
  have e1 : (N + n) % 64 = 0 := by omega
  rw [hn, List.take_of_length_le (by omega)] at hw
  refine ⟨⟨wt, hl, ?_, ?_⟩, hgr⟩
  · rw [hl2, e1, List.take_zero, List.drop_of_length_le (by omega)]
  · rw [hl2, hM, full_state _ _ wt N n hN.symm hl hw (by omega)]; exact h

set_option maxRecDepth 100000 in
set_option maxHeartbeats 1600000 in
theorem write_any (g : Nat) (m bs : List UInt8) (bp : Option Addr) (b o cap : Nat) (w : World) (hH : HashAt w g m) (hne : b ≠ g) (hcap : bs.length ≤ cap) (hmax : cap ≤ maxLen)
    (hbp : 0 < bs.length → bp = some ⟨b, o, none⟩) (hc : ∀ j, j < bs.length → w.cell? ⟨b, o + j, none⟩ = some (cu8 (at8 bs j))) (hlen : m.length + bs.length < 1152921504606846976) :
    Calls Try.prog 12 #[.pointer (some ⟨g, 0, none⟩), .slice bp bs.length cap] w (WritePost g (m ++ bs) w) := by
  obtain ⟨L, hL⟩ : ∃ L, L = bs.length := ⟨_, rfl⟩
  rw [← hL] at hcap hbp hc hlen ⊢
  have HL := Lib.hid hL; clear hL
  unfold maxLen at hmax
  go_enter Try.func12, Try.ntmps12
  go_wp2
  go_loopg [1] L (fun n v wr => ∃ (k : Nat) (bq : Option Addr), k ≤ L ∧ n = L - k ∧ v = .slice bq (L - k) (cap - k) ∧ (k < L → bq = some ⟨b, o + k, none⟩) ∧ WrW w g m bs k wr)
  case atStart => exact ⟨0, bp, Nat.zero_le _, rfl, rfl, hbp, by simpa using hH, grownBy_refl _ _⟩
  case round =>
    clear hH hbp
    obtain ⟨k, bq, hk, rfl, rfl, hbq, hS⟩ := hrel
    by_cases hlt : k < L
    · have hlt' : 0 < ((L - k : Nat) : Int) := by omega
      obtain rfl := hbq hlt
      obtain ⟨⟨wt, hwt, hwt2, hg⟩, hgr⟩ := hS
      have hN : (m ++ bs.take k).length = m.length + k := by rw [List.length_append, List.length_take, ← HL.out]; omega
      rw [hN] at hwt2 hg
      obtain ⟨N, hNN⟩ : ∃ N, N = m.length + k := ⟨_, rfl⟩
      rw [← hNN] at hwt2 hg
      obtain ⟨R, hR⟩ : ∃ R, R = N % 64 := ⟨_, rfl⟩
      have hR1 : R < 64 := by omega
      have hR2 : (N : Int) % 64 = (R : Int) := by omega
      have hR6 : (N : Int).tmod 64 = (R : Int) := by rw [Int.tmod_eq_emod_of_nonneg (by omega)]; exact hR2
      obtain ⟨n, hn⟩ : ∃ n, n = Nat.min (L - k) (64 - R) := ⟨_, rfl⟩
      have hn1 : 1 ≤ n ∧ n ≤ L - k ∧ n ≤ 64 - R := by rw [hn]; exact ⟨Nat.le_min.2 ⟨by omega, by omega⟩, Nat.min_le_left _ _, Nat.min_le_right _ _⟩
      have hNb : N + n < 1152921504606846976 := by omega
      have HN := Lib.hid hNN; clear hNN
      have HR := Lib.hid hR; clear hR
      have Hn := Lib.hid hn; clear hn
      have Hg := Lib.hid hg; clear hg
      have Hw := Lib.hid hwt2; clear hwt2
      have Hl := Lib.hid hwt; clear hwt
      have Hc := Lib.hid hc; clear hc
      clear hN
      have c72 : wr.cell? ⟨g, 72, none⟩ = some (.int .u64 (N : Int)) := by
        rw [cell_of_row wr g 72 _ _ _ Hg.out]
        simp [hCells, S8.list, Hl.out]
      have hR3 : ¬ (64 : Nat) = R := by omega
      have hR4 : (0 : Int) ≤ (R : Int) := by omega
      have hR5 : (R : Int) ≤ 64 := by omega
      obtain ⟨piece, hpc⟩ : ∃ piece, piece = (bs.drop k).take n := ⟨_, rfl⟩
      have hpl : piece.length = n := by rw [hpc, List.length_take, List.length_drop, ← HL.out]; omega
      have hsrc : ∀ j v, (piece.map cu8)[j]? = some v → wr.drew.cell? ((⟨b, o + k, none⟩ : Addr).add j) = some v := fun j v hv => by
        have hadd : (⟨b, o + k, none⟩ : Addr).add j = ⟨b, o + (k + j), none⟩ := by unfold Addr.add; split <;> simp_all; omega
        have hj : j < n := by
          rcases Nat.lt_or_ge j n with h7 | h7
          · exact h7
          · rw [List.getElem?_eq_none (by simpa [hpl] using h7)] at hv; cases hv
        have hcj := Hc.out (k + j) (by omega)
        have hbl := World.block_lt_of_cell? w _ hcj
        rw [hadd]
        show wr.cell? _ = _
        rw [hgr.cell_far _ hbl (by simpa using hne), hcj, ← hv, List.getElem?_map, hpc, List.getElem?_take, if_pos hj, List.getElem?_drop]
        have hkj : k + j < bs.length := by rw [← HL.out]; omega
        simp [at8, List.getD_eq_getElem?_getD, List.getElem?_eq_getElem hkj]
      have HP := Lib.hid hpc; clear hpc
      have Hpl := Lib.hid hpl
      have HS := Lib.hid hsrc; clear hsrc
      have Hgr := Lib.hid hgr; clear hgr
      obtain ⟨cs, hcs⟩ : ∃ cs, cs = piece.map cu8 := ⟨_, rfl⟩
      have hcl : cs.length = n := by rw [hcs, List.length_map, hpl]
      rw [← hcs] at HS
      have h1 : ∀ v ∈ cs, v.oneCell' = true := fun v hv => by rw [hcs] at hv; obtain ⟨x, _, rfl⟩ := List.mem_map.1 hv; rfl
      have H1 := Lib.hid h1; clear h1
      have Hcs := Lib.hid hcs; clear hcs
      have Hcl := Lib.hid hcl
      clear hpl
      have HF : Hid (8 + R + cs.length ≤ (hCells (stateOf (m ++ List.take k bs) (N / 64)) wt N).length) := by rw [hCells_length _ _ _ Hl.out]; show 8 + R + cs.length ≤ 73; omega
      go_wp2_with fail
      go_region_law (refine step_copy_into rfl (.tmp 18) (.tmp 19) 22 22 rfl 5 Try.underlying22 (by kernel_rfl) g (8 + R) (64 - R) (64 - R) ⟨b, o + k, none⟩ (L - k) (cap - k) rfl rfl (hCells (stateOf (m ++ List.take k bs) (N / 64)) wt N) 44 Hg.out cs (Hcl.out.trans Hn.out) HS.out HF.out H1.out ?_; intro w3 hg3 hgr3)
      obtain ⟨f1, f2⟩ := splice_fill (m ++ List.take k bs) wt piece N R n (by rw [List.length_append, List.length_take, ← HL.out, HN.out]; omega) HR.out Hl.out (by rw [HR.out]; exact Hw.out) Hpl.out (by omega)
      have hg4 : w3.heap[g]? = some (.cells (hCells (stateOf (m ++ List.take k bs) (N / 64)) (splice wt R piece) N).toArray 44 (0, 0)) := by
        rw [hg3.out, Hcs.out, splice_hCells _ _ _ _ _ Hl.out (by rw [Hpl.out]; omega)]
      clear hg3 c72 HF HS H1
      generalize splice wt R piece = wt' at f1 f2 hg4
      have c72 : w3.cell? ⟨g, 72, none⟩ = some (.int .u64 (N : Int)) := by
        rw [cell_of_row w3 g 72 _ _ _ hg4]
        simp [hCells, S8.list, f1]
      have f72 : w3.frozen? ⟨g, 72, none⟩ = false := frozen_of_row w3 g 72 _ _ hg4
      have Hg4 := Lib.hid hg4; clear hg4
      have F1 := Lib.hid f1; clear f1
      have F2 := Lib.hid f2; clear f2
      obtain ⟨bq2, hbq2, hsl⟩ := run_slice_from (P := Try.prog) 22 5 Try.underlying22 (by kernel_rfl) b (o + k) (L - k) (cap - k) n (by omega) (by omega)
      have Hbq2 := Lib.hid hbq2; clear hbq2
      by_cases hfull : R + n = 64
      · have hz : ((N : Int) + (n : Int)) % 64 = 0 := by have := HR.out; omega
        go_wp2_with fail
        have hcast : ((N : Int) + (n : Int)) = ((N + n : Nat) : Int) := by omega
        rw [hcast]
        have hg5 := hash_count (M := N + n) Hg4.out F1.out
        have hgr5 : w.grownBy (w3.setCell ⟨g, 72, none⟩ (.int .u64 ((N + n : Nat) : Int))) (some g) :=
          grownBy_trans (grownBy_trans Hgr.out (grownBy_trans (⟨rfl, rfl, rfl, Nat.le_refl _, fun _ _ _ => rfl⟩ : wr.grownBy wr.drew (some g)) hgr3.out)) ⟨rfl, rfl, rfl, by simp [World.setCell], fun j _ hj => heap_setCell_other _ _ _ _ (fun e => hj (by rw [e]))⟩
        generalize w3.setCell ⟨g, 72, none⟩ (.int .u64 ((N + n : Nat) : Int)) = w4 at hg5 hgr5 ⊢
        clear hz hcast hsl hgr3 c72 f72 Hg4 Hgr Hcs Hcl hR2 hR3 hR4 hR5 hR6
        have Hgr5 := Lib.hid hgr5; clear hgr5
        generalize hST : stateOf (m ++ List.take k bs) (N / 64) = T at hg5
        have HST := Lib.hid hST; clear hST
        obtain ⟨a0, a1, a2, a3, a4, a5, a6, a7⟩ := T
        have d0 : w4.cell? ⟨g, 0, none⟩ = some (.int .u32 (uz a0)) := hash_cell hg5 0 (by omega)
        have d1 : w4.cell? ⟨g, 1, none⟩ = some (.int .u32 (uz a1)) := hash_cell hg5 1 (by omega)
        have d2 : w4.cell? ⟨g, 2, none⟩ = some (.int .u32 (uz a2)) := hash_cell hg5 2 (by omega)
        have d3 : w4.cell? ⟨g, 3, none⟩ = some (.int .u32 (uz a3)) := hash_cell hg5 3 (by omega)
        have d4 : w4.cell? ⟨g, 4, none⟩ = some (.int .u32 (uz a4)) := hash_cell hg5 4 (by omega)
        have d5 : w4.cell? ⟨g, 5, none⟩ = some (.int .u32 (uz a5)) := hash_cell hg5 5 (by omega)
        have d6 : w4.cell? ⟨g, 6, none⟩ = some (.int .u32 (uz a6)) := hash_cell hg5 6 (by omega)
        have d7 : w4.cell? ⟨g, 7, none⟩ = some (.int .u32 (uz a7)) := hash_cell hg5 7 (by omega)
        have hra : w4.rangeAt g 8 (wt'.map cu8) := hash_wait hg5 F1.out
        have hgl : g < w4.heap.size := (Array.getElem?_eq_some_iff.1 hg5).1
        have Hg5 := Lib.hid hg5; clear hg5
        have hsz : (Try.prog.info? 42).map (·.size) = some (wt'.map cu8).length := by rw [List.length_map, F1.out]; kernel_rfl
        have hu42 := Try.underlying42
        have hr1 : (Instr.loadAt 40 (.pointer (some ⟨g, 0, none⟩))).run Try.prog w4.drew = .ok (.agg (s32 ⟨a0, a1, a2, a3, a4, a5, a6, a7⟩)) w4.drew :=
          run_loadAt_mid w4.drew g 0 40 ((⟨a0, a1, a2, a3, a4, a5, a6, a7⟩ : S8).list.map cu32) _ (hash_head Hg5.out) Try.underlying40 rfl (by kernel_rfl)
        have hr2 : (Instr.loadAt 42 (.pointer (some ⟨g, 8, none⟩))).run Try.prog w4.drew = .ok (.agg (wt'.map cu8).toArray) w4.drew :=
          run_loadAt_mid w4.drew g 8 42 (wt'.map cu8) _ hra Try.underlying42 rfl hsz
        have Hr1 := Lib.hid hr1; clear hr1
        have Hr2 := Lib.hid hr2; clear hr2
        clear d0 d1 d2 d3 d4 d5 d6 d7 hra hsz hu42
        refine wp_region_any (by kernel_rfl) ?_
        change wpAny _ _ _ _ _ _ _ (World.drew _)
        refine wpAny_take (i := 0) (v := .pointer (some ⟨g, 0, none⟩)) rfl (by kernel_rfl) (by kernel_rfl) (by kernel_rfl) (fun _ _ _ h => h) (Or.inl ⟨by rfl, ?_⟩) ?_
        · intro w; go_simp
        simp only [List.getElem_toArray, List.getElem_cons_succ, List.getElem_cons_zero, Act.put, List.setIfInBounds_toArray, List.set]
        refine wpAny_take (i := 1) (v := .pointer (some ⟨g, 0, none⟩)) rfl (by kernel_rfl) (by kernel_rfl) (by kernel_rfl) (fun _ _ _ h => h) (Or.inl ⟨by rfl, ?_⟩) ?_
        · intro w; go_simp
        simp only [List.getElem_toArray, List.getElem_cons_succ, List.getElem_cons_zero, Act.put, List.setIfInBounds_toArray, List.set]
        refine wpAny_take (i := 2) (v := .pointer (some ⟨g, 0, none⟩)) rfl (by kernel_rfl) (by kernel_rfl) (by kernel_rfl) (fun _ _ _ h => h) (Or.inl ⟨by rfl, ?_⟩) ?_
        · intro w; go_simp
        simp only [List.getElem_toArray, List.getElem_cons_succ, List.getElem_cons_zero, Act.put, List.setIfInBounds_toArray, List.set]
        refine wpAny_take (i := 3) (v := .pointer (some ⟨g, 0, none⟩)) rfl (by kernel_rfl) (by kernel_rfl) (by kernel_rfl) (fun _ _ _ h => h) (Or.inl ⟨by rfl, ?_⟩) ?_
        · intro w; go_simp
        simp only [List.getElem_toArray, List.getElem_cons_succ, List.getElem_cons_zero, Act.put, List.setIfInBounds_toArray, List.set]
        refine wpAny_take (i := 5) (v := .pointer (some ⟨g, 0, none⟩)) rfl (by kernel_rfl) (by kernel_rfl) (by kernel_rfl) (fun _ _ _ h => h) (Or.inl ⟨by rfl, ?_⟩) ?_
        · intro w; go_simp
        simp only [List.getElem_toArray, List.getElem_cons_succ, List.getElem_cons_zero, Act.put, List.setIfInBounds_toArray, List.set]
        refine wpAny_take (i := 6) (v := .pointer (some ⟨g, 0, none⟩)) rfl (by kernel_rfl) (by kernel_rfl) (by kernel_rfl) (fun _ _ _ h => h) (Or.inl ⟨by rfl, ?_⟩) ?_
        · intro w; go_simp
        simp only [List.getElem_toArray, List.getElem_cons_succ, List.getElem_cons_zero, Act.put, List.setIfInBounds_toArray, List.set]
        refine wpAny_take (i := 7) (v := .pointer (some ⟨g, 8, none⟩)) rfl (by kernel_rfl) (by kernel_rfl) (by kernel_rfl) (fun _ _ _ h => h) (Or.inl ⟨by rfl, ?_⟩) ?_
        · intro w; go_simp
        simp only [List.getElem_toArray, List.getElem_cons_succ, List.getElem_cons_zero, Act.put, List.setIfInBounds_toArray, List.set]
        refine wpAny_two 4 8 _ _ (.agg (s32 ⟨a0, a1, a2, a3, a4, a5, a6, a7⟩)) (.agg (wt'.map cu8).toArray) rfl rfl rfl rfl (by kernel_rfl) (by kernel_rfl) (by kernel_rfl) (by decide) ?_ ?_ ?_ ?_ (by kernel_rfl) ?_
        · exact exec_load _ _ 40 _ rfl g 0 rfl _ Hr1.out
        · exact exec_load _ _ 42 _ rfl g 8 rfl _ Hr2.out
        · exact exec_load _ _ 40 _ rfl g 0 rfl _ Hr1.out
        · exact exec_load _ _ 42 _ rfl g 8 rfl _ Hr2.out
        simp only [List.getElem_toArray, List.getElem_cons_succ, List.getElem_cons_zero, Act.put, List.setIfInBounds_toArray, List.set]
        refine wpAny_ready (rs := [9]) (by kernel_rfl) (by simp) (AllReady.cons rfl (fun K hK => ?_) AllReady.nil)
        go_simp
        refine (stir_agg ⟨a0, a1, a2, a3, a4, a5, a6, a7⟩ wt' F1.out _ _ rfl rfl _).mono ?_
        rintro e w5 ⟨rv, Hrv, rfl, hb5⟩
        refine hK _ _ ?_
        clear hK K
        try simp only [List.getElem_toArray, List.getElem_cons_succ, List.getElem_cons_zero, Act.put, List.setIfInBounds_toArray, List.set]
        refine wpAny_take (i := 10) (v := .pointer (some ⟨g, 0, none⟩)) rfl (by kernel_rfl) (by kernel_rfl) (by kernel_rfl) (fun _ _ _ h => h) (Or.inl ⟨by rfl, ?_⟩) ?_
        · intro w; go_simp
        simp only [List.getElem_toArray, List.getElem_cons_succ, List.getElem_cons_zero, Act.put, List.setIfInBounds_toArray, List.set]
        refine wpAny_take (i := 11) (v := .pointer (some ⟨g, 0, none⟩)) rfl (by kernel_rfl) (by kernel_rfl) (by kernel_rfl) (fun _ _ _ h => h) (Or.inl ⟨by rfl, ?_⟩) ?_
        · intro w; go_simp
        simp only [List.getElem_toArray, List.getElem_cons_succ, List.getElem_cons_zero, Act.put, List.setIfInBounds_toArray, List.set]
        refine wpAny_ready (rs := [12]) (by kernel_rfl) (by simp) (AllReady.cons rfl (fun K hK => ?_) AllReady.nil)
        refine step_store_into rfl 40 _ _ rfl g 0 rv rfl rfl (hCells ⟨a0, a1, a2, a3, a4, a5, a6, a7⟩ wt' (N + n)) 44 ((hb5.block g hgl).trans Hg5.out) (by rw [Hrv.out]; kernel_rfl) (by rw [hCells_length _ _ _ F1.out, Hrv.out]; exact (by decide : 0 + 8 ≤ 73)) (by rw [Hrv.out]; exact fun v hv => by obtain ⟨x, _, rfl⟩ := List.mem_map.1 hv; rfl) ?_
        intro w6 hg6 hgr6
        refine hK _ _ ?_
        clear hK K
        refine wpAny_done (by kernel_rfl) ?_ _
        go_wp2
        go_roundg (L - (k + n))
        case measure => omega
        case rel =>
          refine ⟨k + n, bq2, by omega, rfl, by rw [Nat.sub_sub, Nat.sub_sub], fun h => by rw [← Nat.add_assoc]; exact Hbq2.out (by omega), ?_⟩
          have hgg : w4.drew.grownBy w5 (some g) := ⟨hb5.os, hb5.tape, hb5.output, hb5.size, fun j hj _ => hb5.block j hj⟩
          refine WrW.full (grownBy_trans Hgr5.out (grownBy_trans (⟨rfl, rfl, rfl, Nat.le_refl _, fun _ _ _ => rfl⟩ : w4.grownBy w4.drew (some g)) (grownBy_trans hgg hgr6.out)))
            HP.out Hpl.out (by rw [HN.out, List.length_append, List.length_take, ← HL.out]; omega) HR.out F1.out F2.out hfull ?_
          rw [HST.out, hg6.out, Hrv.out, hash_state]
      · have hz : (((N : Int) + (n : Int)) % 64 == 0) = false := by
          have := HR.out
          rw [beq_eq_false_iff_ne]; omega
        go_wp2_with fail
        go_roundg (L - (k + n))
        case measure => omega
        case rel =>
          have hcast : ((N : Int) + (n : Int)) = ((N + n : Nat) : Int) := by omega
          rw [hcast]
          refine ⟨k + n, bq2, by omega, rfl, by rw [Nat.sub_sub, Nat.sub_sub], fun h => by rw [← Nat.add_assoc]; exact Hbq2.out (by omega), ?_⟩
          refine WrW.part (grownBy_trans (grownBy_trans Hgr.out (grownBy_trans (⟨rfl, rfl, rfl, Nat.le_refl _, fun _ _ _ => rfl⟩ : wr.grownBy wr.drew (some g)) hgr3.out)) ⟨rfl, rfl, rfl, by simp [World.setCell], fun j _ hj => heap_setCell_other _ _ _ _ (fun e => hj (by rw [e]))⟩)
            HP.out Hpl.out (by rw [HN.out, List.length_append, List.length_take, ← HL.out]; omega) HR.out F1.out F2.out (by omega) (hash_count Hg4.out F1.out)
    · obtain rfl : k = L := by omega
      go_wp2
      go_end0
      refine ⟨rfl, ?_, hS.grown⟩
      have := hS.hash
      rw [HL.out, List.take_length] at this
      exact this
end Go.Proofs.Ytcnjffckjcoafaa
