/-
  The program's disk: kept.
-/
import Derived.Test.YtbmpbcnoclhhgaaDoorDkFlush
namespace Go.Proofs.YtbmpbcnoclhhgaaDoor
open Go.RowKit Sh Go.Extern.Stop Go.Stop Go.Extern

/-- Of each of L places whether it is in S. -/
def keptL (L : Nat) (S : List Int) : List Value := (List.range L).map fun (k : Nat) => Value.bool (decide ((k : Int) ∈ S))
theorem keptL_length (L : Nat) (S : List Int) : (keptL L S).length = L := by simp [keptL]
theorem keptL_get (L : Nat) (S : List Int) (k : Nat) (hk : k < L) : (keptL L S)[k]? = some (.bool (decide ((k : Int) ∈ S))) := by simp [keptL, hk]
theorem keptL_put (L : Nat) (S : List Int) (k : Nat) : (keptL L S).set k (.bool true) = keptL L (S ++ [(k : Int)]) := by
  apply List.ext_getElem?
  intro j
  by_cases hj : j < L
  · rw [List.getElem?_set, keptL_get L _ j hj, keptL_length]
    by_cases e : k = j
    · subst e; rw [if_pos rfl, if_pos hj, keptL_get L _ k hj]; simp
    · have e2 : ¬ ((j : Int) = (k : Int)) := by omega
      rw [if_neg e, keptL_get L _ j hj]; simp [e2]
  · rw [List.getElem?_eq_none (by rw [List.length_set, keptL_length]; omega), List.getElem?_eq_none (by rw [keptL_length]; omega)]
theorem keptL_far (L : Nat) (S : List Int) (q : Int) (h : q < 0 ∨ (L : Int) ≤ q) : keptL L (S ++ [q]) = keptL L S := by
  apply List.ext_getElem?
  intro j
  by_cases hj : j < L
  · rw [keptL_get L _ j hj, keptL_get L _ j hj]
    have e2 : ¬ ((j : Int) = q) := by omega
    simp [e2]
  · rw [List.getElem?_eq_none (by rw [keptL_length]; omega), List.getElem?_eq_none (by rw [keptL_length]; omega)]
theorem infoBool : (Tryd.prog.info? 4).map (fun i => (i.zero, i.size, i.bytes)) = some (some (.bool false), 1, 1) := by kernel_rfl

theorem make_bools (n : Nat) (hn : n ≤ 1048576) (w : World) :
    (Instr.makeSlice 75 (.int .i64 (n : Int)) (.int .i64 (n : Int))).run Tryd.prog w = .ok (.slice (some ⟨w.heap.size, 0, none⟩) n n) (w.alloc (.cells (keptL n []).toArray 4)) := by
  obtain ⟨i, hi, hzz⟩ := Option.map_eq_some_iff.1 infoBool
  simp only [Prod.mk.injEq] at hzz
  obtain ⟨hz, hs, hb⟩ := hzz
  have h := run_make (P := Tryd.prog) w 75 4 i (.bool false) Tryd.underlying75 hi hz .i64 .i64 n n (by omega) (Int.le_refl _) (by rw [hb]; omega) (by omega)
  rw [hs] at h
  have e : madeCells (Value.bool false).cells (n * 1) = (keptL n []).toArray := by
    apply Array.ext
    · simp [madeCells, keptL]
    · intro j h1 h2
      have e1 : j % 1 = 0 := Nat.mod_one j
      simp [madeCells, keptL, Value.cells, e1]
  rw [h, Int.toNat_natCast, e]

def KeptPost (L : Nat) (pick : List Int) (w : World) (e : Ending) (w' : World) : Prop := ∃ b, e = .returned (.slice (some ⟨b, 0, none⟩) L L) ∧
  w'.ownsRow w.heap.size 4 1 (.slice (some ⟨b, 0, none⟩) L L) L (keptL L pick) ∧ Below w.heap.size w w'

section
variable {g : Nat} {vf vn vp : Value} {firm newest what : List (List Value)} {ats pick : List Int} {fuel : Int} {off : Bool} {w : World}

set_option maxRecDepth 100000 in
theorem kept_any (h : DiskAt g vf vn vp firm newest ats what fuel off w) (hn : ats.length ≤ 1048576) (ap : Option Addr) (cp : Nat) (hp : Nums w.heap.size w ap pick) (hpn : pick.length ≤ 9223372036854775807) :
    Calls Tryd.prog 33 #[.pointer (some ⟨g, 0, none⟩), .slice ap pick.length cp] w (KeptPost ats.length pick w) := by
  have c2 : w.cell? ⟨g, 2, none⟩ = some vp := h.cell 2
  obtain ⟨aa, ca, rfl⟩ := slice_form h.rowP
  have hm := make_bools ats.length hn w
  obtain ⟨L, hL⟩ : ∃ L, ats.length = L := ⟨_, rfl⟩
  rw [hL] at c2 hm hn ⊢
  have hb1 := (Below.refl w.heap.size w).alloc (Nat.le_refl _) (.cells (keptL L []).toArray 4)
  have hrow : (w.alloc (.cells (keptL L []).toArray 4)).ownsRow w.heap.size 4 1 (.slice (some ⟨w.heap.size, 0, none⟩) L L) L (keptL L []) := by
    refine ⟨by rw [keptL_length]; omega, .inr ⟨w.heap.size, L, _, rfl, Nat.le_refl _, heap_alloc_new w _, Nat.le_refl _, by unfold maxLen; omega, by rw [List.size_toArray, keptL_length]; omega, ?_⟩⟩
    rw [List.toList_toArray, Nat.mul_one, List.take_of_length_le (by rw [keptL_length]; exact Nat.le_refl _)]
  obtain ⟨cs, Hcs⟩ : ∃ cs : Array Value, Hid (cs = (keptL L []).toArray) := ⟨_, rfl⟩
  rw [← Hcs.out] at hm hb1 hrow
  obtain ⟨U, hU⟩ : ∃ U, Hid (pick.length = U) := ⟨_, rfl⟩
  have hUn : U ≤ 9223372036854775807 := by rw [← hU.out]; exact hpn
  obtain ⟨B, hB⟩ : ∃ B, w.heap.size = B := ⟨_, rfl⟩
  rw [hB] at hm hrow hp
  go_enter Tryd.func33, Tryd.ntmps33
  go_wp2
  rw [hU.out]
  try rw [hB]
  go_loopg [16] U (fun m v wr => ∃ (j : Nat), m = U - j ∧ j ≤ U ∧ v = .int .i64 j ∧ wr.ownsRow B 4 1 (.slice (some ⟨B, 0, none⟩) L L) L (keptL L (pick.take j)) ∧ Below B w wr)
  case atStart => exact ⟨0, rfl, by omega, rfl, hrow, by rw [← hB]; exact hb1⟩
  case round =>
    obtain ⟨j, rfl, hj, rfl, hr, hb⟩ := hrel
    clear hrow hm hb1 c2
    by_cases hlt : j < U
    · have hlt' : (j : Int) < (U : Int) := by omega
      have hjp : j < pick.length := by rw [hU.out]; exact hlt
      have hwj : IntKind.i64.wrap ((j : Int) + 1) = ((j + 1 : Nat) : Int) := by rw [IntWalk.i64_in _ (by omega)]; omega
      obtain ⟨gp, op, rfl, hgpl, hcp⟩ := (hp.below hb).resolve_left (by intro h0; rw [h0] at hjp; simp at hjp)
      have cq : wr.cell? ⟨gp, op + j, none⟩ = some (.int .i64 pick[j]) := hcp j pick[j] (List.getElem?_eq_getElem hjp)
      have htk : pick.take (j + 1) = pick.take j ++ [pick[j]] := by rw [List.take_succ_eq_append_getElem hjp]
      obtain ⟨q, hq⟩ : ∃ q, pick[j] = q := ⟨_, rfl⟩
      rw [hq] at cq htk
      clear hcp hp
      by_cases hin : q < 0 ∨ (L : Int) ≤ q
      · have hnx := keptL_far L (pick.take j) q hin
        rw [← htk] at hnx
        rw [← hnx] at hr
        have HR := Lib.hid hr
        clear hnx hr htk hq
        rcases hin with h0 | h1
        · go_wp2
          go_roundg (U - (j + 1))
          case measure => omega
          case rel => exact ⟨j + 1, rfl, by omega, by first | rfl | simp, HR.out, hb⟩
        · have h0 : ¬ q < 0 := by omega
          have h2 : ¬ q < (L : Int) := by omega
          go_wp2
          go_roundg (U - (j + 1))
          case measure => omega
          case rel => exact ⟨j + 1, rfl, by omega, by first | rfl | simp, HR.out, hb⟩
      · obtain ⟨k, rfl⟩ : ∃ k : Nat, q = (k : Int) := ⟨q.toNat, by omega⟩
        have hkL : (k : Int) < (L : Int) := by omega
        have hst := hr.stored k (.bool true)
        rw [keptL_put, ← htk] at hst
        have HS := Lib.hid hst.1
        have hfz := hr.frozenAt k
        have hck : wr.cell? ⟨B, k, none⟩ = some (.bool (decide ((k : Int) ∈ pick.take j))) := by
          rw [hr.cellAt k (by omega), keptL_get L _ k (by omega)]
        have hbs : Below B w (wr.setCell ⟨B, k, none⟩ (.bool true)) := by
          have hg := grown_setCell wr ⟨B, k, none⟩ (.bool true)
          exact ⟨hg.os.trans hb.os, hg.tape.trans hb.tape, hg.output.trans hb.output, Nat.le_trans hb.size hg.size, fun b hbB => (hg.block b (by have := hb.size; omega) (by simp; omega)).trans (hb.block b hbB)⟩
        clear hst htk hq hin hr
        go_wp2
        go_roundg (U - (j + 1))
        case measure => omega
        case rel => exact ⟨j + 1, rfl, by omega, by first | rfl | simp, HS.out, hbs⟩
    · obtain rfl : j = U := by omega
      have hge : ¬ ((j : Int) < (j : Int)) := by omega
      have e1 : pick.take j = pick := by rw [← hU.out, List.take_length]
      rw [e1] at hr
      go_wp2
      go_ret
      exact ⟨B, rfl, by rw [hB]; exact hr, by rw [hB]; exact hb⟩
end
end Go.Proofs.YtbmpbcnoclhhgaaDoor
