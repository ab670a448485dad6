/-
  strings.Builder: copyCheck and WriteString, at a builder of the call's own.
-/
import Derived.Test.YtbkbhmgmlcmanaaDoorProg
import Derived.Lib.Strings
import Derived.Lib.Walk
import Derived.Lib.Builder
import Derived.Lib.AppendStr
import Derived.WalkKit
import Derived.Laws.Externs
import Derived.RowKitTokens
namespace Go.Proofs.YtbkbhmgmlcmanaaDoor
open Go.RowKit

theorem sizeBuilder : (Tryd.prog.info? 63).map (·.size) = some 2 := by kernel_rfl
theorem liesBuilder : liesAt Tryd.prog Tryd.prog.depth 63 (2 / Tryd.prog.cellsOf 63) 0 63 1 = true := by kernel_rfl
theorem infoByte : (Tryd.prog.info? 5).map (fun i => (i.zero, i.size, i.bytes)) = some (some (.int .u8 0), 1, 1) := by kernel_rfl

theorem copyCheck_used (b : Nat) (w : World) (h0 : w.cell? ⟨b, 0, none⟩ = some (.pointer (some ⟨b, 0, none⟩))) :
    Calls Tryd.prog 39 #[.pointer (some ⟨b, 0, none⟩)] w fun e w' => e = .returned (.tuple #[]) ∧ w' = w := by
  obtain ⟨j, hj, _⟩ := Option.map_eq_some_iff.1 sizeBuilder
  have hq := Lib.run_neq_ptr_same w ⟨b, 0, none⟩ Tryd.underlying60 hj
  go_enter Tryd.func39, Tryd.ntmps39
  go_wp2
  first | go_end0 | refine bodyPost_ret (results_none rfl _ _ _) rfl ?_
  exact ⟨rfl, rfl⟩

theorem copyCheck_fresh (b : Nat) (w : World) (h0 : w.cell? ⟨b, 0, none⟩ = some (.pointer none)) (hsh : w.shape? b = some (63, 2)) (hfz : w.frozen? ⟨b, 0, none⟩ = false) :
    Calls Tryd.prog 39 #[.pointer (some ⟨b, 0, none⟩)] w fun e w' => e = .returned (.tuple #[]) ∧ w' = w.setCell ⟨b, 0, none⟩ (.pointer (some ⟨b, 0, none⟩)) := by
  obtain ⟨j, hj, hjs⟩ := Option.map_eq_some_iff.1 sizeBuilder
  have h1 := Lib.run_to_unsafe w ⟨b, 0, none⟩ Tryd.underlying60 Tryd.underlying46 hj (by rw [hjs]; decide) hsh (Nat.zero_lt_succ 1)
  have h2 := @run_callFunc_extern Tryd.prog 46 _ Extern.AbiNoEscape.same Tryd.func46 (by kernel_rfl) (by kernel_rfl) (by kernel_rfl) (by kernel_rfl)
  have h3 : ∀ x : Value, (Extern.AbiNoEscape.same #[x]).run Tryd.prog w = .ok x w := fun x => Lib.run_noEscape w x
  have h4 := Lib.run_from_unsafe w ⟨b, 0, none⟩ Tryd.underlying46 Tryd.underlying60 hj hsh liesBuilder
  go_enter Tryd.func39, Tryd.ntmps39
  go_wp2
  first | go_end0 | refine bodyPost_ret (results_none rfl _ _ _) rfl ?_
  exact ⟨rfl, rfl⟩

/-- A builder in block b, its bytes nil or in a row from B on. -/
structure Bld (B b : Nat) (p : Value) (bs : List Value) (w : World) : Prop where
  lt : b < B
  at_ : ∃ v, w.heap[b]? = some (.cells #[p, v] 63 (0, 0)) ∧ w.ownsRow B 5 1 v bs.length bs
/-- Of what lies below B nothing but block b has turned. -/
structure Others (B b : Nat) (w w' : World) : Prop where
  os : w'.os = w.os
  tape : w'.tape = w.tape
  output : w'.output = w.output
  size : w.heap.size ≤ w'.heap.size
  block : ∀ k, k < B → k ≠ b → w'.heap[k]? = w.heap[k]?
theorem Others.refl (B b : Nat) (w : World) : Others B b w w := ⟨rfl, rfl, rfl, Nat.le_refl _, fun _ _ _ => rfl⟩
theorem Others.trans {B b : Nat} {w1 w2 w3 : World} (h : Others B b w1 w2) (k : Others B b w2 w3) : Others B b w1 w3 :=
  ⟨k.os.trans h.os, k.tape.trans h.tape, k.output.trans h.output, Nat.le_trans h.size k.size, fun i hi hn => (k.block i hi hn).trans (h.block i hi hn)⟩
theorem Others.cell {B b : Nat} {w w' : World} (h : Others B b w w') (p : Addr) (hp : p.block < B) (hn : p.block ≠ b) : w'.cell? p = w.cell? p := World.cell?_of_block (w := w) (h.block p.block hp hn)
theorem Others.below {B b N : Nat} {w w' : World} (h : Others B b w w') (hN : N ≤ b) (hb : b < B) : Below N w w' := ⟨h.os, h.tape, h.output, h.size, fun k hk => h.block k (by omega) (by omega)⟩
theorem Bld.heapLt {B b : Nat} {p : Value} {bs : List Value} {w : World} (h : Bld B b p bs w) : b < w.heap.size := by
  obtain ⟨v, hb, _⟩ := h.at_
  rcases Nat.lt_or_ge b w.heap.size with h' | h'
  · exact h'
  · simp [Array.getElem?_eq_none h'] at hb
theorem Bld.keep {B b : Nat} {p : Value} {bs : List Value} {w w' : World} (h : Bld B b p bs w) (hb : Below w.heap.size w w') : Bld B b p bs w' := by
  obtain ⟨v, h1, h2⟩ := h.at_
  exact ⟨h.lt, v, (hb.block b h.heapLt).trans h1, h2.kept (row := none) ⟨hb.os, hb.tape, hb.output, hb.size, fun j hj _ => hb.block j hj⟩ (by cases hv : v.ownBlock <;> simp)⟩
theorem Bld.start {B b : Nat} {w : World} (hb : b < B) (h : w.heap[b]? = some (.cells #[.pointer none, .slice none 0 0] 63 (0, 0))) : Bld B b (.pointer none) [] w := ⟨hb, _, h, World.ownsRow_nil _ _ _ _⟩
theorem ownsRow_mono {w : World} {B B' : Nat} {e : TypeId} {v : Value} {n : Nat} {xs : List Value} (h : w.ownsRow B e 1 v n xs) (hB : B' ≤ B) : w.ownsRow B' e 1 v n xs := by
  obtain ⟨h1, h2⟩ := h
  rcases h2 with h2 | ⟨g, cap, cur, a1, a2, a3⟩
  · exact ⟨h1, .inl h2⟩
  · exact ⟨h1, .inr ⟨g, cap, cur, a1, Nat.le_trans hB a2, a3⟩⟩
theorem Bld.isBuilder {B b : Nat} {bs : List Value} {w : World} (h : Bld B b (.pointer (some ⟨b, 0, none⟩)) bs w) : Lib.IsBuilder 63 5 b b bs w := by
  obtain ⟨v, h1, h2⟩ := h.at_
  have h3 := ownsRow_mono h2 (Nat.le_of_lt h.lt)
  exact .inr ⟨Nat.le_refl _, v, h1, h3, Lib.ownBlock_ne h3 h1 (by decide)⟩

theorem copyCheck_bld (B b : Nat) (p : Value) (bs : List Value) (w : World) (h : Bld B b p bs w) (hp : p = .pointer none ∨ p = .pointer (some ⟨b, 0, none⟩)) :
    Calls Tryd.prog 39 #[.pointer (some ⟨b, 0, none⟩)] w fun e w' => e = .returned (.tuple #[]) ∧ (Bld B b (.pointer (some ⟨b, 0, none⟩)) bs w' ∧ Others B b w w') := by
  obtain ⟨v, h1, h2⟩ := h.at_
  rcases hp with rfl | rfl
  · refine (copyCheck_fresh b w (by rw [Lib.cell_of_heap h1]; rfl) (by simp [World.shape?, h1]) (Lib.frozen_of_heap h1 0)).mono ?_
    rintro e w' ⟨rfl, rfl⟩
    refine ⟨rfl, ⟨h.lt, v, by simp [World.setCell, Array.getElem?_modify, h1], ?_⟩, ⟨rfl, rfl, rfl, by simp [World.setCell], fun k _ hk => Below.heap_setCell _ _ _ _ hk⟩⟩
    exact ownsRow_setCell_below h2 (by exact h.lt) _
  · refine (copyCheck_used b w (by rw [Lib.cell_of_heap h1]; rfl)).mono ?_
    rintro e w' ⟨rfl, rfl⟩
    exact ⟨rfl, h, Others.refl _ _ _⟩

set_option maxHeartbeats 2000000 in
set_option maxRecDepth 100000 in
theorem writeString_any (B b : Nat) (p : Value) (bs : List Value) (s : ByteArray) (w : World) (h : Bld B b p bs w) (hp : p = .pointer none ∨ p = .pointer (some ⟨b, 0, none⟩)) (hlen : bs.length + s.size ≤ 140737488355328) (hBw : B ≤ w.heap.size) :
    Calls Tryd.prog 31 #[.pointer (some ⟨b, 0, none⟩), .string s] w fun e w' => e = .returned (.tuple #[.int .i64 s.size, .nilIface]) ∧ (Bld B b (.pointer (some ⟨b, 0, none⟩)) (bs ++ Lib.strCells s) w' ∧ Others B b w w') := by
  obtain ⟨i0, hi, hzz⟩ := Option.map_eq_some_iff.1 infoByte
  simp only [Prod.mk.injEq] at hzz
  obtain ⟨hz0, hz1, hz2⟩ := hzz
  go_enter Tryd.func31, Tryd.ntmps31
  go_wp2_with (go_at_call 39; refine (copyCheck_bld B b p bs _ h hp).mono ?_)
  rintro e w1 ⟨rfl, h1, hb1⟩
  obtain ⟨v, hbk, hown⟩ := h1.at_
  have hlt := h1.heapLt
  have hbB := h1.lt
  have hne : v.ownBlock ≠ some b := fun e => by have := (hown.lt b e).1; omega
  have c0 : w1.cell? ⟨b, 0, none⟩ = some (.pointer (some ⟨b, 0, none⟩)) := by rw [Lib.cell_of_heap hbk]; rfl
  have c1 : w1.cell? ⟨b, 1, none⟩ = some v := by rw [Lib.cell_of_heap hbk]; rfl
  have hb1s := hb1.size
  have hB1 : B ≤ w1.heap.size := by omega
  have hm1 : bs.length + s.size ≤ maxLen := by unfold maxLen; omega
  go_wp2_with (refine Lib.wpList_append_own_string w1 rfl _ _ 61 9 rfl B 5 i0 Tryd.underlying61 Tryd.underlying9 hi hz0 hz1 hz2 v bs.length bs rfl hown s rfl hm1 hlen hB1 ?_)
  intro v' w2 hown' hgrow hnil
  have hb2 : w2.heap[b]? = some (.cells #[.pointer (some ⟨b, 0, none⟩), v] 63 (0, 0)) := by
    rw [hgrow.block b hlt (fun e => hne e.symm)]
    exact hbk
  have d0 : w2.cell? ⟨b, 0, none⟩ = some (.pointer (some ⟨b, 0, none⟩)) := by rw [Lib.cell_of_heap hb2]; rfl
  have d1 : w2.cell? ⟨b, 1, none⟩ = some v := by rw [Lib.cell_of_heap hb2]; rfl
  have f1 : w2.frozen? ⟨b, 1, none⟩ = false := Lib.frozen_of_heap hb2 1
  obtain ⟨ao, n', cap, rfl⟩ : ∃ ao n' cap, v' = .slice ao n' cap := by
    rcases hown'.2 with ⟨hv, _⟩ | ⟨g, cap, cur, hv, _⟩
    · exact ⟨_, _, _, hv⟩
    · exact ⟨_, _, _, hv⟩
  go_wp2
  go_ret2
  refine ⟨rfl, ⟨hbB, .slice ao n' cap, by simp [World.setCell, Array.getElem?_modify, hb2], ?_⟩, ?_⟩
  · exact ownsRow_setCell_below (a := ⟨b, 1, none⟩) (by simpa [Lib.strCells_length] using hown') hbB _
  · refine hb1.trans ⟨hgrow.os, hgrow.tape, hgrow.output, by simpa [World.setCell] using hgrow.size, fun k hk hkb => ?_⟩
    rw [Below.heap_setCell _ _ _ _ hkb]
    exact hgrow.block k (by omega) (fun e => by have := (hown.lt k e.symm).1; omega)
end Go.Proofs.YtbkbhmgmlcmanaaDoor
