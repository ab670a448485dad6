/-
  Arguments opened: a slice of pairs; an array of pages by value and in memory.
-/
import Derived.Test.YticdanndfogjfaaGreatDoorBkCalls
import Derived.Test.YticdanndfogjfaaGreatDoorBkOld
set_option linter.unusedSimpArgs false
set_option linter.unusedVariables false
namespace Go.Proofs.YticdanndfogjfaaGreatDoor
open Go.RowKit Go.ChangeShapes Go.WideShapes Go.ChangeAt Go.Deep Sh Go.Extern.Stop Go.Stop Go.Extern

theorem Tryz.cellsPair : Tryz.prog.cellsOf 46 = 2 := by kernel_rfl
theorem open_none {H : Type} {enc : TypeId × Value → H} {W : World} {a0 : Option Addr} {len cap : Nat} {d0 : DataW H} {p : List MemPlace} (h0 : DataW.Trod enc Tryz.prog W 0 (fun _ => true) true 44 (.slice a0 len cap) d0 p) : a0 = none → len = 0 ∧ cap = 0 := by
  rintro rfl
  obtain ⟨fuel, hf⟩ := h0
  rcases open_slice Tryz.underlying44 hf with ⟨hcs, _⟩ | ⟨a, len', cap', m, n, D, Pl, hcs, _⟩
  · simp [Value.cells] at hcs
    exact hcs
  · simp [Value.cells] at hcs
/-- A slice of pairs, wherever it lies below block N. -/
def PairsAt (N : Nat) (w : World) (bp : Option Addr) (l : List (Int × Int)) : Prop := l = [] ∨ ∃ b o, bp = some ⟨b, o, none⟩ ∧ b < N ∧ ∀ (j : Nat) (q : Int × Int), l[j]? = some q → w.cell? ⟨b, o + j * 2, none⟩ = some (.int .i64 q.1) ∧ w.cell? ⟨b, o + j * 2 + 1, none⟩ = some (.int .i64 q.2)
theorem PairsAt.below {N : Nat} {w w' : World} {bp : Option Addr} {l : List (Int × Int)} (h : PairsAt N w bp l) (hb : Below N w w') : PairsAt N w' bp l :=
  h.imp id (fun ⟨b, o, h1, h2, h3⟩ => ⟨b, o, h1, h2, fun j q hj => ⟨(hb.cell (p := ⟨b, o + j * 2, none⟩) h2).trans (h3 j q hj).1, (hb.cell (p := ⟨b, o + j * 2 + 1, none⟩) h2).trans (h3 j q hj).2⟩⟩)
/-- A pair of whole numbers, each in reach. -/
def InInt (q : Int × Int) : Prop := (-9223372036854775808 ≤ q.1 ∧ q.1 ≤ 9223372036854775807) ∧ -9223372036854775808 ≤ q.2 ∧ q.2 ≤ 9223372036854775807

theorem pair_of_trod {H : Type} {enc : TypeId × Value → H} {W : World} {base fuel : Nat} {spare : Nat → Bool} {held : Bool} {cs : List Value} {x : DataW H × List MemPlace} (hf : DataW.trod enc Tryz.prog W base spare held fuel 46 cs = some x) :
    ∃ q : Int × Int, cs = [.int .i64 q.1, .int .i64 q.2] ∧ InInt q := by
  obtain ⟨xs, m, _, _, hl, hxs, he⟩ := DataW.trod_array Tryz.underlying46 hf
  rw [Tryz.cellsPair] at hl
  rw [Tryz.cellsInt] at he
  match cs, hl with
  | [c0, c1], _ =>
    have g0 := he 0 (by omega)
    have g1 := he 1 (by omega)
    obtain ⟨x0, hx0⟩ : ∃ x, xs[0]? = some x := ⟨_, List.getElem?_eq_getElem (by omega)⟩
    obtain ⟨x1, hx1⟩ : ∃ x, xs[1]? = some x := ⟨_, List.getElem?_eq_getElem (by omega)⟩
    rw [hx0] at g0
    rw [hx1] at g1
    obtain ⟨z0, e0, _, w0⟩ := DataW.trod_int Tryz.underlying3 g0
    obtain ⟨z1, e1, _, w1⟩ := DataW.trod_int Tryz.underlying3 g1
    have f0 : c0 = Value.int .i64 z0 := by simpa using e0
    have f1 : c1 = Value.int .i64 z1 := by simpa using e1
    have m1 : IntKind.i64.min = -9223372036854775808 := rfl
    have m2 : IntKind.i64.max = 9223372036854775807 := rfl
    simp only [Lit.wf, Bool.and_eq_true, decide_eq_true_eq] at w0 w1
    exact ⟨(z0, z1), by rw [f0, f1], ⟨by show _ ≤ z0; omega, by show z0 ≤ _; omega⟩, by show _ ≤ z1; omega, by show z1 ≤ _; omega⟩

theorem open_pairs {H : Type} {enc : TypeId × Value → H} {W : World} {a0 : Option Addr} {len cap : Nat} {d0 : DataW H} {p : List MemPlace} (h0 : DataW.Trod enc Tryz.prog W 0 (fun _ => true) true 44 (.slice a0 len cap) d0 p) :
    ∃ l : List (Int × Int), l.length = len ∧ PairsAt W.heap.size W a0 l ∧ len ≤ 9223372036854775807 ∧ ∀ q ∈ l, InInt q := by
  obtain ⟨fuel, hf⟩ := h0
  rcases open_slice Tryz.underlying44 hf with ⟨hcs, _⟩ | ⟨a, len', cap', m, n, D, Pl, hcs, _, hl, hm, hmm, hx, hrow⟩
  · simp [Value.cells] at hcs
    obtain ⟨rfl, rfl, rfl⟩ := hcs
    exact ⟨[], rfl, .inl rfl, by omega, by simp⟩
  · simp [Value.cells] at hcs
    obtain ⟨rfl, rfl, rfl⟩ := hcs
    unfold maxLen at hm
    have hlm : len ≤ m := by rw [hmm]; split <;> omega
    rw [Tryz.cellsPair] at hrow
    have hc : ∀ i, i < len → ∃ q : Int × Int, W.cell? (a.add (i * 2)) = some (.int .i64 q.1) ∧ W.cell? (a.add (i * 2 + 1)) = some (.int .i64 q.2) ∧ InInt q := fun i hi => by
      obtain ⟨cs', h1, h2⟩ := hrow i (by omega)
      obtain ⟨q, rfl, hok⟩ := pair_of_trod h2
      obtain ⟨_, hlen, hcell⟩ := World.cells?_some h1
      have k0 := hcell 0 (by omega)
      have k1 := hcell 1 (by omega)
      rw [Deep.add_add] at k0 k1
      exact ⟨q, k0.trans rfl, k1.trans rfl, hok⟩
    classical
    refine ⟨(List.range len).map (fun i => if h : i < len then (hc i h).choose else (0, 0)), by simp, ?_, by omega, fun q hq => ?_⟩
    · rcases Nat.eq_zero_or_pos len with h | hpos
      · exact .inl (by subst h; rfl)
      right
      obtain ⟨b, off, s⟩ := a
      obtain ⟨q0, hq0, _⟩ := hc 0 hpos
      obtain rfl : s = none := by simpa [Addr.add] using World.cell?_spot hq0
      refine ⟨b, off, rfl, ?_, fun j q hj => ?_⟩
      · have := World.block_lt_of_cell? W _ hq0
        simpa [add_off] using this
      · have hjl : j < len := by simpa using (List.getElem?_eq_some_iff.1 hj).1
        have eq' : (hc j hjl).choose = q := by simpa [hjl] using hj
        obtain ⟨h1, h2, _⟩ := (hc j hjl).choose_spec
        rw [eq'] at h1 h2
        rw [add_off] at h1 h2
        exact ⟨h1, by rw [Nat.add_assoc]; exact h2⟩
    · obtain ⟨i, hi, rfl⟩ := List.mem_map.1 hq
      have hil := List.mem_range.1 hi
      rw [dif_pos hil]
      exact (hc i hil).choose_spec.2.2
theorem allocPair (w : World) : (Instr.alloc 46 true (.tuple #[])).run Tryz.prog w = .ok (.pointer (some ⟨w.heap.size, 0, none⟩)) (w.alloc (.cells #[.int .i64 0, .int .i64 0] 46)) := by kernel_rfl
theorem infoPair : (Tryz.prog.info? 46).map (·.size) = some 2 := by kernel_rfl

/-! An array of 28 pages. -/
def nowC (P : List (List UInt8)) : List Value := (P.map fun p => p.map cu8).flatten
def Len64 (P : List (List UInt8)) : Prop := ∀ p ∈ P, p.length = 64
theorem nowC_len : ∀ {P : List (List UInt8)}, Len64 P → (nowC P).length = 64 * P.length
  | [], _ => rfl
  | p :: P, h => by
    have := nowC_len (P := P) (fun q hq => h q (by simp [hq]))
    have hp := h p (by simp)
    simp only [nowC, List.map_cons, List.flatten_cons, List.length_append, List.length_map, List.length_cons] at this ⊢
    omega
theorem nowC_at : ∀ {P : List (List UInt8)} {i : Nat} {p : List UInt8}, Len64 P → P[i]? = some p → ((nowC P).drop (i * 64)).take 64 = p.map cu8
  | [], i, p, _, h => by simp at h
  | q :: P, 0, p, hl, h => by
    obtain rfl : q = p := by simpa using h
    have hq := hl q (by simp)
    simp only [nowC, List.map_cons, List.flatten_cons, Nat.zero_mul, List.drop_zero]
    exact List.take_left' (by simp [hq])
  | q :: P, i + 1, p, hl, h => by
    have hq := hl q (by simp)
    have ih := nowC_at (P := P) (i := i) (p := p) (fun r hr => hl r (by simp [hr])) (by simpa using h)
    have e : (i + 1) * 64 = 64 + i * 64 := by omega
    have : (nowC (q :: P)).drop ((i + 1) * 64) = (nowC P).drop (i * 64) := by
      rw [e, ← List.drop_drop]
      simp only [nowC, List.map_cons, List.flatten_cons]
      rw [List.drop_left' (by simp [hq])]
    rw [this]; exact ih
theorem nowC_set : ∀ {P : List (List UInt8)} {i : Nat} {p : List UInt8}, Len64 P → i < P.length → p.length = 64 → splice (nowC P) (i * 64) (p.map cu8) = nowC (P.set i p)
  | [], i, p, _, h, _ => by simp at h
  | q :: P, 0, p, hl, h, hp => by
    have hq := hl q (by simp)
    simp only [splice, nowC, List.map_cons, List.flatten_cons, Nat.zero_mul, List.take_zero, List.nil_append, List.set_cons_zero, Nat.zero_add]
    rw [List.drop_left' (by simp [hq, hp])]
  | q :: P, i + 1, p, hl, h, hp => by
    have hq := hl q (by simp)
    have ih := nowC_set (P := P) (i := i) (p := p) (fun r hr => hl r (by simp [hr])) (by simpa using h) hp
    have e : (i + 1) * 64 = 64 + i * 64 := by omega
    have hq' : (q.map cu8).length = 64 := by simp [hq]
    simp only [splice, nowC, List.map_cons, List.flatten_cons, List.set_cons_succ] at ih ⊢
    rw [← ih, e]
    have t1 : ((q.map cu8) ++ (P.map fun p => p.map cu8).flatten).take (64 + i * 64) = q.map cu8 ++ ((P.map fun p => p.map cu8).flatten).take (i * 64) := by
      rw [← hq', List.take_length_add_append]
    have t2 : ((q.map cu8) ++ (P.map fun p => p.map cu8).flatten).drop (64 + i * 64 + (p.map cu8).length) = ((P.map fun p => p.map cu8).flatten).drop (i * 64 + (p.map cu8).length) := by
      rw [Nat.add_assoc, ← List.drop_drop, List.drop_left' hq']
    rw [t1, t2]
    simp only [List.append_assoc]
theorem len64_set {P : List (List UInt8)} {i : Nat} {p : List UInt8} (h : Len64 P) (hp : p.length = 64) : Len64 (P.set i p) := fun q hq => (List.mem_or_eq_of_mem_set hq).elim (h q) (fun e => by rw [e]; exact hp)
def z28 : List (List UInt8) := List.replicate 28 (List.replicate 64 0)
def zeroNow : Array Value := (nowC z28).toArray
theorem allocNow (w : World) : (Instr.alloc 45 true (.tuple #[])).run Tryz.prog w = .ok (.pointer (some ⟨w.heap.size, 0, none⟩)) (w.alloc (.cells zeroNow 45)) := by kernel_rfl
theorem infoNow : (Tryz.prog.info? 45).map (·.size) = some 1792 := by kernel_rfl
set_option maxRecDepth 100000 in
/-- A page out of an array of pages by value. -/
theorem run_index_now {P : List (List UInt8)} (hl : Len64 P) (h28 : P.length = 28) (k : Nat) (hk : k < 28) {p : List UInt8} (hp : P[k]? = some p) (w : World) :
    (Instr.index 45 (.agg (nowC P).toArray) (.int .i64 (k : Int))).run Tryz.prog w = .ok (.agg (p.map cu8).toArray) w := by
  have hsz : (sizeOf 37).run Tryz.prog w = .ok 64 w := by
    have hs := info64
    cases hq : Tryz.prog.info? 37 with
    | none => simp [hq] at hs
    | some i =>
      have hi : i.size = 64 := by simpa [hq] using hs
      simp [sizeOf, typeInfo, hq, hi]
  have h1 : (0 : Int) ≤ (k : Int) ∧ (k : Int) < ((28 : Nat) : Int) := by omega
  have hpa := run_part_arr (P := Tryz.prog) 37 5 64 Tryz.underlying37 info64 (nowC P).toArray (k * 64) w
  have he : (nowC P).toArray.extract (k * 64) (k * 64 + 64) = (p.map cu8).toArray := by
    have hat := nowC_at hl hp
    rw [List.extract_toArray]
    congr 1
    rw [List.extract_eq_take_drop]
    have : k * 64 + 64 - k * 64 = 64 := by omega
    rw [this]; exact hat
  rw [he] at hpa
  unfold Instr.index asIntOf
  simp only [Sem.run_bind, Sem.run_pure, Result.andThen_ok, run_underlying Tryz.underlying45 w]
  rw [if_pos h1, Sem.run_bind, hsz]
  simpa [Result.andThen] using hpa
end Go.Proofs.YticdanndfogjfaaGreatDoor
