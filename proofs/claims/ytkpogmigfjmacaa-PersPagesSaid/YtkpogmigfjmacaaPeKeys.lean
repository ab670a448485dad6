/-
  The document's answer: keys by nexus.
-/
import Derived.Test.YtkpogmigfjmacaaPeSnd
import Derived.Test.YtkpogmigfjmacaaPeActW
import Derived.Test.YtkpogmigfjmacaaShaRows
import Derived.StillTailTactics
set_option linter.unusedSimpArgs false
set_option linter.unusedVariables false
namespace Go.Proofs.Ytkpogmigfjmacaa
open Go.RowKit

/-- Eight keys as cells. -/
def arrV (f : Int → Int) : List Value := (List.range 8).map fun i : Nat => .int .u64 (f (i : Int))
theorem arrV_len (f : Int → Int) : (arrV f).length = 8 := by simp [arrV]
theorem arrV_at (f : Int → Int) {i : Nat} (hi : i < 8) : (arrV f)[i]? = some (.int .u64 (f (i : Int))) := by
  unfold arrV; rw [List.getElem?_map, List.getElem?_range hi]; rfl
theorem arrV_congr {f f' : Int → Int} (h : ∀ i, 0 ≤ i → i < 8 → f i = f' i) : arrV f = arrV f' := by
  unfold arrV
  exact List.map_congr_left fun i hi => by rw [h i (by omega) (by have := List.mem_range.1 hi; omega)]
theorem arrV_set (f : Int → Int) {N : Nat} (hN : N < 8) (x : Int) : (arrV f).set N (.int .u64 x) = arrV (fun i => if i = (N : Int) then x else f i) := by
  apply List.ext_getElem?
  intro i
  by_cases hi : i < 8
  · rw [arrV_at _ hi]
    by_cases e : N = i
    · subst e
      rw [List.getElem?_set_self (by rw [arrV_len]; exact hN), if_pos rfl]
    · rw [List.getElem?_set_ne e, arrV_at _ hi, if_neg (by omega)]
  · rw [List.getElem?_eq_none (by rw [List.length_set, arrV_len]; omega), List.getElem?_eq_none (by rw [arrV_len]; omega)]
theorem rise_take : ∀ {l : List (Int × Int)} {n : Int} {k : Nat} {q : Int × Int} (_ : riseB l n = true) (_ : l[k]? = some q), ∀ r ∈ l.take k, r.1 < q.1
  | [], _, _, _, _, hq => by simp at hq
  | r :: l, n, 0, q, _, _ => by simp
  | r :: l, n, k + 1, q, h, hq => by
    obtain ⟨_, hb⟩ := rise_cons.1 h
    have hq' : l[k]? = some q := by simpa using hq
    intro x hx
    rw [List.take_succ_cons] at hx
    rcases List.mem_cons.1 hx with rfl | hx
    · exact (rise_mem hb (List.mem_of_getElem? hq')).1
    · exact rise_take hb hq' x hx
def zeros8 : Array Value := (arrV fun _ => 0).toArray
theorem alloc8 (w : World) : (Instr.alloc 57 true (.tuple #[])).run Try.prog w = .ok (.pointer (some ⟨w.heap.size, 0, none⟩)) (w.alloc (.cells zeros8 57)) := by kernel_rfl
theorem info8 : (Try.prog.info? 57).map (·.size) = some 8 := by kernel_rfl
theorem wpList_alloc_arr {P : Program} {ops : Array Oper} {rest : List Oper} {o : Oper} {a : Act} {w : World} {Q : Exit → Act → World → Prop} (hgd : o.guard = none) (ty : TypeId) (ho : o.op = .alloc ty) (cells : Array Value)
    (hal : ∀ w : World, (Instr.alloc ty true (.tuple #[])).run P w = .ok (.pointer (some ⟨w.heap.size, 0, none⟩)) (w.alloc (.cells cells ty)))
    (h : wpList P ops Q rest (a.put o.dst (.pointer (some ⟨w.heap.size, 0, none⟩))) (w.alloc (.cells cells ty))) : wpList P ops Q (o :: rest) a w :=
  wpList_plain hgd fun K hK => by
    unfold Oper.wp execOp
    simp only [ho, Sem.run_bind, hal w, Result.andThen_ok, Sem.run_pure]
    exact hK _ _ h
theorem heap_alloc3 (w : World) (a b c : Obj) : (((w.alloc a).alloc b).alloc c).heap[w.heap.size]? = some a ∧ (((w.alloc a).alloc b).alloc c).heap[w.heap.size + 1]? = some b ∧ (((w.alloc a).alloc b).alloc c).heap[w.heap.size + 1 + 1]? = some c := by
  refine ⟨?_, ?_, ?_⟩
  · rw [Below.heap_alloc _ _ _ (by simp only [World.size_alloc]; omega), Below.heap_alloc _ _ _ (by simp only [World.size_alloc]; omega)]; exact heap_alloc_new w _
  · rw [Below.heap_alloc _ _ _ (by simp only [World.size_alloc]; omega)]; simpa using heap_alloc_new (w.alloc a) b
  · simpa using heap_alloc_new ((w.alloc a).alloc b) c
theorem cells_one {f : Int → Int} : (arrV f).toArray.all (·.oneCell') = true := all_oneCell_toArray fun v hv => by
  obtain ⟨i, _, rfl⟩ := List.mem_map.1 hv
  rfl
/-- An array of eight keys. -/
def ArrP (f : Int → Int) (w : World) (e : Ending) (w' : World) : Prop := e = .returned (.agg (arrV f).toArray) ∧ Below w.heap.size w w'

section
variable (g h t : Int) (p : Bool) (A : Option Addr) (len cap : Nat) (l : List (Int × Int)) (w : World)
set_option maxRecDepth 100000 in
set_option maxHeartbeats 4000000 in
theorem keys_any (hS : SlR w A len cap l) (hm : len ≤ 6) (hr : riseB l (-1) = true) :
    Calls Try.prog 28 #[.agg #[.int .u32 g, .slice A len cap, .int .i64 h, .int .i64 t, .bool p]] w (ArrP (keyL l) w) := by
  have HS := Lib.hid hS; have Hr := Lib.hid hr
  have Hl : Hid (l.length = len) := Lib.hid hS.1
  clear hS hr
  obtain ⟨zn, Hzn⟩ : ∃ zn : Array Value, Hid (zn = zeros8) := ⟨_, Lib.hid rfl⟩
  have hal : ∀ w : World, (Instr.alloc 57 true (.tuple #[])).run Try.prog w = .ok (.pointer (some ⟨w.heap.size, 0, none⟩)) (w.alloc (.cells zn 57)) := by rw [Hzn.out]; exact alloc8
  go_enter Try.func28, Try.ntmps28
  go_upto_region 2 with (refine wpList_alloc_arr rfl 57 rfl _ hal ?_)
  obtain ⟨hx, hy, hz⟩ := heap_alloc3 w (.cells #[.int .u32 g, .slice A len cap, .int .i64 h, .int .i64 t, .bool p] 25) (.cells zn 57) (.cells zn 57)
  have hb0 := bel3 w (.cells #[.int .u32 g, .slice A len cap, .int .i64 h, .int .i64 t, .bool p] 25) (.cells zn 57) (.cells zn 57)
  try simp only [World.size_alloc]
  generalize ((w.alloc (.cells #[.int .u32 g, .slice A len cap, .int .i64 h, .int .i64 t, .bool p] 25)).alloc (.cells zn 57)).alloc (.cells zn 57) = w0 at hx hy hz hb0 ⊢
  have HX := Lib.hid hx; have HY := Lib.hid hy; have HZ := Lib.hid hz; have HB0 := Lib.hid hb0
  clear hx hy hz hb0 hal
  go_wp2
  go_loopg [4] 6 (fun m i wr => ∃ k : Nat, len - k ≤ m ∧ k ≤ len ∧ i = .int .i64 k ∧ Below (w.heap.size + 2) w0 wr ∧ Hid (wr.heap[w.heap.size + 1 + 1]? = some (.cells (arrV (keyL (l.take k))).toArray 57 (0, 0))))
  case atStart => exact ⟨0, by omega, by omega, rfl, Below.refl _ _, Lib.hid (by rw [HZ.out, Hzn.out]; rfl)⟩
  case round =>
    obtain ⟨k, hmk, hk, rfl, hb, hz⟩ := hrel
    have hbw : Below w.heap.size w wr := HB0.out.trans (hb.mono (by omega))
    have hx := (hb.block w.heap.size (by omega)).trans HX.out
    have hy := (hb.block (w.heap.size + 1) (by omega)).trans HY.out
    obtain ⟨xl, x0, x1, x2, x3, x4, xf⟩ := box5 hx
    have hzl : w.heap.size + 1 + 1 < wr.heap.size := (Array.getElem?_eq_some_iff.1 hz.out).1
    have HB := Lib.hid hb; have HW := Lib.hid hbw
    clear hb hbw hx
    by_cases hlt : k < len
    · have hltz : (k : Int) < (len : Int) := by omega
      obtain ⟨q, hq⟩ : ∃ q, l[k]? = some q := ⟨_, List.getElem?_eq_getElem (by rw [Hl.out]; exact hlt)⟩
      rcases (HS.out.below HW.out).2.2.2 with h0 | ⟨b, o, rfl, hbN, hc⟩
      · rw [h0] at hq; simp at hq
      obtain ⟨c0, c1⟩ := hc k q hq
      have hqm := rise_mem Hr.out (List.mem_of_getElem? hq)
      obtain ⟨q1, q2⟩ := q
      simp only at c0 c1 hqm
      obtain ⟨N, rfl⟩ : ∃ N : Nat, q1 = (N : Int) := ⟨q1.toNat, by omega⟩
      have hN : N < 8 := by omega
      have hN0 : (0 : Int) ≤ (N : Int) := by omega
      have hN8 : (N : Int) < 8 := by omega
      have cz : wr.cell? ⟨w.heap.size + 1 + 1, N, none⟩ = some (.int .u64 (keyL (l.take k) (N : Int))) := by
        rw [cell_of_row wr _ N _ _ _ hz.out, List.getElem?_toArray]; exact arrV_at _ hN
      have fz : wr.frozen? ⟨w.heap.size + 1 + 1, N, none⟩ = false := by simp [World.frozen?, hz.out]
      obtain ⟨old, hold⟩ : ∃ old, keyL (l.take k) (N : Int) = old := ⟨_, rfl⟩
      rw [hold] at cz
      have hlt2 : ∀ r ∈ l.take k, r.1 ≠ (((N : Int), q2) : Int × Int).1 := fun r hr => by
        have := rise_take Hr.out hq r hr
        have e : (((N : Int), q2) : Int × Int).1 = (N : Int) := rfl
        rw [e] at this ⊢
        omega
      have hnext : (arrV (keyL (l.take k))).set N (.int .u64 q2) = arrV (keyL (l.take (k + 1))) := by
        rw [arrV_set _ hN]
        refine arrV_congr fun i _ _ => ?_
        rw [List.take_add_one, hq]
        exact (keyL_append hlt2 i).symm
      have hset : (wr.setCell ⟨w.heap.size + 1 + 1, N, none⟩ (.int .u64 q2)).heap[w.heap.size + 1 + 1]? = some (.cells (arrV (keyL (l.take (k + 1)))).toArray 57 (0, 0)) := by
        rw [heap_setCell_same wr _ N _ _ _ hz.out, ← hnext]; simp
      have HSet := Lib.hid hset
      clear hc hq hset hnext hlt2 hold hqm hz hy
      go_wp2
      go_still_tail 12, (by kernel_rfl)
      change wpList _ _ _ _ _ wr.drew
      have cz' : wr.drew.cell? ⟨w.heap.size + 1 + 1, N, none⟩ = some (.int .u64 old) := cz
      have fz' : wr.drew.frozen? ⟨w.heap.size + 1 + 1, N, none⟩ = false := fz
      have hset' : (wr.drew.setCell ⟨w.heap.size + 1 + 1, N, none⟩ (.int .u64 q2)).heap[w.heap.size + 1 + 1]? = some (.cells (arrV (keyL (l.take (k + 1)))).toArray 57 (0, 0)) := HSet.out
      have HSet' := Lib.hid hset'
      have HBd := Lib.hid (HB.out.drew)
      clear hset' cz fz
      generalize wr.drew = wd at cz' fz' HSet' HBd ⊢
      go_wp2
      go_roundg (len - (k + 1))
      case measure => omega
      case rel => exact ⟨k + 1, Nat.le_refl _, by omega, by go_num, HBd.out.setCell (p := ⟨w.heap.size + 1 + 1, N, none⟩) (by show w.heap.size + 2 ≤ w.heap.size + 1 + 1; omega) _, HSet'⟩
    · obtain rfl : k = len := by omega
      have hltz : ¬ ((k : Int) < (k : Int)) := by omega
      have hzf := hz.out
      rw [List.take_of_length_le (by rw [Hl.out]; exact Nat.le_refl _)] at hzf
      obtain ⟨pv, Hpv⟩ : ∃ pv, Hid ((arrV (keyL l)).toArray = pv) := ⟨_, Lib.hid rfl⟩
      have hps : Hid ((Try.prog.info? 57).map (·.size) = some pv.size) := Lib.hid (by rw [← Hpv.out, List.size_toArray, arrV_len]; exact info8)
      have hzs : Hid (zn.size = pv.size) := Lib.hid (by rw [← Hpv.out, Hzn.out]; simp [zeros8, arrV_len])
      have hp1 : Hid (pv.all (·.oneCell') = true) := Lib.hid (by rw [← Hpv.out]; exact cells_one)
      rw [Hpv.out] at hzf
      go_wp2_with (first
        | (refine wpList_load_row rfl 57 _ rfl (w.heap.size + 1 + 1) rfl 57 pv (0, 0) _ hzf Try.underlying57 rfl hps.out ?_)
        | (refine wpList_store_row rfl 57 _ _ rfl (w.heap.size + 1) pv rfl rfl 57 zn hy hps.out hzs.out hp1.out ?_))
      refine bodyPost_ret (v := .agg pv) ?_ rfl ⟨by rw [Hpv.out], below_setRow (g := w.heap.size + 1) HW.out (by omega) pv⟩
      exact results_cell_row (ty := 57) rfl _ _ (w.heap.size + 1) 57 _ (0, 0) _ rfl (setRow_heap _ _ _ _ _ _ hy) Try.underlying57 rfl hps.out
end
end Go.Proofs.Ytkpogmigfjmacaa
