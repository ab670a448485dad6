/-
  pers.with: a registration among others.
-/
import Derived.Test.YtkpogmigfjmacaaPeDel
import Derived.BigQuiet
import Derived.Deep.QuietTactic
import Derived.Deep.RegionLawGrows
import Derived.Deep.RegionHeld3
set_option linter.unusedSimpArgs false
set_option linter.unusedVariables false
namespace Go.Proofs.Ytkpogmigfjmacaa
open Go.RowKit

def withL : List (Int × Int) → Int → Int → List (Int × Int)
  | [], n, x => [(n, x)]
  | r :: l, n, x => if r.1 < n then r :: withL l n x else if r.1 = n then (n, x) :: l else (n, x) :: r :: l
theorem withL_end : ∀ {l : List (Int × Int)} {n x : Int} (_ : ∀ j, j < l.length → ∀ q : Int × Int, l[j]? = some q → q.1 < n), withL l n x = l ++ [(n, x)]
  | [], _, _, _ => rfl
  | r :: l, n, x, h => by
    have h0 := h 0 (by simp) r rfl
    rw [withL, if_pos h0, withL_end fun j hj q hq => h (j + 1) (by simpa using hj) q (by simpa using hq)]
    rfl
theorem withL_at : ∀ {l : List (Int × Int)} {n x : Int} {k : Nat} {q : Int × Int} (_ : l[k]? = some q) (_ : ∀ j, j < k → ∀ q : Int × Int, l[j]? = some q → q.1 < n) (_ : ¬ q.1 < n),
    withL l n x = l.take k ++ [(n, x)] ++ (if q.1 = n then l.drop (k + 1) else l.drop k)
  | [], _, _, _, _, hk, _, _ => by simp at hk
  | r :: l, n, x, 0, q, hk, _, hq => by
    obtain rfl : r = q := by simpa using hk
    rw [withL, if_neg hq]
    by_cases h : r.1 = n <;> simp [h]
  | r :: l, n, x, k + 1, q, hk, h, hq => by
    have h0 := h 0 (by omega) r rfl
    rw [withL, if_pos h0, withL_at (l := l) (k := k) (q := q) (by simpa using hk) (fun j hj p hp => h (j + 1) (by omega) p (by simpa using hp)) hq]
    simp
theorem withL_len (l : List (Int × Int)) (n x : Int) : (withL l n x).length ≤ l.length + 1 := by
  induction l with
  | nil => simp [withL]
  | cons r l ih =>
    rw [withL]
    split
    · simpa using ih
    · split <;> simp

/-- A slice of registrations as it comes in. -/
def SlR (w : World) (A : Option Addr) (len cap : Nat) (l : List (Int × Int)) : Prop := l.length = len ∧ len ≤ cap ∧ (A = none → cap = 0) ∧ RgA w.heap.size w A l
theorem SlR.below {w w' : World} {A : Option Addr} {len cap : Nat} {l : List (Int × Int)} (h : SlR w A len cap l) (hb : Below w.heap.size w w') : SlR w' A len cap l := ⟨h.1, h.2.1, h.2.2.1, (h.2.2.2.below hb).mono hb.size⟩

theorem below_drewN {B : Nat} {a w : World} (h : Below B a w) (c : Nat) : Below B a (w.drewN c) := ⟨h.os, h.tape, h.output, h.size, h.block⟩
theorem rowsR_take (l : List (Int × Int)) (k : Nat) (j : Nat) (u : Value) (h : (rowsR (l.take k))[j]? = some u) : (rowsR l)[j]? = some u := by
  have e : rowsR l = rowsR (l.take k) ++ rowsR (l.drop k) := by rw [rowsR, rowsR, rowsR, ← List.flatMap_append, List.take_append_drop]
  rw [e, List.getElem?_append_left (List.getElem?_eq_some_iff.1 h).1]; exact h
theorem RgA.drop {N : Nat} {w : World} {b o : Nat} {l : List (Int × Int)} (h : RgA N w (some ⟨b, o, none⟩) l) (k : Nat) : RgA N w (some ⟨b, o + k * 2, none⟩) (l.drop k) := by
  rcases h with rfl | ⟨b', o', hA, hN, hc⟩
  · exact .inl (by simp)
  · cases hA
    refine .inr ⟨b, _, rfl, hN, fun j q hq => ?_⟩
    rw [List.getElem?_drop] at hq
    have := hc _ _ hq
    have e : o + (k + j) * 2 = o + k * 2 + j * 2 := by omega
    rw [e] at this
    exact this
section
variable {P : Program}
theorem wpAnyH_one {md : Region.Mode} {ops : Array Oper} {Q : Exit → Act → World → Prop} {S : World → Prop} {fuel : Nat} {listed : Array Bool} {a : Act} {w : World} (i : Nat) (o : Oper) (hi : ops[i]? = some o) (hr : Region.ready md ops listed = [i])
    (hw : Region.wanted o (yielded ops a.tmps) = true) (h : ∀ K : Act → World → Prop, (∀ a' w', S w' → wpAnyH P md ops Q S fuel (listed.setIfInBounds i true) a' w' → K a' w') → Oper.wp P o a w K Q) : wpAnyH P md ops Q S (fuel + 1) listed a w := by
  refine wpAnyH_all hr (by simp) (fun j hj => ?_)
  obtain rfl : j = i := by simpa using hj
  unfold wpOp
  simp only [hi, hw, if_true]
  exact .inl (h _ fun _ _ h1 h2 => ⟨h1, h2⟩)
end
/-- One registration behind those of a slice that has no room. -/
theorem wp_fresh {o : Oper} {a : Act} {w : World} {K : Act → World → Prop} {Q : Exit → Act → World → Prop} (hgd : o.guard = none) (s x : Operand)
    (ho : o.op = .call { callee := .builtin .append, args := #[s, x], argTypes := #[23, 23] })
    (ao : Option Addr) (k : Nat) (l : List (Int × Int)) (hs : a.eval s = .slice ao k k) (hnone : ao = none → k = 0) (hl : l.length = k) (hk : k ≤ 6) (holds : ∀ b, ao = some b → ∀ j u, (rowsR l)[j]? = some u → w.cell? (b.add j) = some u)
    (b c : Nat) (hx : a.eval x = .slice (some ⟨b, 0, none⟩) 1 c) (q : Int × Int) (h0 : w.cell? ⟨b, 0, none⟩ = some (.int .i64 q.1)) (h1 : w.cell? ⟨b, 1, none⟩ = some (.int .u64 q.2))
    (h : ∀ v' w', OwnR w.heap.size w' v' (l ++ [q]) → Below w.heap.size w w' → K (a.put o.dst v') w') : o.wp Try.prog a w K Q := by
  obtain ⟨i0, hi0, hz0, hz1, hz2⟩ := info_parts infoReg
  have hst := step_append_grows (P := Try.prog) (ops := #[o]) (o := o) (a := a) (w := w) (K := K) (Q := Q) (E := True) hgd s x 23 ho 38 i0 _ 2 16 Try.underlying23 hi0 hz0 hz1 hz2 rfl (by omega)
    ao k k (rowsR l) hs (fun e => ⟨hnone e, hnone e⟩) (by rw [rowsR_len, hl]) holds ⟨b, 0, none⟩ 1 c [.int .i64 q.1, .int .u64 q.2] hx rfl (fun j u hu => by
      have e : (⟨b, 0, none⟩ : Addr).add j = ⟨b, j, none⟩ := by unfold Addr.add; split <;> simp_all
      rw [e]
      match j, hu with
      | 0, hu => cases hu; exact h0
      | 1, hu => cases hu; exact h1
      | j + 2, hu => simp at hu) (by simp [Value.oneCell']) (by omega) (by unfold maxLen; omega) (by omega)
    (fun v' w' h1 h2 => h v' w' (by
      unfold OwnR
      rw [rowsR_snoc, List.length_append, hl]
      exact h1) ⟨h2.os, h2.tape, h2.output, h2.size, fun j hj => h2.block j hj (by simp)⟩)
  have hw : Region.wanted o (yielded #[o] a.tmps) = true := by simp [Region.wanted, hgd]
  rwa [if_pos hw] at hst
/-- Registrations behind a row of one's own. -/
theorem wp_behind {o : Oper} {a : Act} {w : World} {K : Act → World → Prop} {Q : Exit → Act → World → Prop} (s x : Operand)
    (ho : o.op = .call { callee := .builtin .append, args := #[s, x], argTypes := #[23, 23] })
    (B : Nat) (v : Value) (l : List (Int × Int)) (hs : a.eval s = v) (hO : OwnR B w v l) (hB : B ≤ w.heap.size) (A : Option Addr) (m c N : Nat) (bl : List (Int × Int)) (hx : a.eval x = .slice A m c) (hl : bl.length = m) (hR : RgA N w A bl) (hk : l.length + m ≤ 20)
    (h : ∀ v' w', OwnR B w' v' (l ++ bl) → w.grownBy w' v.ownBlock → K (a.put o.dst v') w') : o.wp Try.prog a w K Q := by
  obtain ⟨i0, hi0, hz0, hz1, hz2⟩ := info_parts infoReg
  cases A with
  | none =>
    have h0 : bl = [] := by
      rcases hR with h | ⟨b, o, hA, _⟩
      · exact h
      · cases hA
    subst h0
    have hm : m = 0 := hl.symm
    subst hm
    have hrun : ∀ ty, (Builtin.append_ #[23, 23] ty #[v, .slice none 0 c]).run Try.prog w = .ok v w := fun ty => by
      rcases hO.2 with ⟨rfl, _⟩ | ⟨g, cap, cur, rfl, _, _, hnc, _⟩
      · simp [Builtin.append_, run_underlying Try.underlying23, sizeOf, typeInfo, hi0, Builtin.lenOf, Builtin.firstCells]
      · simp [Builtin.append_, run_underlying Try.underlying23, sizeOf, typeInfo, hi0, Builtin.lenOf, Builtin.firstCells, hnc, storeCells]
    unfold Oper.wp execOp
    simp only [ho, resolve, invoke, builtin, Sem.run_bind, Sem.run_pure, Result.andThen_ok, List.map_toArray, List.map_cons, List.map_nil, hs, hx, hrun]
    exact h v w (by simpa using hO) (World.grownBy.refl w _)
  | some ad =>
    refine wp_append_own w s x 23 ho B 38 i0 _ 2 16 Try.underlying23 hi0 hz0 hz1 hz2 rfl (by omega) v l.length (rowsR l) hs hO ad m c (rowsR bl) hx (by rw [rowsR_len, hl]) hR.news (rows_one bl) (by unfold maxLen; omega) (by omega) hB fun v' w' h1 h2 _ => h v' w' ?_ h2
    unfold OwnR
    have e : rowsR (l ++ bl) = rowsR l ++ rowsR bl := by simp [rowsR]
    rw [e, List.length_append, hl]
    exact h1

theorem held_start {P : Program} {ops : Array Oper} {Q : Exit → Act → World → Prop} {id : Nat} {a : Act} {w0 w : World} (hb : Below w0.heap.size w0 w) (hm : P.follows .mixedOrders = true)
    (h : ∀ wd, Below w0.heap.size w0 wd → wpAnyH P .any ops Q (fun W => Below w0.heap.size w0 W) ops.size (Array.replicate ops.size false) a wd) : (Code.region id ops true).wp P Q a w :=
  wp_region_held hm (h _ ⟨hb.os, hb.tape, hb.output, hb.size, hb.block⟩)
set_option maxHeartbeats 4000000 in
set_option maxRecDepth 100000 in
theorem with_any (A : Option Addr) (len cap : Nat) (l : List (Int × Int)) (n x : Int) (w : World) (hS : SlR w A len cap l) (hm : len ≤ 6) :
    Calls Try.prog 53 #[.slice A len cap, .agg #[.int .i64 n, .int .u64 x]] w (CloneP w (withL l n x)) := by
  obtain ⟨hl, hcap, hnone, hR⟩ := hS
  have HR := Lib.hid hR; have Hl := Lib.hid hl; have HN := Lib.hid hnone
  obtain ⟨i0, hi0, hz0, hz1, hz2⟩ := info_parts infoReg
  have HI := Lib.hid (And.intro hi0 (And.intro hz0 (And.intro hz1 hz2)))
  clear hR hl hi0 hz0 hz1 hz2 hnone
  go_enter Try.func53, Try.ntmps53
  go_wp2
  go_loopg [5] 6 (fun m i wr => ∃ k : Nat, len - k ≤ m ∧ k ≤ len ∧ i = .int .i64 k ∧ Below (w.heap.size + 1) (w.alloc (.cells #[.int .i64 n, .int .u64 x] 38)) wr ∧ Hid (∀ j, j < k → ∀ q : Int × Int, l[j]? = some q → q.1 < n))
  case atStart => exact ⟨0, by omega, by omega, rfl, by simpa using Below.refl _ _, Lib.hid fun j hj => absurd hj (by omega)⟩
  case round =>
    obtain ⟨k, hmk, hk, rfl, hb, hno⟩ := hrel
    have hbw : Below w.heap.size w wr := (bel1 w _).trans (hb.mono (by omega))
    have hws : w.heap.size < wr.heap.size := by have := hb.size; simp at this; omega
    have hx : wr.heap[w.heap.size]? = some (.cells #[.int .i64 n, .int .u64 x] 38 (0, 0)) := (hb.block w.heap.size (by omega)).trans (heap_alloc_new w _)
    have x0 := cell_of_row wr w.heap.size 0 _ _ _ hx
    have x1 := cell_of_row wr w.heap.size 1 _ _ _ hx
    simp only [List.getElem?_toArray, List.getElem?_cons_succ, List.getElem?_cons_zero] at x0 x1
    have HB := Lib.hid hb; have HW := Lib.hid hbw
    clear hb hx hbw
    by_cases hlt : k < len
    · have hltz : (k : Int) < (len : Int) := by omega
      have hck : ¬ cap = k := by omega
      have hkc : ¬ cap < k := by omega
      obtain ⟨q, hq⟩ : ∃ q, l[k]? = some q := ⟨_, List.getElem?_eq_getElem (by rw [Hl.out]; exact hlt)⟩
      have hRw := (HR.out.below HW.out).mono (M := wr.heap.size) (by omega)
      rcases HR.out.below HW.out with h0 | ⟨b, o, rfl, hbN, hc⟩
      · rw [h0] at hq; simp at hq
      obtain ⟨c0, c1⟩ := hc k q hq
      have HQ := Lib.hid hq; have HRw := Lib.hid hRw
      clear hc hq hRw
      obtain ⟨q1, q2⟩ := q
      simp only at c0 c1
      have HOn : Hid ((some (⟨b, o, none⟩ : Addr)) = none → k = 0) := Lib.hid (fun h => by cases h)
      have HOl : Hid ((l.take k).length = k) := Lib.hid (by rw [List.length_take, Hl.out]; omega)
      have HOc : Hid (∀ c, some (⟨b, o, none⟩ : Addr) = some c → ∀ j u, (rowsR (l.take k))[j]? = some u → wr.cell? (c.add j) = some u) := Lib.hid (fun c hc j u hu => by cases hc; exact HRw.out.news j u (rowsR_take l k j u hu))
      have HOb : Hid (∀ c, some (⟨b, o, none⟩ : Addr) = some c → ∀ j u, (rowsR (l.take k))[j]? = some u → (c.add j).block < wr.heap.size) := Lib.hid (fun c hc j u hu => by cases hc; exact World.block_lt_of_cell? wr _ (HRw.out.news j u (rowsR_take l k j u hu)))
      by_cases hqn : q1 < n
      · go_wp2
        go_quiet (fail)
        go_wp2
        go_roundg (len - (k + 1))
        case measure => omega
        case rel => exact ⟨k + 1, Nat.le_refl _, by omega, by go_num, (below_drewN HB.out _), Lib.hid fun j hj q hq => by
          rcases Nat.lt_or_ge j k with h1 | h1
          · exact hno.out j h1 q hq
          · obtain rfl : j = k := by omega
            rw [HQ.out] at hq
            cases hq; assumption⟩
      · have hqn' : n ≤ q1 := by omega
        have hqd : decide (q1 < n) = false := by simpa using hqn
        have HA := Lib.hid (withL_at (n := n) (x := x) HQ.out hno.out hqn)
        have hl0 : decide (0 < len - k) = true := by simp; omega
        by_cases he : q1 = n
        · have hed : (q1 == n) = true := by simpa using he
          have HEq : Hid (withL l n x = l.take k ++ [(n, x)] ++ l.drop (k + 1)) := Lib.hid (by rw [HA.out, if_pos he])
          have HBl : Hid ((l.drop (k + 1)).length = len - k - 1) := Lib.hid (by rw [List.length_drop, Hl.out]; omega)
          clear he
          by_cases hc1 : cap - k = 1
          · have HBh : Hid (RgA wr.heap.size wr (some ⟨b, o + k * 2, none⟩) (l.drop (k + 1))) := Lib.hid (.inl (List.eq_nil_of_length_eq_zero (by rw [HBl.out]; omega)))
            go_wp2
            go_quiet (fail)
            go_wp2
            go_quiet (fail)
            go_wp2
            refine held_start (w0 := wr) (by first | exact below_drewN (Below.refl _ _) _ | exact below_drewN (below_drewN (Below.refl _ _) _) _ | exact Below.refl _ _) (by kernel_rfl) (fun wd hS => ?_)
            have hd0 : wd.cell? ⟨w.heap.size, 0, none⟩ = some (.int .i64 n) := (hS.cell (p := ⟨w.heap.size, 0, none⟩) hws).trans x0
            have hd1 : wd.cell? ⟨w.heap.size, 1, none⟩ = some (.int .u64 x) := (hS.cell (p := ⟨w.heap.size, 1, none⟩) hws).trans x1
            have hwd := hS.size
            refine wpAnyH_take (i := 0) (v := .slice (some ⟨b, o, none⟩) len cap) rfl (by kernel_rfl) (by kernel_rfl) (by kernel_rfl) (fun _ _ _ h => h) (Or.inl ⟨by rfl, ?_⟩) hS ?_
            · intro W hW; go_simp
            try simp only [List.getElem_toArray, List.getElem_cons_succ, List.getElem_cons_zero, Act.put, List.setIfInBounds_toArray, List.set]
            refine wpAnyH_take (i := 1) (v := .int .i64 (k : Int)) rfl (by kernel_rfl) (by kernel_rfl) (by kernel_rfl) (fun _ _ _ h => h) (Or.inl ⟨by rfl, ?_⟩) hS ?_
            · intro W hW; go_simp
            try simp only [List.getElem_toArray, List.getElem_cons_succ, List.getElem_cons_zero, Act.put, List.setIfInBounds_toArray, List.set]
            refine wpAnyH_take (i := 2) (v := .int .i64 (k : Int)) rfl (by kernel_rfl) (by kernel_rfl) (by kernel_rfl) (fun _ _ _ h => h) (Or.inl ⟨by rfl, ?_⟩) hS ?_
            · intro W hW; go_simp
            try simp only [List.getElem_toArray, List.getElem_cons_succ, List.getElem_cons_zero, Act.put, List.setIfInBounds_toArray, List.set]
            refine wpAnyH_take (i := 3) (v := .slice (some ⟨b, o, none⟩) k k) rfl (by kernel_rfl) (by kernel_rfl) (by kernel_rfl) (fun _ _ _ h => h) (Or.inl ⟨by rfl, ?_⟩) hS ?_
            · intro W hW; go_simp
            try simp only [List.getElem_toArray, List.getElem_cons_succ, List.getElem_cons_zero, Act.put, List.setIfInBounds_toArray, List.set]
            refine wpAnyH_take (i := 4) (v := .agg #[.int .i64 n, .int .u64 x]) rfl (by kernel_rfl) (by kernel_rfl) (by kernel_rfl) (fun _ _ _ h => h) (Or.inl ⟨by rfl, ?_⟩) hS ?_
            · intro W hW; have e0 := (hW.cell (p := ⟨w.heap.size, 0, none⟩) hws).trans x0; have e1 := (hW.cell (p := ⟨w.heap.size, 1, none⟩) hws).trans x1; go_simp
            try simp only [List.getElem_toArray, List.getElem_cons_succ, List.getElem_cons_zero, Act.put, List.setIfInBounds_toArray, List.set]
            refine wpAnyH_take (i := 7) (v := .slice (some ⟨b, o + k * 2, none⟩) (len - k - 1) 0) rfl (by kernel_rfl) (by kernel_rfl) (by kernel_rfl) (fun _ _ _ h => h) (Or.inl ⟨by rfl, ?_⟩) hS ?_
            · intro W hW; go_simp
            try simp only [List.getElem_toArray, List.getElem_cons_succ, List.getElem_cons_zero, Act.put, List.setIfInBounds_toArray, List.set]
            refine wpAnyH_one 5 _ rfl (by kernel_rfl) (by rfl) (fun K hK => ?_)
            go_simp
            have hS5 : Below wr.heap.size wr (wd.alloc (.cells #[.int .i64 n, .int .u64 x] 38)) := hS.alloc hS.size _
            refine hK _ _ hS5 ?_
            clear hK K
            try simp only [List.getElem_toArray, List.getElem_cons_succ, List.getElem_cons_zero, Act.put, List.setIfInBounds_toArray, List.set]
            refine wpAnyH_one 6 _ rfl (by kernel_rfl) (by rfl) (fun K hK => ?_)
            refine wp_fresh rfl (.tmp 43) (.tmp 45) rfl ((some ⟨b, o, none⟩)) k (l.take k) rfl (HOn.out) HOl.out (by omega) (fun c hc j u hu => (hS5.cell (p := c.add j) (HOb.out c hc j u hu)).trans (HOc.out c hc j u hu)) wd.heap.size 1 rfl (n, x) (by simp) (by simp) ?_
            intro v6 w6 ho6 hb6
            have hS6 : Below wr.heap.size wr w6 := hS5.trans (hb6.mono (by simp; omega))
            refine hK _ _ hS6 ?_
            clear hK K
            try simp only [List.getElem_toArray, List.getElem_cons_succ, List.getElem_cons_zero, Act.put, List.setIfInBounds_toArray, List.set]
            refine wpAnyH_one 8 _ rfl (by kernel_rfl) (by rfl) (fun K hK => ?_)
            refine wp_behind (.tmp 46) (.tmp 47) rfl _ v6 _ rfl ho6 hb6.size ((some ⟨b, o + k * 2, none⟩)) ((len - k - 1)) (0) wr.heap.size (l.drop (k + 1)) rfl HBl.out (HBh.out.below hS6) (by rw [List.length_append, HOl.out]; simp; omega) ?_
            intro v8 w8 ho8 hg8
            have hS8 : Below wr.heap.size wr w8 := below_grown hS6 (ho6.lower (B' := wr.heap.size) (by simp; omega)) hg8 hS6.size
            have hF := Lib.hid (And.intro (ho8.lower (B' := w.heap.size) (by simp; omega)) (stepB HW.out hS8))
            clear ho8 hg8 ho6
            refine hK _ _ hS8 ?_
            clear hK K
            try simp only [List.getElem_toArray, List.getElem_cons_succ, List.getElem_cons_zero, Act.put, List.setIfInBounds_toArray, List.set]
            refine wpAnyH_take (i := 9) (v := v8) rfl (by kernel_rfl) (by kernel_rfl) (by kernel_rfl) (fun _ _ _ h => h) (Or.inl ⟨by rfl, ?_⟩) hS8 ?_
            · intro W hW; go_simp
            try simp only [List.getElem_toArray, List.getElem_cons_succ, List.getElem_cons_zero, Act.put, List.setIfInBounds_toArray, List.set]
            refine wpAnyH_done (by kernel_rfl) ?_ _
            go_wp2
            go_ret
            exact ⟨v8, rfl, by rw [HEq.out]; exact hF.out.1, hF.out.2⟩
          · have HBh : Hid (RgA wr.heap.size wr (some ⟨b, o + k * 2 + 2, none⟩) (l.drop (k + 1))) := Lib.hid (by have := HRw.out.drop (k + 1); rwa [show o + (k + 1) * 2 = o + k * 2 + 2 by omega] at this)
            go_wp2
            go_quiet (fail)
            go_wp2
            go_quiet (fail)
            go_wp2
            refine held_start (w0 := wr) (by first | exact below_drewN (Below.refl _ _) _ | exact below_drewN (below_drewN (Below.refl _ _) _) _ | exact Below.refl _ _) (by kernel_rfl) (fun wd hS => ?_)
            have hd0 : wd.cell? ⟨w.heap.size, 0, none⟩ = some (.int .i64 n) := (hS.cell (p := ⟨w.heap.size, 0, none⟩) hws).trans x0
            have hd1 : wd.cell? ⟨w.heap.size, 1, none⟩ = some (.int .u64 x) := (hS.cell (p := ⟨w.heap.size, 1, none⟩) hws).trans x1
            have hwd := hS.size
            refine wpAnyH_take (i := 0) (v := .slice (some ⟨b, o, none⟩) len cap) rfl (by kernel_rfl) (by kernel_rfl) (by kernel_rfl) (fun _ _ _ h => h) (Or.inl ⟨by rfl, ?_⟩) hS ?_
            · intro W hW; go_simp
            try simp only [List.getElem_toArray, List.getElem_cons_succ, List.getElem_cons_zero, Act.put, List.setIfInBounds_toArray, List.set]
            refine wpAnyH_take (i := 1) (v := .int .i64 (k : Int)) rfl (by kernel_rfl) (by kernel_rfl) (by kernel_rfl) (fun _ _ _ h => h) (Or.inl ⟨by rfl, ?_⟩) hS ?_
            · intro W hW; go_simp
            try simp only [List.getElem_toArray, List.getElem_cons_succ, List.getElem_cons_zero, Act.put, List.setIfInBounds_toArray, List.set]
            refine wpAnyH_take (i := 2) (v := .int .i64 (k : Int)) rfl (by kernel_rfl) (by kernel_rfl) (by kernel_rfl) (fun _ _ _ h => h) (Or.inl ⟨by rfl, ?_⟩) hS ?_
            · intro W hW; go_simp
            try simp only [List.getElem_toArray, List.getElem_cons_succ, List.getElem_cons_zero, Act.put, List.setIfInBounds_toArray, List.set]
            refine wpAnyH_take (i := 3) (v := .slice (some ⟨b, o, none⟩) k k) rfl (by kernel_rfl) (by kernel_rfl) (by kernel_rfl) (fun _ _ _ h => h) (Or.inl ⟨by rfl, ?_⟩) hS ?_
            · intro W hW; go_simp
            try simp only [List.getElem_toArray, List.getElem_cons_succ, List.getElem_cons_zero, Act.put, List.setIfInBounds_toArray, List.set]
            refine wpAnyH_take (i := 4) (v := .agg #[.int .i64 n, .int .u64 x]) rfl (by kernel_rfl) (by kernel_rfl) (by kernel_rfl) (fun _ _ _ h => h) (Or.inl ⟨by rfl, ?_⟩) hS ?_
            · intro W hW; have e0 := (hW.cell (p := ⟨w.heap.size, 0, none⟩) hws).trans x0; have e1 := (hW.cell (p := ⟨w.heap.size, 1, none⟩) hws).trans x1; go_simp
            try simp only [List.getElem_toArray, List.getElem_cons_succ, List.getElem_cons_zero, Act.put, List.setIfInBounds_toArray, List.set]
            refine wpAnyH_take (i := 7) (v := .slice (some ⟨b, o + k * 2 + 2, none⟩) (len - k - 1) (cap - k - 1)) rfl (by kernel_rfl) (by kernel_rfl) (by kernel_rfl) (fun _ _ _ h => h) (Or.inl ⟨by rfl, ?_⟩) hS ?_
            · intro W hW; go_simp
            try simp only [List.getElem_toArray, List.getElem_cons_succ, List.getElem_cons_zero, Act.put, List.setIfInBounds_toArray, List.set]
            refine wpAnyH_one 5 _ rfl (by kernel_rfl) (by rfl) (fun K hK => ?_)
            go_simp
            have hS5 : Below wr.heap.size wr (wd.alloc (.cells #[.int .i64 n, .int .u64 x] 38)) := hS.alloc hS.size _
            refine hK _ _ hS5 ?_
            clear hK K
            try simp only [List.getElem_toArray, List.getElem_cons_succ, List.getElem_cons_zero, Act.put, List.setIfInBounds_toArray, List.set]
            refine wpAnyH_one 6 _ rfl (by kernel_rfl) (by rfl) (fun K hK => ?_)
            refine wp_fresh rfl (.tmp 43) (.tmp 45) rfl ((some ⟨b, o, none⟩)) k (l.take k) rfl (HOn.out) HOl.out (by omega) (fun c hc j u hu => (hS5.cell (p := c.add j) (HOb.out c hc j u hu)).trans (HOc.out c hc j u hu)) wd.heap.size 1 rfl (n, x) (by simp) (by simp) ?_
            intro v6 w6 ho6 hb6
            have hS6 : Below wr.heap.size wr w6 := hS5.trans (hb6.mono (by simp; omega))
            refine hK _ _ hS6 ?_
            clear hK K
            try simp only [List.getElem_toArray, List.getElem_cons_succ, List.getElem_cons_zero, Act.put, List.setIfInBounds_toArray, List.set]
            refine wpAnyH_one 8 _ rfl (by kernel_rfl) (by rfl) (fun K hK => ?_)
            refine wp_behind (.tmp 46) (.tmp 47) rfl _ v6 _ rfl ho6 hb6.size ((some ⟨b, o + k * 2 + 2, none⟩)) ((len - k - 1)) ((cap - k - 1)) wr.heap.size (l.drop (k + 1)) rfl HBl.out (HBh.out.below hS6) (by rw [List.length_append, HOl.out]; simp; omega) ?_
            intro v8 w8 ho8 hg8
            have hS8 : Below wr.heap.size wr w8 := below_grown hS6 (ho6.lower (B' := wr.heap.size) (by simp; omega)) hg8 hS6.size
            have hF := Lib.hid (And.intro (ho8.lower (B' := w.heap.size) (by simp; omega)) (stepB HW.out hS8))
            clear ho8 hg8 ho6
            refine hK _ _ hS8 ?_
            clear hK K
            try simp only [List.getElem_toArray, List.getElem_cons_succ, List.getElem_cons_zero, Act.put, List.setIfInBounds_toArray, List.set]
            refine wpAnyH_take (i := 9) (v := v8) rfl (by kernel_rfl) (by kernel_rfl) (by kernel_rfl) (fun _ _ _ h => h) (Or.inl ⟨by rfl, ?_⟩) hS8 ?_
            · intro W hW; go_simp
            try simp only [List.getElem_toArray, List.getElem_cons_succ, List.getElem_cons_zero, Act.put, List.setIfInBounds_toArray, List.set]
            refine wpAnyH_done (by kernel_rfl) ?_ _
            go_wp2
            go_ret
            exact ⟨v8, rfl, by rw [HEq.out]; exact hF.out.1, hF.out.2⟩
        · have hed : (q1 == n) = false := by simpa using he
          have HEq : Hid (withL l n x = l.take k ++ [(n, x)] ++ l.drop k) := Lib.hid (by rw [HA.out, if_neg he])
          have HBl : Hid ((l.drop k).length = len - k) := Lib.hid (by rw [List.length_drop, Hl.out])
          have HBh : Hid (RgA wr.heap.size wr (some ⟨b, o + k * 2, none⟩) (l.drop k)) := Lib.hid (HRw.out.drop k)
          clear he
          go_wp2
          go_quiet (fail)
          go_wp2
          go_quiet (fail)
          go_wp2
          refine held_start (w0 := wr) (by first | exact below_drewN (Below.refl _ _) _ | exact below_drewN (below_drewN (Below.refl _ _) _) _ | exact Below.refl _ _) (by kernel_rfl) (fun wd hS => ?_)
          have hd0 : wd.cell? ⟨w.heap.size, 0, none⟩ = some (.int .i64 n) := (hS.cell (p := ⟨w.heap.size, 0, none⟩) hws).trans x0
          have hd1 : wd.cell? ⟨w.heap.size, 1, none⟩ = some (.int .u64 x) := (hS.cell (p := ⟨w.heap.size, 1, none⟩) hws).trans x1
          have hwd := hS.size
          refine wpAnyH_take (i := 0) (v := .slice (some ⟨b, o, none⟩) len cap) rfl (by kernel_rfl) (by kernel_rfl) (by kernel_rfl) (fun _ _ _ h => h) (Or.inl ⟨by rfl, ?_⟩) hS ?_
          · intro W hW; go_simp
          try simp only [List.getElem_toArray, List.getElem_cons_succ, List.getElem_cons_zero, Act.put, List.setIfInBounds_toArray, List.set]
          refine wpAnyH_take (i := 1) (v := .int .i64 (k : Int)) rfl (by kernel_rfl) (by kernel_rfl) (by kernel_rfl) (fun _ _ _ h => h) (Or.inl ⟨by rfl, ?_⟩) hS ?_
          · intro W hW; go_simp
          try simp only [List.getElem_toArray, List.getElem_cons_succ, List.getElem_cons_zero, Act.put, List.setIfInBounds_toArray, List.set]
          refine wpAnyH_take (i := 2) (v := .int .i64 (k : Int)) rfl (by kernel_rfl) (by kernel_rfl) (by kernel_rfl) (fun _ _ _ h => h) (Or.inl ⟨by rfl, ?_⟩) hS ?_
          · intro W hW; go_simp
          try simp only [List.getElem_toArray, List.getElem_cons_succ, List.getElem_cons_zero, Act.put, List.setIfInBounds_toArray, List.set]
          refine wpAnyH_take (i := 3) (v := .slice (some ⟨b, o, none⟩) k k) rfl (by kernel_rfl) (by kernel_rfl) (by kernel_rfl) (fun _ _ _ h => h) (Or.inl ⟨by rfl, ?_⟩) hS ?_
          · intro W hW; go_simp
          try simp only [List.getElem_toArray, List.getElem_cons_succ, List.getElem_cons_zero, Act.put, List.setIfInBounds_toArray, List.set]
          refine wpAnyH_take (i := 4) (v := .agg #[.int .i64 n, .int .u64 x]) rfl (by kernel_rfl) (by kernel_rfl) (by kernel_rfl) (fun _ _ _ h => h) (Or.inl ⟨by rfl, ?_⟩) hS ?_
          · intro W hW; have e0 := (hW.cell (p := ⟨w.heap.size, 0, none⟩) hws).trans x0; have e1 := (hW.cell (p := ⟨w.heap.size, 1, none⟩) hws).trans x1; go_simp
          try simp only [List.getElem_toArray, List.getElem_cons_succ, List.getElem_cons_zero, Act.put, List.setIfInBounds_toArray, List.set]
          refine wpAnyH_take (i := 7) (v := .slice (some ⟨b, o + k * 2, none⟩) (len - k) (cap - k)) rfl (by kernel_rfl) (by kernel_rfl) (by kernel_rfl) (fun _ _ _ h => h) (Or.inl ⟨by rfl, ?_⟩) hS ?_
          · intro W hW; go_simp
          try simp only [List.getElem_toArray, List.getElem_cons_succ, List.getElem_cons_zero, Act.put, List.setIfInBounds_toArray, List.set]
          refine wpAnyH_one 5 _ rfl (by kernel_rfl) (by rfl) (fun K hK => ?_)
          go_simp
          have hS5 : Below wr.heap.size wr (wd.alloc (.cells #[.int .i64 n, .int .u64 x] 38)) := hS.alloc hS.size _
          refine hK _ _ hS5 ?_
          clear hK K
          try simp only [List.getElem_toArray, List.getElem_cons_succ, List.getElem_cons_zero, Act.put, List.setIfInBounds_toArray, List.set]
          refine wpAnyH_one 6 _ rfl (by kernel_rfl) (by rfl) (fun K hK => ?_)
          refine wp_fresh rfl (.tmp 43) (.tmp 45) rfl ((some ⟨b, o, none⟩)) k (l.take k) rfl (HOn.out) HOl.out (by omega) (fun c hc j u hu => (hS5.cell (p := c.add j) (HOb.out c hc j u hu)).trans (HOc.out c hc j u hu)) wd.heap.size 1 rfl (n, x) (by simp) (by simp) ?_
          intro v6 w6 ho6 hb6
          have hS6 : Below wr.heap.size wr w6 := hS5.trans (hb6.mono (by simp; omega))
          refine hK _ _ hS6 ?_
          clear hK K
          try simp only [List.getElem_toArray, List.getElem_cons_succ, List.getElem_cons_zero, Act.put, List.setIfInBounds_toArray, List.set]
          refine wpAnyH_one 8 _ rfl (by kernel_rfl) (by rfl) (fun K hK => ?_)
          refine wp_behind (.tmp 46) (.tmp 47) rfl _ v6 _ rfl ho6 hb6.size ((some ⟨b, o + k * 2, none⟩)) ((len - k)) ((cap - k)) wr.heap.size (l.drop k) rfl HBl.out (HBh.out.below hS6) (by rw [List.length_append, HOl.out]; simp; omega) ?_
          intro v8 w8 ho8 hg8
          have hS8 : Below wr.heap.size wr w8 := below_grown hS6 (ho6.lower (B' := wr.heap.size) (by simp; omega)) hg8 hS6.size
          have hF := Lib.hid (And.intro (ho8.lower (B' := w.heap.size) (by simp; omega)) (stepB HW.out hS8))
          clear ho8 hg8 ho6
          refine hK _ _ hS8 ?_
          clear hK K
          try simp only [List.getElem_toArray, List.getElem_cons_succ, List.getElem_cons_zero, Act.put, List.setIfInBounds_toArray, List.set]
          refine wpAnyH_take (i := 9) (v := v8) rfl (by kernel_rfl) (by kernel_rfl) (by kernel_rfl) (fun _ _ _ h => h) (Or.inl ⟨by rfl, ?_⟩) hS8 ?_
          · intro W hW; go_simp
          try simp only [List.getElem_toArray, List.getElem_cons_succ, List.getElem_cons_zero, Act.put, List.setIfInBounds_toArray, List.set]
          refine wpAnyH_done (by kernel_rfl) ?_ _
          go_wp2
          go_ret
          exact ⟨v8, rfl, by rw [HEq.out]; exact hF.out.1, hF.out.2⟩
    · obtain rfl : len = k := by omega
      have hke : ¬ ((len : Int) < (len : Int)) := by omega
      have HOl : Hid ((l.take len).length = len) := Lib.hid (by rw [List.length_take, Hl.out]; omega)
      have HEq : Hid (withL l n x = l.take len ++ [(n, x)] ++ []) := Lib.hid (by
        rw [withL_end (fun j hj q hq => hno.out j (by rw [Hl.out] at hj; exact hj) q hq), List.take_of_length_le (by rw [Hl.out]; exact Nat.le_refl _), List.append_nil])
      have hkc : ¬ cap < len := by omega
      cases A with
      | none =>
        have hc0 : cap = 0 := HN.out rfl
        subst hc0
        obtain rfl : len = 0 := by omega
        have HOn : Hid ((none : Option Addr) = none → 0 = 0) := Lib.hid (fun _ => rfl)
        have HOc : Hid (∀ c, (none : Option Addr) = some c → ∀ j u, (rowsR (l.take 0))[j]? = some u → wr.cell? (c.add j) = some u) := Lib.hid (fun c hc => by cases hc)
        have HOb : Hid (∀ c, (none : Option Addr) = some c → ∀ j u, (rowsR (l.take 0))[j]? = some u → (c.add j).block < wr.heap.size) := Lib.hid (fun c hc => by cases hc)
        have HBl : Hid (([] : List (Int × Int)).length = 0) := Lib.hid rfl
        have HBh : Hid (RgA wr.heap.size wr none []) := Lib.hid (.inl rfl)
        go_wp2
        go_quiet (fail)
        go_wp2
        go_quiet (fail)
        go_wp2
        refine held_start (w0 := wr) (by first | exact below_drewN (Below.refl _ _) _ | exact below_drewN (below_drewN (Below.refl _ _) _) _ | exact Below.refl _ _) (by kernel_rfl) (fun wd hS => ?_)
        have hd0 : wd.cell? ⟨w.heap.size, 0, none⟩ = some (.int .i64 n) := (hS.cell (p := ⟨w.heap.size, 0, none⟩) hws).trans x0
        have hd1 : wd.cell? ⟨w.heap.size, 1, none⟩ = some (.int .u64 x) := (hS.cell (p := ⟨w.heap.size, 1, none⟩) hws).trans x1
        have hwd := hS.size
        refine wpAnyH_take (i := 0) (v := .slice none 0 0) rfl (by kernel_rfl) (by kernel_rfl) (by kernel_rfl) (fun _ _ _ h => h) (Or.inl ⟨by rfl, ?_⟩) hS ?_
        · intro W hW; go_simp
        try simp only [List.getElem_toArray, List.getElem_cons_succ, List.getElem_cons_zero, Act.put, List.setIfInBounds_toArray, List.set]
        refine wpAnyH_take (i := 1) (v := .int .i64 (0 : Int)) rfl (by kernel_rfl) (by kernel_rfl) (by kernel_rfl) (fun _ _ _ h => h) (Or.inl ⟨by rfl, ?_⟩) hS ?_
        · intro W hW; go_simp
        try simp only [List.getElem_toArray, List.getElem_cons_succ, List.getElem_cons_zero, Act.put, List.setIfInBounds_toArray, List.set]
        refine wpAnyH_take (i := 2) (v := .int .i64 (0 : Int)) rfl (by kernel_rfl) (by kernel_rfl) (by kernel_rfl) (fun _ _ _ h => h) (Or.inl ⟨by rfl, ?_⟩) hS ?_
        · intro W hW; go_simp
        try simp only [List.getElem_toArray, List.getElem_cons_succ, List.getElem_cons_zero, Act.put, List.setIfInBounds_toArray, List.set]
        refine wpAnyH_take (i := 3) (v := .slice none 0 0) rfl (by kernel_rfl) (by kernel_rfl) (by kernel_rfl) (fun _ _ _ h => h) (Or.inl ⟨by rfl, ?_⟩) hS ?_
        · intro W hW; go_simp
        try simp only [List.getElem_toArray, List.getElem_cons_succ, List.getElem_cons_zero, Act.put, List.setIfInBounds_toArray, List.set]
        refine wpAnyH_take (i := 4) (v := .agg #[.int .i64 n, .int .u64 x]) rfl (by kernel_rfl) (by kernel_rfl) (by kernel_rfl) (fun _ _ _ h => h) (Or.inl ⟨by rfl, ?_⟩) hS ?_
        · intro W hW; have e0 := (hW.cell (p := ⟨w.heap.size, 0, none⟩) hws).trans x0; have e1 := (hW.cell (p := ⟨w.heap.size, 1, none⟩) hws).trans x1; go_simp
        try simp only [List.getElem_toArray, List.getElem_cons_succ, List.getElem_cons_zero, Act.put, List.setIfInBounds_toArray, List.set]
        refine wpAnyH_take (i := 7) (v := .slice none 0 0) rfl (by kernel_rfl) (by kernel_rfl) (by kernel_rfl) (fun _ _ _ h => h) (Or.inl ⟨by rfl, ?_⟩) hS ?_
        · intro W hW; go_simp
        try simp only [List.getElem_toArray, List.getElem_cons_succ, List.getElem_cons_zero, Act.put, List.setIfInBounds_toArray, List.set]
        refine wpAnyH_one 5 _ rfl (by kernel_rfl) (by rfl) (fun K hK => ?_)
        go_simp
        have hS5 : Below wr.heap.size wr (wd.alloc (.cells #[.int .i64 n, .int .u64 x] 38)) := hS.alloc hS.size _
        refine hK _ _ hS5 ?_
        clear hK K
        try simp only [List.getElem_toArray, List.getElem_cons_succ, List.getElem_cons_zero, Act.put, List.setIfInBounds_toArray, List.set]
        refine wpAnyH_one 6 _ rfl (by kernel_rfl) (by rfl) (fun K hK => ?_)
        refine wp_fresh rfl (.tmp 43) (.tmp 45) rfl (none) 0 (l.take 0) rfl (fun _ => rfl) HOl.out (by omega) (fun c hc j u hu => (hS5.cell (p := c.add j) (HOb.out c hc j u hu)).trans (HOc.out c hc j u hu)) wd.heap.size 1 rfl (n, x) (by simp) (by simp) ?_
        intro v6 w6 ho6 hb6
        have hS6 : Below wr.heap.size wr w6 := hS5.trans (hb6.mono (by simp; omega))
        refine hK _ _ hS6 ?_
        clear hK K
        try simp only [List.getElem_toArray, List.getElem_cons_succ, List.getElem_cons_zero, Act.put, List.setIfInBounds_toArray, List.set]
        refine wpAnyH_one 8 _ rfl (by kernel_rfl) (by rfl) (fun K hK => ?_)
        refine wp_behind (.tmp 46) (.tmp 47) rfl _ v6 _ rfl ho6 hb6.size (none) (0) (0) wr.heap.size ([]) rfl HBl.out (HBh.out.below hS6) (by rw [List.length_append, HOl.out]; simp) ?_
        intro v8 w8 ho8 hg8
        have hS8 : Below wr.heap.size wr w8 := below_grown hS6 (ho6.lower (B' := wr.heap.size) (by simp; omega)) hg8 hS6.size
        have hF := Lib.hid (And.intro (ho8.lower (B' := w.heap.size) (by simp; omega)) (stepB HW.out hS8))
        clear ho8 hg8 ho6
        refine hK _ _ hS8 ?_
        clear hK K
        try simp only [List.getElem_toArray, List.getElem_cons_succ, List.getElem_cons_zero, Act.put, List.setIfInBounds_toArray, List.set]
        refine wpAnyH_take (i := 9) (v := v8) rfl (by kernel_rfl) (by kernel_rfl) (by kernel_rfl) (fun _ _ _ h => h) (Or.inl ⟨by rfl, ?_⟩) hS8 ?_
        · intro W hW; go_simp
        try simp only [List.getElem_toArray, List.getElem_cons_succ, List.getElem_cons_zero, Act.put, List.setIfInBounds_toArray, List.set]
        refine wpAnyH_done (by kernel_rfl) ?_ _
        go_wp2
        go_ret
        exact ⟨v8, rfl, by rw [HEq.out]; exact hF.out.1, hF.out.2⟩
      | some ad =>
        have hRw := (HR.out.below HW.out).mono (M := wr.heap.size) (by omega)
        have HRw := Lib.hid hRw
        clear hRw
        have HOn : Hid ((some ad) = none → len = 0) := Lib.hid (fun h => by cases h)
        have HOc : Hid (∀ c, (some ad) = some c → ∀ j u, (rowsR (l.take len))[j]? = some u → wr.cell? (c.add j) = some u) := Lib.hid (fun c hc j u hu => by cases hc; exact HRw.out.news j u (rowsR_take l len j u hu))
        have HOb : Hid (∀ c, (some ad) = some c → ∀ j u, (rowsR (l.take len))[j]? = some u → (c.add j).block < wr.heap.size) := Lib.hid (fun c hc j u hu => by cases hc; exact World.block_lt_of_cell? wr _ (HRw.out.news j u (rowsR_take l len j u hu)))
        have HBl : Hid (([] : List (Int × Int)).length = 0) := Lib.hid rfl
        by_cases hck : cap = len
        · subst hck
          have HBh : Hid (RgA wr.heap.size wr (some ad) []) := Lib.hid (.inl rfl)
          go_wp2
          go_quiet (fail)
          go_wp2
          go_quiet (fail)
          go_wp2
          refine held_start (w0 := wr) (by first | exact below_drewN (Below.refl _ _) _ | exact below_drewN (below_drewN (Below.refl _ _) _) _ | exact Below.refl _ _) (by kernel_rfl) (fun wd hS => ?_)
          have hd0 : wd.cell? ⟨w.heap.size, 0, none⟩ = some (.int .i64 n) := (hS.cell (p := ⟨w.heap.size, 0, none⟩) hws).trans x0
          have hd1 : wd.cell? ⟨w.heap.size, 1, none⟩ = some (.int .u64 x) := (hS.cell (p := ⟨w.heap.size, 1, none⟩) hws).trans x1
          have hwd := hS.size
          refine wpAnyH_take (i := 0) (v := .slice (some ad) cap cap) rfl (by kernel_rfl) (by kernel_rfl) (by kernel_rfl) (fun _ _ _ h => h) (Or.inl ⟨by rfl, ?_⟩) hS ?_
          · intro W hW; go_simp
          try simp only [List.getElem_toArray, List.getElem_cons_succ, List.getElem_cons_zero, Act.put, List.setIfInBounds_toArray, List.set]
          refine wpAnyH_take (i := 1) (v := .int .i64 (cap : Int)) rfl (by kernel_rfl) (by kernel_rfl) (by kernel_rfl) (fun _ _ _ h => h) (Or.inl ⟨by rfl, ?_⟩) hS ?_
          · intro W hW; go_simp
          try simp only [List.getElem_toArray, List.getElem_cons_succ, List.getElem_cons_zero, Act.put, List.setIfInBounds_toArray, List.set]
          refine wpAnyH_take (i := 2) (v := .int .i64 (cap : Int)) rfl (by kernel_rfl) (by kernel_rfl) (by kernel_rfl) (fun _ _ _ h => h) (Or.inl ⟨by rfl, ?_⟩) hS ?_
          · intro W hW; go_simp
          try simp only [List.getElem_toArray, List.getElem_cons_succ, List.getElem_cons_zero, Act.put, List.setIfInBounds_toArray, List.set]
          refine wpAnyH_take (i := 3) (v := .slice (some ad) cap cap) rfl (by kernel_rfl) (by kernel_rfl) (by kernel_rfl) (fun _ _ _ h => h) (Or.inl ⟨by rfl, ?_⟩) hS ?_
          · intro W hW; go_simp
          try simp only [List.getElem_toArray, List.getElem_cons_succ, List.getElem_cons_zero, Act.put, List.setIfInBounds_toArray, List.set]
          refine wpAnyH_take (i := 4) (v := .agg #[.int .i64 n, .int .u64 x]) rfl (by kernel_rfl) (by kernel_rfl) (by kernel_rfl) (fun _ _ _ h => h) (Or.inl ⟨by rfl, ?_⟩) hS ?_
          · intro W hW; have e0 := (hW.cell (p := ⟨w.heap.size, 0, none⟩) hws).trans x0; have e1 := (hW.cell (p := ⟨w.heap.size, 1, none⟩) hws).trans x1; go_simp
          try simp only [List.getElem_toArray, List.getElem_cons_succ, List.getElem_cons_zero, Act.put, List.setIfInBounds_toArray, List.set]
          refine wpAnyH_take (i := 7) (v := .slice (some ad) 0 0) rfl (by kernel_rfl) (by kernel_rfl) (by kernel_rfl) (fun _ _ _ h => h) (Or.inl ⟨by rfl, ?_⟩) hS ?_
          · intro W hW; go_simp
          try simp only [List.getElem_toArray, List.getElem_cons_succ, List.getElem_cons_zero, Act.put, List.setIfInBounds_toArray, List.set]
          refine wpAnyH_one 5 _ rfl (by kernel_rfl) (by rfl) (fun K hK => ?_)
          go_simp
          have hS5 : Below wr.heap.size wr (wd.alloc (.cells #[.int .i64 n, .int .u64 x] 38)) := hS.alloc hS.size _
          refine hK _ _ hS5 ?_
          clear hK K
          try simp only [List.getElem_toArray, List.getElem_cons_succ, List.getElem_cons_zero, Act.put, List.setIfInBounds_toArray, List.set]
          refine wpAnyH_one 6 _ rfl (by kernel_rfl) (by rfl) (fun K hK => ?_)
          refine wp_fresh rfl (.tmp 43) (.tmp 45) rfl ((some ad)) cap (l.take cap) rfl (HOn.out) HOl.out (by omega) (fun c hc j u hu => (hS5.cell (p := c.add j) (HOb.out c hc j u hu)).trans (HOc.out c hc j u hu)) wd.heap.size 1 rfl (n, x) (by simp) (by simp) ?_
          intro v6 w6 ho6 hb6
          have hS6 : Below wr.heap.size wr w6 := hS5.trans (hb6.mono (by simp; omega))
          refine hK _ _ hS6 ?_
          clear hK K
          try simp only [List.getElem_toArray, List.getElem_cons_succ, List.getElem_cons_zero, Act.put, List.setIfInBounds_toArray, List.set]
          refine wpAnyH_one 8 _ rfl (by kernel_rfl) (by rfl) (fun K hK => ?_)
          refine wp_behind (.tmp 46) (.tmp 47) rfl _ v6 _ rfl ho6 hb6.size ((some ad)) (0) (0) wr.heap.size ([]) rfl HBl.out (HBh.out.below hS6) (by rw [List.length_append, HOl.out]; simp; omega) ?_
          intro v8 w8 ho8 hg8
          have hS8 : Below wr.heap.size wr w8 := below_grown hS6 (ho6.lower (B' := wr.heap.size) (by simp; omega)) hg8 hS6.size
          have hF := Lib.hid (And.intro (ho8.lower (B' := w.heap.size) (by simp; omega)) (stepB HW.out hS8))
          clear ho8 hg8 ho6
          refine hK _ _ hS8 ?_
          clear hK K
          try simp only [List.getElem_toArray, List.getElem_cons_succ, List.getElem_cons_zero, Act.put, List.setIfInBounds_toArray, List.set]
          refine wpAnyH_take (i := 9) (v := v8) rfl (by kernel_rfl) (by kernel_rfl) (by kernel_rfl) (fun _ _ _ h => h) (Or.inl ⟨by rfl, ?_⟩) hS8 ?_
          · intro W hW; go_simp
          try simp only [List.getElem_toArray, List.getElem_cons_succ, List.getElem_cons_zero, Act.put, List.setIfInBounds_toArray, List.set]
          refine wpAnyH_done (by kernel_rfl) ?_ _
          go_wp2
          go_ret
          exact ⟨v8, rfl, by rw [HEq.out]; exact hF.out.1, hF.out.2⟩
        · have HBh : Hid (RgA wr.heap.size wr (some (ad.add (len * 2))) []) := Lib.hid (.inl rfl)
          go_wp2
          go_quiet (fail)
          go_wp2
          go_quiet (fail)
          go_wp2
          refine held_start (w0 := wr) (by first | exact below_drewN (Below.refl _ _) _ | exact below_drewN (below_drewN (Below.refl _ _) _) _ | exact Below.refl _ _) (by kernel_rfl) (fun wd hS => ?_)
          have hd0 : wd.cell? ⟨w.heap.size, 0, none⟩ = some (.int .i64 n) := (hS.cell (p := ⟨w.heap.size, 0, none⟩) hws).trans x0
          have hd1 : wd.cell? ⟨w.heap.size, 1, none⟩ = some (.int .u64 x) := (hS.cell (p := ⟨w.heap.size, 1, none⟩) hws).trans x1
          have hwd := hS.size
          refine wpAnyH_take (i := 0) (v := .slice (some ad) len cap) rfl (by kernel_rfl) (by kernel_rfl) (by kernel_rfl) (fun _ _ _ h => h) (Or.inl ⟨by rfl, ?_⟩) hS ?_
          · intro W hW; go_simp
          try simp only [List.getElem_toArray, List.getElem_cons_succ, List.getElem_cons_zero, Act.put, List.setIfInBounds_toArray, List.set]
          refine wpAnyH_take (i := 1) (v := .int .i64 (len : Int)) rfl (by kernel_rfl) (by kernel_rfl) (by kernel_rfl) (fun _ _ _ h => h) (Or.inl ⟨by rfl, ?_⟩) hS ?_
          · intro W hW; go_simp
          try simp only [List.getElem_toArray, List.getElem_cons_succ, List.getElem_cons_zero, Act.put, List.setIfInBounds_toArray, List.set]
          refine wpAnyH_take (i := 2) (v := .int .i64 (len : Int)) rfl (by kernel_rfl) (by kernel_rfl) (by kernel_rfl) (fun _ _ _ h => h) (Or.inl ⟨by rfl, ?_⟩) hS ?_
          · intro W hW; go_simp
          try simp only [List.getElem_toArray, List.getElem_cons_succ, List.getElem_cons_zero, Act.put, List.setIfInBounds_toArray, List.set]
          refine wpAnyH_take (i := 3) (v := .slice (some ad) len len) rfl (by kernel_rfl) (by kernel_rfl) (by kernel_rfl) (fun _ _ _ h => h) (Or.inl ⟨by rfl, ?_⟩) hS ?_
          · intro W hW; go_simp
          try simp only [List.getElem_toArray, List.getElem_cons_succ, List.getElem_cons_zero, Act.put, List.setIfInBounds_toArray, List.set]
          refine wpAnyH_take (i := 4) (v := .agg #[.int .i64 n, .int .u64 x]) rfl (by kernel_rfl) (by kernel_rfl) (by kernel_rfl) (fun _ _ _ h => h) (Or.inl ⟨by rfl, ?_⟩) hS ?_
          · intro W hW; have e0 := (hW.cell (p := ⟨w.heap.size, 0, none⟩) hws).trans x0; have e1 := (hW.cell (p := ⟨w.heap.size, 1, none⟩) hws).trans x1; go_simp
          try simp only [List.getElem_toArray, List.getElem_cons_succ, List.getElem_cons_zero, Act.put, List.setIfInBounds_toArray, List.set]
          refine wpAnyH_take (i := 7) (v := .slice (some (ad.add (len * 2))) 0 (cap - len)) rfl (by kernel_rfl) (by kernel_rfl) (by kernel_rfl) (fun _ _ _ h => h) (Or.inl ⟨by rfl, ?_⟩) hS ?_
          · intro W hW; go_simp
          try simp only [List.getElem_toArray, List.getElem_cons_succ, List.getElem_cons_zero, Act.put, List.setIfInBounds_toArray, List.set]
          refine wpAnyH_one 5 _ rfl (by kernel_rfl) (by rfl) (fun K hK => ?_)
          go_simp
          have hS5 : Below wr.heap.size wr (wd.alloc (.cells #[.int .i64 n, .int .u64 x] 38)) := hS.alloc hS.size _
          refine hK _ _ hS5 ?_
          clear hK K
          try simp only [List.getElem_toArray, List.getElem_cons_succ, List.getElem_cons_zero, Act.put, List.setIfInBounds_toArray, List.set]
          refine wpAnyH_one 6 _ rfl (by kernel_rfl) (by rfl) (fun K hK => ?_)
          refine wp_fresh rfl (.tmp 43) (.tmp 45) rfl ((some ad)) len (l.take len) rfl (HOn.out) HOl.out (by omega) (fun c hc j u hu => (hS5.cell (p := c.add j) (HOb.out c hc j u hu)).trans (HOc.out c hc j u hu)) wd.heap.size 1 rfl (n, x) (by simp) (by simp) ?_
          intro v6 w6 ho6 hb6
          have hS6 : Below wr.heap.size wr w6 := hS5.trans (hb6.mono (by simp; omega))
          refine hK _ _ hS6 ?_
          clear hK K
          try simp only [List.getElem_toArray, List.getElem_cons_succ, List.getElem_cons_zero, Act.put, List.setIfInBounds_toArray, List.set]
          refine wpAnyH_one 8 _ rfl (by kernel_rfl) (by rfl) (fun K hK => ?_)
          refine wp_behind (.tmp 46) (.tmp 47) rfl _ v6 _ rfl ho6 hb6.size ((some (ad.add (len * 2)))) (0) ((cap - len)) wr.heap.size ([]) rfl HBl.out (HBh.out.below hS6) (by rw [List.length_append, HOl.out]; simp; omega) ?_
          intro v8 w8 ho8 hg8
          have hS8 : Below wr.heap.size wr w8 := below_grown hS6 (ho6.lower (B' := wr.heap.size) (by simp; omega)) hg8 hS6.size
          have hF := Lib.hid (And.intro (ho8.lower (B' := w.heap.size) (by simp; omega)) (stepB HW.out hS8))
          clear ho8 hg8 ho6
          refine hK _ _ hS8 ?_
          clear hK K
          try simp only [List.getElem_toArray, List.getElem_cons_succ, List.getElem_cons_zero, Act.put, List.setIfInBounds_toArray, List.set]
          refine wpAnyH_take (i := 9) (v := v8) rfl (by kernel_rfl) (by kernel_rfl) (by kernel_rfl) (fun _ _ _ h => h) (Or.inl ⟨by rfl, ?_⟩) hS8 ?_
          · intro W hW; go_simp
          try simp only [List.getElem_toArray, List.getElem_cons_succ, List.getElem_cons_zero, Act.put, List.setIfInBounds_toArray, List.set]
          refine wpAnyH_done (by kernel_rfl) ?_ _
          go_wp2
          go_ret
          exact ⟨v8, rfl, by rw [HEq.out]; exact hF.out.1, hF.out.2⟩
end Go.Proofs.Ytkpogmigfjmacaa
