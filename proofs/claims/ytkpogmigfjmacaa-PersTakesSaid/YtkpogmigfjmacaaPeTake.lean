/-
  A preempt that takes the reservation, plain.
-/
import Derived.Test.YtkpogmigfjmacaaPeJoin
set_option linter.unusedSimpArgs false
set_option linter.unusedVariables false
namespace Go.Proofs.Ytkpogmigfjmacaa
open Go.RowKit

section
variable {g h t : Int} {p : Bool} {l : List (Int × Int)} (hs : soundB l h t = true) (ht0 : t ≠ 0) (ht6 : t ≤ 6) {n ty : Int}
include ht0 ht6 in
theorem act_take (hk : keyL l n ≠ 0) (hty : isTyB ty = true) : actL ⟨g, l, h, t, p⟩ n 4 ty (keyL l n) (keyL l h) false = (⟨nextG g, leftOf (namedB true n (keyL l h)) l, n, ty, p⟩, 0, goneOf (namedB true n (keyL l h)) l) := by
  have hreg : ¬ regB l n = false := by simp [regB, hk]
  have hto : ofAllB t = false := by simp [ofAllB]; omega
  have htk : takesB l h t (keyL l h) = true := by simp [takesB, resB, hto, ht0]
  unfold actL
  rw [if_neg (by omega), if_neg (by omega), if_neg hreg, if_pos rfl, if_neg (by omega), if_neg (by omega), if_neg (by omega)]
  unfold preL
  rw [if_neg (fun e => absurd (e.2.symm.trans htk) (by decide)), if_neg (fun e => absurd (e.2.symm.trans hty) (by decide)), if_pos htk]
  rfl
theorem act_take0 (hk : keyL l n = 0) (x : Int) : actL ⟨g, l, h, t, p⟩ n 4 ty 0 x false = (⟨g, l, h, t, p⟩, 24, []) := by
  have hreg : regB l n = false := by simp [regB, hk]
  unfold actL
  rw [if_neg (by omega), if_neg (by omega), if_pos hreg]
include hs in
theorem take_mine (x : Int) (hk : keyL l n ≠ 0) (hty : isTyB ty = true) : holdsB (leftOf (namedB true n x) l) n ty n = true := by
  have e : keyL (leftOf (namedB true n x) l) n ≠ 0 := by
    rw [keyL_left (sound_iff.1 hs).2.1]
    simp [smOf, namedB, hk]
  have ht : ty ≠ 0 := by rintro rfl; cases hty
  simp [holdsB, resB, regB, e, ht]
include hs in
theorem take_gone (x : Int) (hty : isTyB ty = true) {y : Int} (hy : y ∈ keepN n (goneOf (namedB true n x) l)) : holdsB (leftOf (namedB true n x) l) n ty y = false ∧ barsB (leftOf (namedB true n x) l) n ty y 7 = true := by
  have hr := (sound_iff.1 hs).2.1
  obtain ⟨q, hq, rfl⟩ := List.mem_map.1 (List.mem_filter.1 hy).1
  obtain ⟨hql, hqp⟩ := List.mem_filter.1 hq
  have e : keyL (leftOf (namedB true n x) l) q.1 = 0 := by
    rw [keyL_left hr, smOf, keyL_mem hr hql]
    rw [if_pos hqp]
  have ht : ty ≠ 0 := by rintro rfl; cases hty
  simp [barsB, holdsB, resB, regB, e, ht, writesB]
end
theorem rise_lt : ∀ {l : List (Int × Int)} {m : Int} {k : Nat} {q : Int × Int} (_ : riseB l m = true) (_ : l[k]? = some q), ∀ r ∈ l.take k, r.1 < q.1
  | [], _, _, _, _, hq, _, _ => by simp at hq
  | r0 :: l, m, 0, q, h, hq, r, hr => by simp at hr
  | r0 :: l, m, k + 1, q, h, hq, r, hr => by
    obtain ⟨_, hb⟩ := rise_cons.1 h
    have hq' : l[k]? = some q := by simpa using hq
    rw [List.take_succ_cons] at hr
    rcases List.mem_cons.1 hr with rfl | hr
    · exact (rise_mem hb (List.mem_of_getElem? hq')).1
    · exact rise_lt hb hq' r hr
theorem keyL_take {l : List (Int × Int)} {m : Int} {k : Nat} {q : Int × Int} (h : riseB l m = true) (hq : l[k]? = some q) (i : Int) : keyL (l.take (k + 1)) i = if i = q.1 then q.2 else keyL (l.take k) i := by
  rw [List.take_add_one, hq]
  exact keyL_append (fun r hr => by have := rise_lt h hq r hr; omega) i
theorem types_at : ∀ (J : Nat), J < 6 → ∃ ty : Int, (∀ W, Sem.run Try.prog (Instr.index 55 (Value.agg #[.int .i64 1, .int .i64 3, .int .i64 5, .int .i64 6, .int .i64 7, .int .i64 8]) (Value.int .i64 (J : Int))) W = Result.ok (Value.int .i64 ty) W) ∧ isTyB ty = true
  | 0, _ => ⟨1, fun _ => rfl, rfl⟩
  | 1, _ => ⟨3, fun _ => rfl, rfl⟩
  | 2, _ => ⟨5, fun _ => rfl, rfl⟩
  | 3, _ => ⟨6, fun _ => rfl, rfl⟩
  | 4, _ => ⟨7, fun _ => rfl, rfl⟩
  | 5, _ => ⟨8, fun _ => rfl, rfl⟩
  | n + 6, h => absurd h (by omega)
theorem tmod_in2 (a d : Int) (hd : 0 < d) : -d < a.tmod d ∧ a.tmod d < d := ⟨Int.lt_tmod_of_pos a hd, Int.tmod_lt_of_pos a hd⟩
theorem posmod2 (n d : Int) (hd : 0 < d) : ∃ m : Nat, (n.tmod d + d).tmod d = (m : Int) ∧ (m : Int) < d := by
  have h1 := tmod_in2 n d hd
  have h2 := tmod_in2 (n.tmod d + d) d hd
  have h3 := Int.tmod_nonneg d (show 0 ≤ n.tmod d + d by omega)
  exact ⟨((n.tmod d + d).tmod d).toNat, by omega, by omega⟩
end Go.Proofs.Ytkpogmigfjmacaa
