/-
  Registrations in memory; the table's value; pers.key, registered.
-/
import Derived.Test.YtkpogmigfjmacaaChecked
import Derived.Test.YtkpogmigfjmacaaPeMath
import Derived.WalkKit
import Derived.Below
import Derived.Deep.LoopGhost
import Derived.Lib.Hide
import Derived.IntWalk
import Derived.Outline
import Derived.BigGuardPart
set_option linter.unusedSimpArgs false
set_option linter.unusedVariables false
namespace Go.Proofs.Ytkpogmigfjmacaa
open Go.RowKit

/-- Registrations, wherever they lie below block N. -/
def RgA (N : Nat) (w : World) (A : Option Addr) (l : List (Int × Int)) : Prop :=
  l = [] ∨ ∃ b o, A = some ⟨b, o, none⟩ ∧ b < N ∧ ∀ (j : Nat) (q : Int × Int), l[j]? = some q → w.cell? ⟨b, o + j * 2, none⟩ = some (.int .i64 q.1) ∧ w.cell? ⟨b, o + j * 2 + 1, none⟩ = some (.int .u64 q.2)
theorem RgA.below {N : Nat} {w w' : World} {A : Option Addr} {l : List (Int × Int)} (h : RgA N w A l) (hb : Below N w w') : RgA N w' A l :=
  h.imp id (fun ⟨b, o, h1, h2, h3⟩ => ⟨b, o, h1, h2, fun j q hj => ⟨(hb.cell (p := ⟨b, o + j * 2, none⟩) h2).trans (h3 j q hj).1, (hb.cell (p := ⟨b, o + j * 2 + 1, none⟩) h2).trans (h3 j q hj).2⟩⟩)
theorem RgA.mono {N M : Nat} {w : World} {A : Option Addr} {l : List (Int × Int)} (h : RgA N w A l) (hN : N ≤ M) : RgA M w A l :=
  h.imp id (fun ⟨b, o, h1, h2, h3⟩ => ⟨b, o, h1, by omega, h3⟩)

/-- A table's value. -/
def tbV (g : Int) (S : Value) (h t : Int) (p : Bool) : Value := .agg #[.int .u32 g, S, .int .i64 h, .int .i64 t, .bool p]
def Ret (v : Value) (w : World) (e : Ending) (w' : World) : Prop := e = .returned v ∧ Below w.heap.size w w'

set_option maxRecDepth 100000 in
set_option maxHeartbeats 2000000 in
theorem key_any (g h t : Int) (p : Bool) (A : Option Addr) (len cap : Nat) (l : List (Int × Int)) (n : Int) (w : World) (hl : l.length = len) (hm : len ≤ 9223372036854775807) (hR : RgA w.heap.size w A l) :
    Calls Try.prog 42 #[.agg #[.int .u32 g, .slice A len cap, .int .i64 h, .int .i64 t, .bool p], .int .i64 n] w (Ret (.int .u64 (keyL l n)) w) := by
  have HR := Lib.hid hR; have Hl := Lib.hid hl
  clear hR hl
  go_enter Try.func42, Try.ntmps42
  go_wp2
  go_loopg [10, 6] len (fun m i _ wr => ∃ k : Nat, m = len - k ∧ k ≤ len ∧ i = .int .i64 k ∧ Below w.heap.size w wr ∧ Hid (∀ j, j < k → ∀ q : Int × Int, l[j]? = some q → q.1 ≠ n))
  case atStart => exact ⟨0, rfl, by omega, rfl, (Below.refl _ _).alloc (Nat.le_refl _) _, Lib.hid fun j hj => absurd hj (by omega)⟩
  case round =>
    obtain ⟨k, rfl, hk, rfl, hb, hno⟩ := hrel
    by_cases hlt : k < len
    · have hltz : (k : Int) < (len : Int) := by omega
      obtain ⟨q, hq⟩ : ∃ q, l[k]? = some q := ⟨_, List.getElem?_eq_getElem (by rw [Hl.out]; exact hlt)⟩
      rcases HR.out.below hb with h0 | ⟨b, o, rfl, hbN, hc⟩
      · rw [h0] at hq; simp at hq
      obtain ⟨c0, c1⟩ := hc k q hq
      have HB := Lib.hid hb; have HQ := Lib.hid hq
      clear hc hb hq
      obtain ⟨q1, q2⟩ := q
      simp only at c0 c1
      by_cases hqn : q1 = n
      · have ht : (q1 == n) = true := by simpa using hqn
        have HN := Lib.hid hqn
        clear hqn
        go_wp2
        go_ret
        exact ⟨by rw [keyL_hit HQ.out HN.out hno.out]; rfl, HB.out.alloc (HB.out.size) _⟩
      · have ht : (q1 == n) = false := by simpa using hqn
        have HN := Lib.hid hqn
        clear hqn
        go_wp2
        go_roundg (len - (k + 1))
        case measure => omega
        case rel => exact ⟨k + 1, rfl, by omega, by go_num, HB.out.alloc HB.out.size _, Lib.hid fun j hj q hq => by
          rcases Nat.lt_or_ge j k with h1 | h1
          · exact hno.out j h1 q hq
          · obtain rfl : j = k := by omega
            rw [HQ.out] at hq
            cases hq; exact HN.out⟩
    · obtain rfl : k = len := by omega
      have hltz : ¬ ((k : Int) < (k : Int)) := by omega
      go_wp2
      go_ret
      exact ⟨by rw [keyL_miss fun j q hj => hno.out j (by have := (List.getElem?_eq_some_iff.1 hj).1; rw [Hl.out] at this; exact this) q hj]; rfl, hb⟩

section
variable (g h t : Int) (p : Bool) (A : Option Addr) (len cap : Nat) (l : List (Int × Int)) (w : World)
theorem registered_any (n : Int) (hl : l.length = len) (hm : len ≤ 9223372036854775807) (hR : RgA w.heap.size w A l) :
    Calls Try.prog 26 #[.agg #[.int .u32 g, .slice A len cap, .int .i64 h, .int .i64 t, .bool p], .int .i64 n] w (Ret (.bool (regB l n)) w) := by
  have hk := key_any g h t p A len cap l n (w.alloc (.cells #[.int .u32 g, .slice A len cap, .int .i64 h, .int .i64 t, .bool p] 25)) hl hm ((hR.below ((Below.refl _ _).alloc (Nat.le_refl _) _)).mono (by simp))
  have hk := Lib.hid hk
  clear hl hR
  go_enter Try.func26, Try.ntmps26
  go_wp2_with (go_at_call 42; refine hk.out.mono ?_; rintro e w' ⟨rfl, hb⟩)
  go_ret
  refine ⟨?_, ((Below.refl _ _).alloc (Nat.le_refl _) _).trans (hb.mono (by simp))⟩
  unfold regB
  by_cases hz : keyL l n = 0 <;> simp [hz]
theorem reserved_any (S : Value) : Calls Try.prog 36 #[.agg #[.int .u32 g, S, .int .i64 h, .int .i64 t, .bool p]] w (Ret (.bool (resB t)) w) := by
  go_enter Try.func36, Try.ntmps36
  go_wp2
  go_ret
  refine ⟨?_, ((Below.refl _ _).alloc (Nat.le_refl _) _)⟩
  unfold resB
  by_cases hz : t = 0 <;> simp [hz]
end
section
variable (t : Int) (w : World)
theorem ofAll_any : Calls Try.prog 37 #[.int .i64 t] w (fun e w' => e = .returned (.bool (ofAllB t)) ∧ w = w') := by
  go_enter Try.func37, Try.ntmps37
  go_wp2
  all_goals
    go_ret
    refine ⟨?_, rfl⟩
    unfold ofAllB
    first | (simp_all; done) | (simp_all; rfl)
theorem ofReg_any : Calls Try.prog 38 #[.int .i64 t] w (fun e w' => e = .returned (.bool (ofRegB t)) ∧ w = w') := by
  go_enter Try.func38, Try.ntmps38
  go_wp2
  all_goals
    go_ret
    refine ⟨?_, rfl⟩
    unfold ofRegB
    first | (simp_all; done) | (simp_all; rfl)
theorem isType_any : Calls Try.prog 25 #[.int .i64 t] w (fun e w' => e = .returned (.bool (isTyB t)) ∧ w = w') := by
  go_enter Try.func25, Try.ntmps25
  go_wp2_with (first
    | (go_at_call 38; refine (ofReg_any t _).mono ?_; rintro e w' ⟨rfl, rfl⟩)
    | (go_at_call 37; refine (ofAll_any t _).mono ?_; rintro e w' ⟨rfl, rfl⟩))
  all_goals
    go_ret
    refine ⟨?_, rfl⟩
    unfold isTyB
    first | (simp_all [ofAllB, ofRegB]; done) | (simp_all [ofAllB, ofRegB]; omega)
theorem known_any : Calls Try.prog 27 #[.int .i64 t] w (fun e w' => e = .returned (.bool (isTyB t)) ∧ w = w') := by
  go_enter Try.func27, Try.ntmps27
  go_wp2
  all_goals
    go_ret
    refine ⟨?_, rfl⟩
    unfold isTyB
    first | (simp_all; done) | (simp_all; rfl)
end
section
variable (g h t : Int) (p : Bool) (A : Option Addr) (len cap : Nat) (l : List (Int × Int)) (w : World) (S : Value)
theorem held_any (n k : Int) : Calls Try.prog 54 #[.agg #[.int .u32 g, .slice A len cap, .int .i64 h, .int .i64 t, .bool p], .int .i64 n, .int .i64 k] w (Ret (.agg #[.int .u32 g, .slice A len cap, .int .i64 n, .int .i64 k, .bool p]) w) := by
  go_enter Try.func54, Try.ntmps54
  go_wp2
  exact bodyPost_ret (v := .agg #[.int .u32 g, .slice A len cap, .int .i64 n, .int .i64 k, .bool p]) (by simp [results, Try.results54, go_sem]) rfl ⟨rfl, ((Below.refl _ _).alloc (Nat.le_refl _) _).alloc (by simp) _⟩
end

theorem bcell {W w1 : World} (hb : Below W.heap.size W w1) : (∀ b o, b < W.heap.size → w1.cell? ⟨b, o, none⟩ = W.cell? ⟨b, o, none⟩) ∧ (∀ b o, b < W.heap.size → w1.frozen? ⟨b, o, none⟩ = W.frozen? ⟨b, o, none⟩) :=
  ⟨fun b o h => hb.cell (p := ⟨b, o, none⟩) h, fun b o h => hb.frozen (p := ⟨b, o, none⟩) h⟩
theorem bel1 (w : World) (o : Obj) : Below w.heap.size w (w.alloc o) := (Below.refl _ _).alloc (Nat.le_refl _) _
theorem bel2 (w : World) (o o' : Obj) : Below w.heap.size w ((w.alloc o).alloc o') := (bel1 w o).alloc (by simp) _
theorem stepB {w w1 w2 : World} (h : Below w.heap.size w w1) (hb : Below w1.heap.size w1 w2) : Below w.heap.size w w2 := h.trans (hb.mono h.size)

theorem set5B {B b : Nat} {w w' : World} (h : Below B w w') (hB : B ≤ b) (v0 v1 v2 v3 v4 : Value) :
    Below B w (((((w'.setCell ⟨b, 0, none⟩ v0).setCell ⟨b, 1, none⟩ v1).setCell ⟨b, 2, none⟩ v2).setCell ⟨b, 3, none⟩ v3).setCell ⟨b, 4, none⟩ v4) :=
  ((((h.setCell (p := ⟨b, 0, none⟩) hB _).setCell (p := ⟨b, 1, none⟩) hB _).setCell (p := ⟨b, 2, none⟩) hB _).setCell (p := ⟨b, 3, none⟩) hB _).setCell (p := ⟨b, 4, none⟩) hB _
theorem retB {a b : Bool} (h : a = b) : Ending.returned (.bool a) = .returned (.bool b) := by rw [h]
end Go.Proofs.Ytkpogmigfjmacaa
