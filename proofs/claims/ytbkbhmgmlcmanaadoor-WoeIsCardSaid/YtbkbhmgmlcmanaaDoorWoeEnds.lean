/-
  ends: a chain that isn't too long ends; its deferred closure finds no panic.
-/
import Derived.Test.YtbkbhmgmlcmanaaDoorWoeAs
import Derived.Tactics2
import Derived.Defers
import Derived.Recover
import Derived.Laws.Pointers
import Derived.IntWalk
namespace Go.Proofs.YtbkbhmgmlcmanaaDoor
open Go.RowKit Go.Extern.Stop Go.Stop Go.Extern

theorem endsCatch_idle (p : Addr) (w : World) :
    CallsD Tryd.prog 40 #[.pointer (some p)] .returning w fun e u' w' => e = .returned (.tuple #[]) ∧ u' = .returning ∧ w' = w := by
  refine callsD_of_wpS Tryd.func40 rfl fun c₀ cs hu => ?_
  apply wpS_seq
  apply wpS_region
  simp [wpOpsS, go_sem, recoverD, hu, Tryd.ntmps40, Exit.thenS]
  refine wpS_cond (t := false) (by simp [Act.eval, Array.replicate]) ?_
  simp only [Bool.false_eq_true, if_false]
  refine wpS_of_wp (wp_skip ?_)
  cases c₀
  simp_all [bodyPostS, results, Tryd.results40]

theorem askCatch_idle (w : World) :
    CallsD Tryd.prog 34 #[] .returning w fun e u' w' => e = .returned (.tuple #[]) ∧ u' = .returning ∧ w' = w := by
  refine callsD_of_wpS Tryd.func34 rfl fun c₀ cs hu => ?_
  apply wpS_region
  simp [wpOpsS, go_sem, recoverD, hu, Tryd.ntmps34]
  cases c₀
  simp_all [bodyPostS, results, Tryd.results34]

/-- A chain, or what lies behind it: nothing. -/
def Rest (N : Nat) (w : World) (n : Int) : Option (List ByteArray) → Value → Prop
  | none, v => v = .nilIface
  | some ss, v => Chain N w n ss v
def restLen : Option (List ByteArray) → Nat
  | none => 0
  | some ss => ss.length + 1

set_option maxRecDepth 100000 in
set_option maxHeartbeats 4000000 in
theorem ends_any (n : Int) (o : Option (List ByteArray)) (v : Value) (w : World) (hC : Rest w.heap.size w n o v) (hl : restLen o < 2147483647) :
    Calls Tryd.prog 35 #[v] w fun e w' => e = .returned (.bool true) ∧ Below w.heap.size w w' := by
  have hmf : ∀ (fn : Fn) (first cap : Array Value) (w : World), (Instr.makeFunc fn first cap).run Tryd.prog w = .ok (.func fn first cap) w := fun _ _ _ _ => rfl
  have hb1 := (Below.refl w.heap.size w).alloc (Nat.le_refl _) (.cells #[.bool false] 4)
  obtain ⟨W1, hW1⟩ : ∃ W1, W1 = w.alloc (.cells #[.bool false] 4) := ⟨_, rfl⟩
  have hc1 : W1.cell? ⟨w.heap.size, 0, none⟩ = some (.bool false) := by rw [hW1]; simp
  have hf1 : W1.frozen? ⟨w.heap.size, 0, none⟩ = false := by rw [hW1]; simp
  go_enter_defers Tryd.func35, Tryd.ntmps35
  go_wp2
  rw [← hW1]
  rw [← hW1] at hb1
  have HW1 := Lib.hid hW1
  clear hW1
  have hC1 : Rest w.heap.size W1 n o v := by
    cases o with
    | none => exact hC
    | some ss => exact Chain.below hb1 hC
  go_loopg [0, 4] (restLen o) (fun g v i wr => ∃ (k : Nat) (r : Option (List ByteArray)) (x : Value), g = restLen r ∧ x = v ∧ i = .int .i64 k ∧ k + restLen r ≤ restLen o ∧ wr = W1 ∧ Rest w.heap.size W1 n r x)
  case atStart => exact ⟨0, o, v, rfl, rfl, rfl, by omega, rfl, hC1⟩
  case round =>
    clear hC hC1
    obtain ⟨k, r, y, rfl, rfl, rfl, hk, rfl, hC⟩ := hrel
    have hlt : (k : Int) < 2147483647 := by omega
    cases r with
    | none =>
      obtain rfl := hC
      have hc2 : (wr.setCell ⟨w.heap.size, 0, none⟩ (.bool true)).cell? ⟨w.heap.size, 0, none⟩ = some (.bool true) := World.cell?_setCell_same' _ _ _ (by simp [hc1])
      have hb2 := hb1.setCell (p := ⟨w.heap.size, 0, none⟩) (Nat.le_refl _) (.bool true)
      go_wp2
      refine leaves_cons (f := 40) (args := #[.pointer (some ⟨w.heap.size, 0, none⟩)]) (by simp) (by simp [go_sem]) ?_
      refine (endsCatch_idle ⟨w.heap.size, 0, none⟩ _).mono ?_
      rintro e u' w'' ⟨rfl, rfl, rfl⟩
      simp [Leaves, settle, results, Tryd.results35, go_sem, hc2]
      exact hb2
    | some ss =>
      have hnn := Chain.notNil hC
      have hng := Chain.guard hC
      have hnext : ∃ (q : Option (List ByteArray)) (x : Value), restLen q + 1 = restLen (some ss) ∧ Rest w.heap.size wr n q x ∧ Calls Tryd.prog 41 #[y] wr fun e w' => e = .returned x ∧ w' = wr := by
        cases ss with
        | nil => obtain rfl := hC; exact ⟨none, .nilIface, rfl, rfl, eunwrap_num n wr⟩
        | cons s r => obtain ⟨b, x, rfl, _, _, hc1, hr⟩ := hC; exact ⟨some r, x, rfl, hr, eunwrap_woe b x wr hc1⟩
      obtain ⟨q, x, hq, hR, hcall⟩ := hnext
      clear hC hc1 hf1
      go_wp2_with (go_at_call 41; refine hcall.mono ?_; rintro e w' ⟨rfl, rfl⟩)
      go_roundg (restLen q)
      case measure => omega
      case rel => exact ⟨k + 1, q, _, rfl, rfl, by go_num, by omega, rfl, hR⟩
end Go.Proofs.YtbkbhmgmlcmanaaDoor
