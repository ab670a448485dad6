/-
  Number and Full, of what In made and of nothing: the questions that ask puts.
-/
import Derived.Test.YtbkbhmgmlcmanaaDoorWoeEnds
import Derived.Test.YtbkbhmgmlcmanaaDoorWoeIsC
namespace Go.Proofs.YtbkbhmgmlcmanaaDoor
open Go.RowKit Go.Extern.Stop Go.Stop Go.Extern

theorem Chain.iface {N : Nat} {w : World} {n : Int} {ss : List ByteArray} {v : Value} (h : Chain N w n ss v) : ∃ t x, v = .iface t x := by
  rcases h.kind with ⟨a, rfl⟩ | ⟨b, rfl⟩
  · exact ⟨_, _, rfl⟩
  · exact ⟨_, _, rfl⟩

theorem number1_any (n : Int) (ss : List ByteArray) (v old : Value) (p1 p2 : Addr) (w : World) (hL : Laid w) (hC : Chain w.heap.size w n ss v) (h1 : w.cell? p1 = some v) (ht : w.cell? p2 = some old) (hf : w.frozen? p2 = false) :
    Calls Tryd.prog 22 #[.pointer (some p1), .pointer (some p2)] w fun e w' => e = .returned (.tuple #[]) ∧ Sets p2 (.int .i64 n) w w' := by
  go_enter Tryd.func22, Tryd.ntmps22
  go_wp2_with (go_at_call 14; refine (as_number n ss v old p2 w hL hC ht hf).mono ?_; rintro e w' ⟨rfl, hS⟩)
  first | go_end0 | refine bodyPost_ret (results_none rfl _ _ _) rfl ?_
  exact ⟨rfl, hS⟩

theorem askNumber_any (n : Int) (ss : List ByteArray) (v old : Value) (p1 p2 : Addr) (w : World) (hL : Laid w) (hC : Chain w.heap.size w n ss v) (hl : ss.length < 2147483646) (h1 : w.cell? p1 = some v) (ht : w.cell? p2 = some old) (hf : w.frozen? p2 = false) :
    Calls Tryd.prog 20 #[v, .func (.func 22) #[] #[.pointer (some p1), .pointer (some p2)]] w fun e w' => e = .returned (.tuple #[]) ∧ Sets p2 (.int .i64 n) w w' := by
  have hmf : ∀ (fn : Fn) (first cap : Array Value) (w : World), (Instr.makeFunc fn first cap).run Tryd.prog w = .ok (.func fn first cap) w := fun _ _ _ _ => rfl
  have l1 := World.block_lt_of_cell? w _ h1
  have l2 := World.block_lt_of_cell? w _ ht
  go_enter_defers Tryd.func20, Tryd.ntmps20
  go_wp2_with (first
    | (go_at_call 35; refine (ends_any n (some ss) v w hC (by simp only [restLen]; omega)).mono ?_; rintro e w1 ⟨rfl, hb1⟩)
    | (go_at_call 22; refine (number1_any n ss v old p1 p2 w1 (hL.below hL.pos hb1) ((hC.below hb1).mono hb1.size) ((hb1.cell l1).trans h1) ((hb1.cell l2).trans ht) ((hb1.frozen l2).trans hf)).mono ?_; rintro e w2 ⟨rfl, hS⟩))
  refine leaves_cons (f := 34) (args := #[]) (by simp) (by simp [go_sem]) ?_
  refine (askCatch_idle _).mono ?_
  rintro e u' w'' ⟨rfl, rfl, rfl⟩
  simp [Leaves, settle, results, Tryd.results20, go_sem]
  exact hS.after hb1

theorem number_any (n : Int) (ss : List ByteArray) (v : Value) (w : World) (hL : Laid w) (hC : Chain w.heap.size w n ss v) (hl : ss.length < 2147483646) :
    Calls Tryd.prog 12 #[v] w fun e w' => e = .returned (.int .i64 n) ∧ Below w.heap.size w w' := by
  have hmf : ∀ (fn : Fn) (first cap : Array Value) (w : World), (Instr.makeFunc fn first cap).run Tryd.prog w = .ok (.func fn first cap) w := fun _ _ _ _ => rfl
  obtain ⟨tv, xv, rfl⟩ := hC.iface
  have hnn := hC.notNil
  have hng := hC.guard
  have hb1 := (Below.refl w.heap.size w).alloc (Nat.le_refl _) (.cells #[.iface tv xv] 27)
  have hb2 := hb1.alloc (by simp) (.cells #[.int .i64 1] 22)
  go_enter Tryd.func12, Tryd.ntmps12
  have hc2 : ((w.alloc (.cells #[.iface tv xv] 27)).alloc (.cells #[.int .i64 1] 22)).cell? ⟨w.heap.size, 0, none⟩ = some (.iface tv xv) := by rw [World.cell?_alloc_lt _ _ ⟨w.heap.size, 0, none⟩ (by simp)]; simp
  go_wp2_with (go_at_call 20; refine (askNumber_any n ss _ (.int .i64 1) ⟨w.heap.size, 0, none⟩ ⟨w.heap.size + 1, 0, none⟩ _ (hL.below hL.pos hb2) ((hC.below hb2).mono hb2.size) hl hc2 (by simp) (by simp)).mono ?_; rintro e w1 ⟨rfl, hS⟩; have hr := hS.cell)
  go_ret
  exact ⟨rfl, hb2.trans (hS.below (by simp; omega) (by simp))⟩

theorem number_nil (w : World) : Calls Tryd.prog 12 #[.nilIface] w fun e w' => e = .returned (.int .i64 0) ∧ Below w.heap.size w w' := by
  have hb1 := (Below.refl w.heap.size w).alloc (Nat.le_refl _) (.cells #[.nilIface] 27)
  go_enter Tryd.func12, Tryd.ntmps12
  go_wp2
  go_ret
  exact ⟨rfl, hb1⟩

/-! Full. -/
def fullB (n : Int) : Bool := n == 20 || (n == 21 || n == 22)
theorem full1_any (n : Int) (ss : List ByteArray) (v old : Value) (p1 p2 : Addr) (w : World) (hC : Chain w.heap.size w n ss v) (h1 : w.cell? p1 = some v) (ht : w.cell? p2 = some old) (hf : w.frozen? p2 = false) :
    Calls Tryd.prog 23 #[.pointer (some p1), .pointer (some p2)] w fun e w' => e = .returned (.tuple #[]) ∧ Sets p2 (.bool (fullB n)) w w' := by
  have c1 := is_number n 20 ss v w hC
  have c2 := is_number n 21 ss v w hC
  have c3 := is_number n 22 ss v w hC
  have hs := fun x : Value => Sets.of_below (x := x) (Below.refl w.heap.size w) ht hf
  have hcases : (n = 20) ∨ (n ≠ 20 ∧ n = 21) ∨ (n ≠ 20 ∧ n ≠ 21) := by omega
  rcases hcases with hn | ⟨hn, hn2⟩ | ⟨hn, hn2⟩
  · have e1 : (n == 20) = true := by simpa using hn
    have ef : fullB n = true := by simp [fullB, e1]
    rw [e1] at c1
    rw [ef]
    go_enter Tryd.func23, Tryd.ntmps23
    go_wp2_with (go_at_call 15; refine c1.mono ?_; rintro e w' ⟨rfl, rfl⟩)
    first | go_end0 | refine bodyPost_ret (results_none rfl _ _ _) rfl ?_
    exact ⟨rfl, hs _⟩
  · have e1 : (n == 20) = false := by simpa using hn
    have e2 : (n == 21) = true := by simpa using hn2
    have ef : fullB n = true := by simp [fullB, e1, e2]
    rw [e1] at c1
    rw [e2] at c2
    rw [ef]
    go_enter Tryd.func23, Tryd.ntmps23
    go_wp2_with (first
      | (go_at_call 15; (with_reducible refine c1.mono ?_); clear c1; rintro e w' ⟨rfl, rfl⟩)
      | (go_at_call 15; (with_reducible refine c2.mono ?_); rintro e w' ⟨rfl, rfl⟩))
    first | go_end0 | refine bodyPost_ret (results_none rfl _ _ _) rfl ?_
    exact ⟨rfl, hs _⟩
  · have e1 : (n == 20) = false := by simpa using hn
    have e2 : (n == 21) = false := by simpa using hn2
    have ef : fullB n = (n == 22) := by simp [fullB, e1, e2]
    rw [e1] at c1
    rw [e2] at c2
    rw [ef]
    generalize (n == 22) = b3 at c3
    go_enter Tryd.func23, Tryd.ntmps23
    go_wp2_with (first
      | (go_at_call 15; (with_reducible refine c1.mono ?_); clear c1; rintro e w' ⟨rfl, rfl⟩)
      | (go_at_call 15; (with_reducible refine c2.mono ?_); clear c2; rintro e w' ⟨rfl, rfl⟩)
      | (go_at_call 15; (with_reducible refine c3.mono ?_); rintro e w' ⟨rfl, rfl⟩))
    first | go_end0 | refine bodyPost_ret (results_none rfl _ _ _) rfl ?_
    exact ⟨rfl, hs _⟩

theorem full1_nil (old : Value) (p1 p2 : Addr) (w : World) (h1 : w.cell? p1 = some .nilIface) (ht : w.cell? p2 = some old) (hf : w.frozen? p2 = false) :
    Calls Tryd.prog 23 #[.pointer (some p1), .pointer (some p2)] w fun e w' => e = .returned (.tuple #[]) ∧ Sets p2 (.bool false) w w' := by
  have c1 := is_nil 20 w
  have c2 := is_nil 21 w
  have c3 := is_nil 22 w
  have hs := fun x : Value => Sets.of_below (x := x) (Below.refl w.heap.size w) ht hf
  go_enter Tryd.func23, Tryd.ntmps23
  go_wp2_with (first
    | (go_at_call 15; (with_reducible refine c1.mono ?_); clear c1; rintro e w' ⟨rfl, rfl⟩)
    | (go_at_call 15; (with_reducible refine c2.mono ?_); clear c2; rintro e w' ⟨rfl, rfl⟩)
    | (go_at_call 15; (with_reducible refine c3.mono ?_); rintro e w' ⟨rfl, rfl⟩))
  first | go_end0 | refine bodyPost_ret (results_none rfl _ _ _) rfl ?_
  exact ⟨rfl, hs _⟩

theorem askFull_any (n : Int) (o : Option (List ByteArray)) (v old : Value) (b : Bool) (p1 p2 : Addr) (w : World) (hC : Rest w.heap.size w n o v) (hl : restLen o < 2147483647) (_h1 : w.cell? p1 = some v) (_ht : w.cell? p2 = some old) (_hf : w.frozen? p2 = false)
    (hq : ∀ W : World, Below w.heap.size w W → Calls Tryd.prog 23 #[.pointer (some p1), .pointer (some p2)] W fun e w' => e = .returned (.tuple #[]) ∧ Sets p2 (.bool b) W w') :
    Calls Tryd.prog 20 #[v, .func (.func 23) #[] #[.pointer (some p1), .pointer (some p2)]] w fun e w' => e = .returned (.tuple #[]) ∧ Sets p2 (.bool b) w w' := by
  have hmf : ∀ (fn : Fn) (first cap : Array Value) (w : World), (Instr.makeFunc fn first cap).run Tryd.prog w = .ok (.func fn first cap) w := fun _ _ _ _ => rfl
  go_enter_defers Tryd.func20, Tryd.ntmps20
  go_wp2_with (first
    | (go_at_call 35; refine (ends_any n o v w hC hl).mono ?_; rintro e w1 ⟨rfl, hb1⟩)
    | (go_at_call 23; refine (hq w1 hb1).mono ?_; rintro e w2 ⟨rfl, hS⟩))
  refine leaves_cons (f := 34) (args := #[]) (by simp) (by simp [go_sem]) ?_
  refine (askCatch_idle _).mono ?_
  rintro e u' w'' ⟨rfl, rfl, rfl⟩
  simp [Leaves, settle, results, Tryd.results20, go_sem]
  exact hS.after hb1

theorem full_any (n : Int) (ss : List ByteArray) (v : Value) (w : World) (hC : Chain w.heap.size w n ss v) (hl : ss.length < 2147483646) :
    Calls Tryd.prog 13 #[v] w fun e w' => e = .returned (.bool (fullB n)) ∧ Below w.heap.size w w' := by
  have hmf : ∀ (fn : Fn) (first cap : Array Value) (w : World), (Instr.makeFunc fn first cap).run Tryd.prog w = .ok (.func fn first cap) w := fun _ _ _ _ => rfl
  obtain ⟨tv, xv, rfl⟩ := hC.iface
  generalize hfb : fullB n = fb
  have hb1 := (Below.refl w.heap.size w).alloc (Nat.le_refl _) (.cells #[.iface tv xv] 27)
  have hb2 := hb1.alloc (by simp) (.cells #[.bool false] 4)
  have hc2 : ((w.alloc (.cells #[.iface tv xv] 27)).alloc (.cells #[.bool false] 4)).cell? ⟨w.heap.size, 0, none⟩ = some (.iface tv xv) := by rw [World.cell?_alloc_lt _ _ ⟨w.heap.size, 0, none⟩ (by simp)]; simp
  have hc3 : ((w.alloc (.cells #[.iface tv xv] 27)).alloc (.cells #[.bool false] 4)).cell? ⟨w.heap.size + 1, 0, none⟩ = some (.bool false) := by simp
  have hf3 : ((w.alloc (.cells #[.iface tv xv] 27)).alloc (.cells #[.bool false] 4)).frozen? ⟨w.heap.size + 1, 0, none⟩ = false := by simp
  have hC2 := (hC.below hb2).mono hb2.size
  have hq : ∀ W : World, Below ((w.alloc (.cells #[.iface tv xv] 27)).alloc (.cells #[.bool false] 4)).heap.size ((w.alloc (.cells #[.iface tv xv] 27)).alloc (.cells #[.bool false] 4)) W → Calls Tryd.prog 23 #[.pointer (some ⟨w.heap.size, 0, none⟩), .pointer (some ⟨w.heap.size + 1, 0, none⟩)] W fun e w' => e = .returned (.tuple #[]) ∧ Sets ⟨w.heap.size + 1, 0, none⟩ (.bool fb) W w' := fun W hW => by
    rw [← hfb]
    exact full1_any n ss (.iface tv xv) (.bool false) ⟨w.heap.size, 0, none⟩ ⟨w.heap.size + 1, 0, none⟩ W ((hC2.below hW).mono hW.size) ((hW.cell (by simp; omega)).trans hc2) ((hW.cell (by simp)).trans hc3) ((hW.frozen (by simp)).trans hf3)
  go_enter Tryd.func13, Tryd.ntmps13
  go_wp2_with (go_at_call 20; refine (askFull_any n (some ss) _ (.bool false) fb ⟨w.heap.size, 0, none⟩ ⟨w.heap.size + 1, 0, none⟩ _ hC2 (by simp only [restLen]; omega) hc2 hc3 hf3 hq).mono ?_; rintro e w1 ⟨rfl, hS⟩; have hr := hS.cell)
  go_ret
  exact ⟨rfl, hb2.trans (hS.below (by simp; omega) (by simp))⟩

theorem full_nil (w : World) : Calls Tryd.prog 13 #[.nilIface] w fun e w' => e = .returned (.bool false) ∧ Below w.heap.size w w' := by
  have hmf : ∀ (fn : Fn) (first cap : Array Value) (w : World), (Instr.makeFunc fn first cap).run Tryd.prog w = .ok (.func fn first cap) w := fun _ _ _ _ => rfl
  have hb1 := (Below.refl w.heap.size w).alloc (Nat.le_refl _) (.cells #[.nilIface] 27)
  have hb2 := hb1.alloc (by simp) (.cells #[.bool false] 4)
  have hc2 : ((w.alloc (.cells #[.nilIface] 27)).alloc (.cells #[.bool false] 4)).cell? ⟨w.heap.size, 0, none⟩ = some (.nilIface) := by rw [World.cell?_alloc_lt _ _ ⟨w.heap.size, 0, none⟩ (by simp)]; simp
  have hc3 : ((w.alloc (.cells #[.nilIface] 27)).alloc (.cells #[.bool false] 4)).cell? ⟨w.heap.size + 1, 0, none⟩ = some (.bool false) := by simp
  have hf3 : ((w.alloc (.cells #[.nilIface] 27)).alloc (.cells #[.bool false] 4)).frozen? ⟨w.heap.size + 1, 0, none⟩ = false := by simp
  have hq : ∀ W : World, Below ((w.alloc (.cells #[.nilIface] 27)).alloc (.cells #[.bool false] 4)).heap.size ((w.alloc (.cells #[.nilIface] 27)).alloc (.cells #[.bool false] 4)) W → Calls Tryd.prog 23 #[.pointer (some ⟨w.heap.size, 0, none⟩), .pointer (some ⟨w.heap.size + 1, 0, none⟩)] W fun e w' => e = .returned (.tuple #[]) ∧ Sets ⟨w.heap.size + 1, 0, none⟩ (.bool false) W w' := fun W hW =>
    full1_nil (.bool false) ⟨w.heap.size, 0, none⟩ ⟨w.heap.size + 1, 0, none⟩ W ((hW.cell (by simp; omega)).trans hc2) ((hW.cell (by simp)).trans hc3) ((hW.frozen (by simp)).trans hf3)
  go_enter Tryd.func13, Tryd.ntmps13
  go_wp2_with (go_at_call 20; refine (askFull_any 0 none _ (.bool false) false ⟨w.heap.size, 0, none⟩ ⟨w.heap.size + 1, 0, none⟩ _ rfl (by simp only [restLen]; omega) hc2 hc3 hf3 hq).mono ?_; rintro e w1 ⟨rfl, hS⟩; have hr := hS.cell)
  go_ret
  exact ⟨rfl, hb2.trans (hS.below (by simp; omega) (by simp))⟩
end Go.Proofs.YtbkbhmgmlcmanaaDoor
