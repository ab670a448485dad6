/-
  A list's calls, one by one; a disk that is on, with fuel without end.
-/
import Derived.Test.YtbmpbcnoclhhgaaDoorDkOpen
import Derived.Test.YtbmpbcnoclhhgaaDoorDkFuel
namespace Go.Proofs.YtbmpbcnoclhhgaaDoor
open Go.RowKit Sh Go.Extern.Stop Go.Stop Go.Extern

theorem infoCall : (Tryd.prog.info? 35).map (·.size) = some 4 := by kernel_rfl
def zeroCall : Array Value := #[.int .i64 0, .int .i64 0, .int .u8 0, .slice none 0 0]
theorem allocCall (w : World) : (Instr.alloc 35 true (.tuple #[])).run Tryd.prog w = .ok (.pointer (some ⟨w.heap.size, 0, none⟩)) (w.alloc (.cells zeroCall 35)) := by kernel_rfl

theorem call_one (c : CallD) : (callCells c).toArray.all (·.oneCell') = true := by simp [callCells, Value.oneCell', cu8]

/-- A disk of n sectors that is on and never goes off, behind k calls. -/
structure On (S : St) (n k : Nat) : Prop where
  size : S.firm.length = n
  few : S.ats.length ≤ k
  fuel : S.fuel = -1
  on : S.off = false
  good : Good S
  byt : Byt S
theorem on_new (n : Nat) (h1 : 1 ≤ n) (h2 : n ≤ 4096) : On (newS n) n 0 := ⟨by simp [newS], by simp [newS], rfl, rfl, good_new n h1 h2, byt_new n⟩
theorem On.more {S : St} {n k m : Nat} (h : On S n k) (hm : k ≤ m) : On S n m := ⟨h.size, by have := h.few; omega, h.fuel, h.on, h.good, h.byt⟩
theorem On.read {S : St} {n k : Nat} (h : On S n k) (q : Nat) (hq : q < n) : (readOf S q).2 = 0 := by
  unfold readOf readN reachN
  rw [S.newest_length, h.size, h.on]
  have hq2 : ¬ ((q : Int) < 0 ∨ ((n : Nat) : Int) ≤ q) := by omega
  simp only [Bool.false_eq_true, if_false, if_neg hq2, if_true]
theorem On.write {S : St} {n k : Nat} (h : On S n k) (q : Nat) (hq : q < n) {p : List Value} (hp : BP p) : writeOf S q p = ({ S with ats := S.ats ++ [(q : Int)], what := S.what ++ [p] }, 0) ∧ On (writeOf S q p).1 n (k + 1) := by
  have hno : noWrite S.firm S.fuel S.off q = none := by
    unfold noWrite
    rw [h.size, h.on, h.fuel]
    have hq2 : ¬ ((q : Int) < 0 ∨ ((n : Nat) : Int) ≤ q) := by omega
    rw [if_neg (by simp), if_neg hq2, if_neg (by omega)]
  have e : writeOf S q p = ({ S with ats := S.ats ++ [(q : Int)], what := S.what ++ [p] }, 0) := by
    unfold writeOf
    rw [hno]
    have h1 : (stepS S.fuel false).1 = S.fuel := by rw [h.fuel]; rfl
    simp only [h1]
    rw [show (false : Bool) = S.off from h.on.symm]
  have hc := write_count S q p
  refine ⟨e, ⟨by rw [write_firm]; exact h.size, by have := h.few; omega, by rw [e]; exact h.fuel, by rw [e]; exact h.on, good_write h.good q p, byt_write h.byt q hp⟩⟩
theorem On.flush {S : St} {n k : Nat} (h : On S n k) : flushOf S = (⟨flushS S.firm S.ats S.what, [], [], -1, false⟩, 0) ∧ On (flushOf S).1 n (k + 1) := by
  have e : flushOf S = (⟨flushS S.firm S.ats S.what, [], [], -1, false⟩, 0) := by
    unfold flushOf
    rw [if_neg (by rw [h.on, h.fuel]; simp), h.fuel]
    rfl
  exact ⟨e, ⟨by rw [flush_firm]; exact h.size, by rw [e]; simp, by rw [e], by rw [e], good_flush h.good, byt_flush h.byt⟩⟩
theorem On.crash {S : St} {n k : Nat} (h : On S n k) (pick : List Int) : On (crashOf S pick) n 0 :=
  ⟨by rw [crash_firm]; exact h.size, by simp [crashOf], rfl, rfl, good_crash h.good pick, byt_crash h.byt pick⟩
end Go.Proofs.YtbmpbcnoclhhgaaDoor
