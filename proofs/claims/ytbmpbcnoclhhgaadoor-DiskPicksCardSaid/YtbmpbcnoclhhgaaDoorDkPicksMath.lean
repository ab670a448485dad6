/-
  What a list of calls writes: plain lemmas for 'DiskPicks'.
-/
import Derived.Test.YtbmpbcnoclhhgaaDoorDkCalls
namespace Go.Proofs.YtbmpbcnoclhhgaaDoor
open Go.RowKit Sh Go.Extern.Stop Go.Stop Go.Extern

/-- Go's (i % n + n) % n. -/
def at10 (i : Int) : Int := (i.tmod 10 + 10).tmod 10
/-- The last flush of the first k calls; 0: none. -/
def lastF (cs : List CallD) : Nat → Nat
  | 0 => 0
  | k + 1 => match cs[k]? with
    | some c => if c.kind = 2 then k else lastF cs k
    | none => lastF cs k
/-- All writes of the first k calls. -/
def wrs (cs : List CallD) : Nat → List Int × List (List Value)
  | 0 => ([], [])
  | k + 1 => match cs[k]? with
    | some c => if c.kind = 1 then ((wrs cs k).1 ++ [at10 c.i], (wrs cs k).2 ++ [page1 c.what]) else wrs cs k
    | none => wrs cs k
theorem lastF_next {cs : List CallD} {k : Nat} {c : CallD} (h : cs[k]? = some c) : lastF cs (k + 1) = if c.kind = 2 then k else lastF cs k := by simp [lastF, h]
theorem wrs_next {cs : List CallD} {k : Nat} {c : CallD} (h : cs[k]? = some c) : wrs cs (k + 1) = if c.kind = 1 then ((wrs cs k).1 ++ [at10 c.i], (wrs cs k).2 ++ [page1 c.what]) else wrs cs k := by simp [wrs, h]
theorem lastF_le (cs : List CallD) : ∀ k, lastF cs k ≤ k
  | 0 => Nat.le_refl _
  | k + 1 => by
    have := lastF_le cs k
    unfold lastF
    split
    · split <;> omega
    · omega
theorem wrs_len (cs : List CallD) : ∀ k, (wrs cs k).2.length = (wrs cs k).1.length ∧ (wrs cs k).1.length ≤ k
  | 0 => ⟨rfl, Nat.le_refl _⟩
  | k + 1 => by
    have := wrs_len cs k
    unfold wrs
    split
    · split
      · simp only [List.length_append, List.length_singleton]; omega
      · exact ⟨this.1, by omega⟩
    · exact ⟨this.1, by omega⟩

theorem flushS_snoc : ∀ (xs : List Int) (ys firm : List (List Value)) (i : Int) (p : List Value), ys.length = xs.length → flushS firm (xs ++ [i]) (ys ++ [p]) = (flushS firm xs ys).set i.toNat p
  | [], [], _, _, _, _ => rfl
  | [], _ :: _, _, _, _, h => by simp at h
  | _ :: _, [], _, _, _, h => by simp at h
  | a :: xs, q :: ys, firm, i, p, h => by simp only [List.cons_append, flushS]; exact flushS_snoc xs ys _ i p (by simpa using h)
/-- A crash that picks all is a flush. -/
theorem crashS_all : ∀ (xs : List Int) (ys firm : List (List Value)) (k : Nat) (pick : List Int), (∀ j, j < xs.length → ((k + j : Nat) : Int) ∈ pick) → crashS k firm xs ys pick = flushS firm xs ys
  | [], _, _, _, _, _ => by simp [crashS, flushS]
  | _ :: _, [], _, _, _, _ => by simp [crashS, flushS]
  | a :: xs, q :: ys, firm, k, pick, h => by
    simp only [crashS, flushS]
    rw [if_pos (by simpa using h 0 (by simp))]
    exact crashS_all xs ys _ (k + 1) pick (fun j hj => by have := h (j + 1) (by simpa using hj); rwa [show k + (j + 1) = k + 1 + j by omega] at this)
theorem crashS_none : ∀ (xs : List Int) (ys firm : List (List Value)) (k : Nat), crashS k firm xs ys [] = firm
  | [], _, _, _ => by simp [crashS]
  | _ :: _, [], _, _ => by simp [crashS]
  | a :: xs, q :: ys, firm, k => by
    simp only [crashS]
    rw [if_neg (by simp)]
    exact crashS_none xs ys firm (k + 1)

def zeros10 : List (List Value) := List.replicate 10 zeroPage
/-- The disk d behind the first k calls. -/
structure Kept (cs : List CallD) (S : St) (k : Nat) : Prop where
  on : On S 10 k
  firm : S.firm = flushS zeros10 (wrs cs (lastF cs k)).1 (wrs cs (lastF cs k)).2
  newest : S.newest = flushS zeros10 (wrs cs k).1 (wrs cs k).2
theorem kept_new (cs : List CallD) : Kept cs (newS 10) 0 := ⟨on_new 10 (by omega) (by omega), rfl, rfl⟩
theorem Kept.write {cs : List CallD} {S : St} {k q : Nat} {c : CallD} (h : Kept cs S k) (hc : cs[k]? = some c) (hk : c.kind = 1) (hq : at10 c.i = (q : Int)) (hq1 : q < 10) :
    writeOf S q (page1 c.what) = ({ S with ats := S.ats ++ [(q : Int)], what := S.what ++ [page1 c.what] }, 0) ∧ Kept cs { S with ats := S.ats ++ [(q : Int)], what := S.what ++ [page1 c.what] } (k + 1) := by
  obtain ⟨e, hO⟩ := h.on.write q hq1 (page1_bytes c.what)
  rw [e] at hO
  refine ⟨e, hO, ?_, ?_⟩
  · rw [lastF_next hc, if_neg (by omega)]; exact h.firm
  · rw [wrs_next hc, if_pos hk, hq]
    show flushS S.firm (S.ats ++ [(q : Int)]) (S.what ++ [page1 c.what]) = _
    rw [flushS_snoc _ _ _ _ _ h.on.good.same, flushS_snoc _ _ _ _ _ (wrs_len cs k).1, ← h.newest]
    rfl
theorem Kept.flush {cs : List CallD} {S : St} {k : Nat} {c : CallD} (h : Kept cs S k) (hc : cs[k]? = some c) (hk : c.kind = 2) :
    flushOf S = (⟨flushS S.firm S.ats S.what, [], [], -1, false⟩, 0) ∧ Kept cs ⟨flushS S.firm S.ats S.what, [], [], -1, false⟩ (k + 1) := by
  obtain ⟨e, hO⟩ := h.on.flush
  rw [e] at hO
  refine ⟨e, hO, ?_, ?_⟩
  · rw [lastF_next hc, if_pos hk]; exact h.newest
  · rw [wrs_next hc, if_neg (by omega)]
    show flushS (flushS S.firm S.ats S.what) [] [] = _
    rw [← h.newest]; rfl
theorem Kept.skip {cs : List CallD} {S : St} {k : Nat} {c : CallD} (h : Kept cs S k) (hc : cs[k]? = some c) (h1 : c.kind ≠ 1) (h2 : c.kind ≠ 2) : Kept cs S (k + 1) :=
  ⟨h.on.more (by omega), by rw [lastF_next hc, if_neg h2]; exact h.firm, by rw [wrs_next hc, if_neg h1]; exact h.newest⟩

/-- The disk e behind the first k calls' writes. -/
structure Wrote (cs : List CallD) (E : St) (k : Nat) : Prop where
  on : On E 10 k
  firm : E.firm = zeros10
  ats : E.ats = (wrs cs k).1
  what : E.what = (wrs cs k).2
theorem wrote_new (cs : List CallD) : Wrote cs (newS 10) 0 := ⟨on_new 10 (by omega) (by omega), rfl, rfl, rfl⟩
theorem Wrote.write {cs : List CallD} {E : St} {k q : Nat} {c : CallD} (h : Wrote cs E k) (hc : cs[k]? = some c) (hk : c.kind = 1) (hq : at10 c.i = (q : Int)) (hq1 : q < 10) :
    writeOf E q (page1 c.what) = ({ E with ats := E.ats ++ [(q : Int)], what := E.what ++ [page1 c.what] }, 0) ∧ Wrote cs { E with ats := E.ats ++ [(q : Int)], what := E.what ++ [page1 c.what] } (k + 1) := by
  obtain ⟨e, hO⟩ := h.on.write q hq1 (page1_bytes c.what)
  rw [e] at hO
  exact ⟨e, hO, h.firm, by rw [wrs_next hc, if_pos hk, hq, ← h.ats], by rw [wrs_next hc, if_pos hk, ← h.what]⟩
theorem Wrote.skip {cs : List CallD} {E : St} {k : Nat} {c : CallD} (h : Wrote cs E k) (hc : cs[k]? = some c) (h1 : c.kind ≠ 1) : Wrote cs E (k + 1) :=
  ⟨h.on.more (by omega), h.firm, by rw [wrs_next hc, if_neg h1]; exact h.ats, by rw [wrs_next hc, if_neg h1]; exact h.what⟩
theorem Wrote.newest {cs : List CallD} {E : St} {k : Nat} (h : Wrote cs E k) : E.newest = flushS zeros10 (wrs cs k).1 (wrs cs k).2 := by
  unfold St.newest; rw [h.firm, h.ats, h.what]

/-- The numbers 0, 1, .. j - 1. -/
def upTo (j : Nat) : List Int := (List.range j).map fun (k : Nat) => (k : Int)
theorem upTo_next (j : Nat) : upTo (j + 1) = upTo j ++ [(j : Int)] := by simp [upTo, List.range_succ]
theorem upTo_len (j : Nat) : (upTo j).length = j := by simp [upTo]
theorem upTo_mem {j k : Nat} (h : k < j) : ((0 + k : Nat) : Int) ∈ upTo j := by simp only [upTo, List.mem_map, List.mem_range]; exact ⟨k, h, by simp⟩
theorem own_form {w : World} {B : Nat} {e : TypeId} {s n : Nat} {v : Value} {xs : List Value} (h : w.ownsRow B e s v n xs) : ∃ ao cap, v = .slice ao n cap := by
  rcases h.2 with ⟨hv, h0⟩ | ⟨g, cap, cur, hv, _⟩
  · exact ⟨none, 0, by rw [hv, h0]⟩
  · exact ⟨_, _, hv⟩
/-- The four reads. -/
theorem read_flush {S : St} {n k : Nat} (h : On S n k) (i : Int) : readOf (crashOf S (upTo S.ats.length)) i = readOf (flushOf S).1 i := by
  rw [h.flush.1]
  have e : crashS 0 S.firm S.ats S.what (upTo S.ats.length) = flushS S.firm S.ats S.what := crashS_all _ _ _ 0 _ (fun j hj => upTo_mem hj)
  unfold readOf St.newest crashOf
  rw [e]
theorem read_lost {cs : List CallD} {S E : St} {k : Nat} (h : Kept cs S k) (hE : Wrote cs E (lastF cs k)) (i : Int) : readOf (crashOf S []) i = readOf E i := by
  have e1 : (crashOf S []).newest = S.firm := by
    show flushS (crashS 0 S.firm S.ats S.what []) [] [] = S.firm
    rw [crashS_none]; rfl
  unfold readOf
  rw [e1, hE.newest, h.firm, hE.on.on]
  rfl
end Go.Proofs.YtbmpbcnoclhhgaaDoor
