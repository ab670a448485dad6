/-
  Rows of pages: a new row of one page; a page stored into a row.
-/
import Derived.Test.YtbmpbcnoclhhgaaDoorDiskNew
import Derived.Great.BuildSlice
namespace Go.Proofs.YtbmpbcnoclhhgaaDoor
open Go.RowKit Sh

theorem fill_page (p : List Value) (hp : IsPage p) (cells : Array Value) (hc : cells.size = 64) : Instr.fill (fun i => some (i * 64, 64)) cells [(0, .agg p.toArray)] = some p.toArray := by
  have h := Great.fill_whole (s := 64) (by omega) [.agg p.toArray] cells (fun v hv => by
    obtain rfl := List.mem_singleton.1 hv
    show p.toArray.size = 64
    rw [List.size_toArray]; exact hp.1) (by rw [hc]; rfl)
  simpa [Value.cells] using h

/-- '[]Page{x}' as an operation: a new block with the page's cells. -/
theorem wp_build_page {o : Oper} {a : Act} {w : World} {K : Act → World → Prop} {Q : Exit → Act → World → Prop} (x : Operand) (ho : o.op = .buildSlice 38 1 #[(0, x)]) (p : List Value) (hp : IsPage p) (hx : a.eval x = .agg p.toArray)
    (h : K (a.put o.dst (.slice (some ⟨w.heap.size, 0, none⟩) 1 1)) (w.alloc (.cells p.toArray 42))) : o.wp Tryd.prog a w K Q := by
  obtain ⟨i, hi, hzz⟩ := Option.map_eq_some_iff.1 infoPage
  simp only [Prod.mk.injEq] at hzz
  obtain ⟨hz, hs, hb⟩ := hzz
  refine wp_buildSlice (P := Tryd.prog) 38 42 1 _ ho p.toArray i (.agg zeros64) Tryd.underlying38 hi hz (by rw [hs]; decide) (by rw [hs]; decide) ?_ h
  rw [hs]
  have hl : ((#[(0, x)] : Array (Nat × Operand)).map fun (i, x) => (i, a.eval x)).toList = [(0, .agg p.toArray)] := by simp [hx]
  rw [hl]
  exact fill_page p hp _ (by simp)

/-- 'cs' laid over 'cur' from 'off' on. -/
theorem splice_page {pgs : List (List Value)} (hP : Pages pgs) (k : Nat) (hk : k < pgs.length) (p : List Value) (hp : IsPage p) : splice pgs.flatten (k * 64) p = (pgs.set k p).flatten := by
  induction pgs generalizing k with
  | nil => simp at hk
  | cons q r ih =>
    have hq := (hP q (by simp)).1
    have hpl := hp.1
    cases k with
    | zero =>
      simp only [splice, Nat.zero_mul, Nat.zero_add, List.flatten_cons, List.set_cons_zero, List.take_zero, List.nil_append]
      rw [hpl, ← hq, List.drop_left]
    | succ k =>
      have := ih (fun x hx => hP x (by simp [hx])) k (by simpa using hk)
      simp only [splice] at this
      simp only [splice, List.flatten_cons, List.set_cons_succ]
      rw [show (k + 1) * 64 = q.length + k * 64 by omega, List.take_length_add_append, show q.length + k * 64 + p.length = q.length + (k * 64 + p.length) by omega, List.drop_length_add_append, ← this]
      simp only [List.append_assoc]

theorem splice_take (cur : List Value) (off m : Nat) (p : List Value) (h : off + p.length ≤ m) (hm : m ≤ cur.length) : (splice cur off p).take m = splice (cur.take m) off p := by
  have hA : (cur.take off).length = off := by rw [List.length_take]; omega
  simp only [splice]
  rw [List.take_append, List.take_of_length_le (i := m) (l := cur.take off) (by rw [hA]; omega), hA, List.take_append, List.take_of_length_le (i := m - off) (l := p) (by omega), List.take_take, Nat.min_eq_left (by omega : off ≤ m), List.drop_take, Nat.sub_sub]

/-- A page stored into an owned row. -/
theorem own_store {w w' : World} {B g n cap : Nat} {e : TypeId} {pgs : List (List Value)} (h : w.ownsRow B e 64 (.slice (some ⟨g, 0, none⟩) n cap) n pgs.flatten) (hP : Pages pgs) (hn : pgs.length = n) (k : Nat) (hk : k < n) (p : List Value) (hp : IsPage p)
    (hst : ∀ cur : List Value, w.heap[g]? = some (.cells cur.toArray e (0, 0)) → w'.heap[g]? = some (.cells (splice cur (k * 64) p).toArray e (0, 0))) :
    w'.ownsRow B e 64 (.slice (some ⟨g, 0, none⟩) n cap) n (pgs.set k p).flatten := by
  have hP' : Pages (pgs.set k p) := fun x hx => by
    rcases List.mem_or_eq_of_mem_set hx with hx | rfl
    · exact hP x hx
    · exact hp
  refine ⟨by rw [flat_length hP', List.length_set, hn], ?_⟩
  rcases h.2 with ⟨_, h0⟩ | ⟨g', cap', cur, hv, hb, hg, hc, hm, hs, ht⟩
  · omega
  · simp only [Value.slice.injEq, Option.some.injEq, Addr.mk.injEq, true_and, and_true] at hv
    obtain ⟨rfl, rfl⟩ := hv
    have hst' := hst cur.toList (by simpa using hg)
    have hcl : cur.toList.length = cap * 64 := by rw [Array.length_toList, hs]
    have hpl := hp.1
    have hkn : k * 64 + 64 ≤ n * 64 := by omega
    have hnc : n * 64 ≤ cap * 64 := by omega
    refine .inr ⟨g, cap, (splice cur.toList (k * 64) p).toArray, rfl, hb, hst', hc, hm, ?_, ?_⟩
    · rw [List.size_toArray]
      simp only [splice, List.length_append, List.length_take, List.length_drop]
      omega
    · rw [List.toList_toArray, ← splice_page hP k (by omega) p hp, ← ht]
      exact splice_take _ _ _ _ (by rw [hpl]; exact hkn) (by rw [hcl]; exact hnc)
end Go.Proofs.YtbmpbcnoclhhgaaDoor
