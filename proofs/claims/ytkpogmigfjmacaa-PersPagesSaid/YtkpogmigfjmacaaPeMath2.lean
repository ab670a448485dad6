/-
  What the orders do to a table, on lists.
-/
import Derived.Test.YtkpogmigfjmacaaPeWith
set_option linter.unusedSimpArgs false
set_option linter.unusedVariables false
namespace Go.Proofs.Ytkpogmigfjmacaa
open Go.RowKit

structure Tb where
  g : Int
  l : List (Int × Int)
  h : Int
  t : Int
  p : Bool
abbrev Res := Tb × Int × List Int
def nextG (g : Int) : Int := IntKind.u32.wrap (g + 1)
def resvL (T : Tb) (n k : Int) : Res :=
  if isTyB k = false then (T, 2, []) else if resB T.t = false then ({ T with h := n, t := k }, 0, []) else if holdsB T.l T.h T.t n = false then (T, 24, []) else if k = T.t then (T, 0, []) else (T, 24, [])
def relsL (T : Tb) (n k : Int) : Res :=
  if holdsB T.l T.h T.t n = false then (T, 0, []) else if k = T.t then ({ T with h := -1, t := 0 }, 0, []) else (T, 2, [])
def remTb (T : Tb) (pd : Int × Int → Bool) : Tb := { T with l := leftOf pd T.l, h := remH (leftOf pd T.l) T.h T.t, t := remT (leftOf pd T.l) T.h T.t }
def clrL (T : Tb) : Res := ({ remTb T (fun _ => true) with g := nextG T.g }, 0, goneOf (fun _ => true) T.l)
def isN (n : Int) (q : Int × Int) : Bool := q.1 == n
def regL (T : Tb) (n a key other : Int) (ap : Bool) : Res :=
  if a = 0 ∧ key ≠ keyL T.l n then (T, 24, []) else if keyL T.l n = 0 ∧ other = 0 then (T, 0, []) else if keyL T.l n = 0 ∧ 6 ≤ T.l.length then (T, 8, [])
  else if other = 0 then ({ remTb T (isN n) with g := nextG T.g, p := ap }, 0, goneOf (isN n) T.l)
  else ({ T with l := withL T.l n other, g := nextG T.g, p := ap }, 0, [])
def preL (T : Tb) (n ty other : Int) : Res :=
  if other = 0 ∧ takesB T.l T.h T.t other = false then (T, 2, []) else if takesB T.l T.h T.t other = true ∧ isTyB ty = false then (T, 2, [])
  else if takesB T.l T.h T.t other = true then ({ remTb T (namedB true n other) with g := nextG T.g, h := n, t := ty }, 0, goneOf (namedB true n other) T.l)
  else if T.l.any (namedB false n other) = false then (T, 24, [])
  else ({ remTb T (namedB false n other) with g := nextG T.g }, 0, goneOf (namedB false n other) T.l)
def actL (T : Tb) (n a ty key other : Int) (ap : Bool) : Res :=
  if a = 0 ∨ a = 6 then regL T n a key other ap else if a < 0 ∨ 6 < a then (T, 2, []) else if regB T.l n = false then (T, 24, []) else if keyL T.l n = key then
    (if a = 1 then resvL T n ty else if a = 2 then relsL T n ty else if a = 3 then clrL T else preL T n ty other) else (T, 24, [])

/-- A table's value. -/
def tV (T : Tb) (A : Option Addr) (len cap : Nat) : Value := .agg #[.int .u32 T.g, .slice A len cap, .int .i64 T.h, .int .i64 T.t, .bool T.p]
/-- The slice that is answered: the one that was handed in, or one of the call's own. -/
def KeptR (w : World) (A0 : Option Addr) (len0 cap0 : Nat) (l0 : List (Int × Int)) (A : Option Addr) (len cap : Nat) (l : List (Int × Int)) (w' : World) : Prop :=
  (A = A0 ∧ len = len0 ∧ cap = cap0 ∧ l = l0) ∨ OwnR w.heap.size w' (.slice A len cap) l
def ActP (w : World) (A0 : Option Addr) (len0 cap0 : Nat) (l0 : List (Int × Int)) (R : Res) (e : Ending) (w' : World) : Prop :=
  ∃ A len cap u, e = .returned (.tuple #[.agg #[.int .u32 R.1.g, .slice A len cap, .int .i64 R.1.h, .int .i64 R.1.t, .bool R.1.p], .int .i64 R.2.1, u]) ∧ KeptR w A0 len0 cap0 l0 A len cap R.1.l w' ∧ OwnI w.heap.size w' u R.2.2 ∧ Below w.heap.size w w'
theorem OwnR.sl {B : Nat} {w : World} {v : Value} {l : List (Int × Int)} (h : OwnR B w v l) : ∃ A cap, v = .slice A l.length cap ∧ SlR w A l.length cap l := by
  obtain ⟨A, cap, rfl, hR⟩ := h.form
  refine ⟨A, cap, rfl, rfl, ?_, fun hA => ?_, hR⟩
  · rcases h.2 with ⟨hv, h0⟩ | ⟨g, c, cur, hv, _, _, hnc, _⟩
    · omega
    · injection hv with _ _ e
      omega
  · subst hA
    rcases h.2 with ⟨hv, h0⟩ | ⟨g, c, cur, hv, _⟩
    · injection hv with _ _ e
    · injection hv with e _ _
      cases e

theorem box5 {w : World} {b : Nat} {T : TypeId} {v0 v1 v2 v3 v4 : Value} (h : w.heap[b]? = some (.cells #[v0, v1, v2, v3, v4] T (0, 0))) :
    b < w.heap.size ∧ w.cell? ⟨b, 0, none⟩ = some v0 ∧ w.cell? ⟨b, 1, none⟩ = some v1 ∧ w.cell? ⟨b, 2, none⟩ = some v2 ∧ w.cell? ⟨b, 3, none⟩ = some v3 ∧ w.cell? ⟨b, 4, none⟩ = some v4 ∧ ∀ o, w.frozen? ⟨b, o, none⟩ = false :=
  ⟨(Array.getElem?_eq_some_iff.1 h).1, cell_of_row w b 0 _ _ _ h, cell_of_row w b 1 _ _ _ h, cell_of_row w b 2 _ _ _ h, cell_of_row w b 3 _ _ _ h, cell_of_row w b 4 _ _ _ h, fun o => by simp [World.frozen?, h]⟩
theorem box1 {w : World} {b : Nat} {T : TypeId} {v0 : Value} (h : w.heap[b]? = some (.cells #[v0] T (0, 0))) :
    b < w.heap.size ∧ w.cell? ⟨b, 0, none⟩ = some v0 ∧ ∀ o, w.frozen? ⟨b, o, none⟩ = false :=
  ⟨(Array.getElem?_eq_some_iff.1 h).1, cell_of_row w b 0 _ _ _ h, fun o => by simp [World.frozen?, h]⟩
theorem set5_heap {w : World} {b : Nat} {T : TypeId} {u0 u1 u2 u3 u4 : Value} (h : w.heap[b]? = some (.cells #[u0, u1, u2, u3, u4] T (0, 0))) (v0 v1 v2 v3 v4 : Value) :
    (((((w.setCell ⟨b, 0, none⟩ v0).setCell ⟨b, 1, none⟩ v1).setCell ⟨b, 2, none⟩ v2).setCell ⟨b, 3, none⟩ v3).setCell ⟨b, 4, none⟩ v4).heap[b]? = some (.cells #[v0, v1, v2, v3, v4] T (0, 0)) :=
  (heap_setCell_same _ b 4 _ T v4 (heap_setCell_same _ b 3 _ T v3 (heap_setCell_same _ b 2 _ T v2 (heap_setCell_same _ b 1 _ T v1 (heap_setCell_same w b 0 _ T v0 h))))).trans rfl
theorem set5_other {w : World} {b j : Nat} (hj : j ≠ b) (v0 v1 v2 v3 v4 : Value) :
    (((((w.setCell ⟨b, 0, none⟩ v0).setCell ⟨b, 1, none⟩ v1).setCell ⟨b, 2, none⟩ v2).setCell ⟨b, 3, none⟩ v3).setCell ⟨b, 4, none⟩ v4).heap[j]? = w.heap[j]? := by
  have e : ∀ (W : World) (i : Nat) (v : Value), (W.setCell ⟨b, i, none⟩ v).heap[j]? = W.heap[j]? := fun W i v => Below.heap_setCell W ⟨b, i, none⟩ v j hj
  rw [e, e, e, e, e]
theorem heap_alloc2 (w : World) (o o' : Obj) : ((w.alloc o).alloc o').heap[w.heap.size]? = some o ∧ ((w.alloc o).alloc o').heap[w.heap.size + 1]? = some o' :=
  ⟨by rw [Below.heap_alloc _ _ _ (by simp)]; exact heap_alloc_new w _, by simpa using heap_alloc_new (w.alloc o) o'⟩

theorem OwnR.sl1 {B : Nat} {w : World} {A : Option Addr} {c : Nat} {l : List (Int × Int)} (h : OwnR B w (.slice A l.length c) l) : SlR w A l.length c l := by
  obtain ⟨A', c', he, hs⟩ := h.sl
  injection he with h1 _ h3
  subst h1 h3
  exact hs

/-- A call's boxes: a table, a nexus, an order, the answer. -/
def Bx (w : World) (b : Nat) (tb nx od rs : Array Value) : Prop :=
  w.heap[b]? = some (.cells tb 25 (0, 0)) ∧ w.heap[b + 1]? = some (.cells nx 3 (0, 0)) ∧ w.heap[b + 2]? = some (.cells od 28 (0, 0)) ∧ w.heap[b + 3]? = some (.cells rs 25 (0, 0))
theorem Bx.start (w : World) (tb nx od rs : Array Value) : Bx ((((w.alloc (.cells tb 25)).alloc (.cells nx 3)).alloc (.cells od 28)).alloc (.cells rs 25)) w.heap.size tb nx od rs := by
  refine ⟨?_, ?_, ?_, ?_⟩
  · rw [Below.heap_alloc _ _ _ (by simp only [World.size_alloc]; omega), Below.heap_alloc _ _ _ (by simp only [World.size_alloc]; omega), Below.heap_alloc _ _ _ (by simp only [World.size_alloc]; omega)]; exact heap_alloc_new w _
  · rw [Below.heap_alloc _ _ _ (by simp only [World.size_alloc]; omega), Below.heap_alloc _ _ _ (by simp only [World.size_alloc]; omega)]; simpa using heap_alloc_new (w.alloc _) (.cells nx 3)
  · rw [Below.heap_alloc _ _ _ (by simp only [World.size_alloc]; omega)]; simpa using heap_alloc_new ((w.alloc _).alloc _) (.cells od 28)
  · simpa using heap_alloc_new (((w.alloc _).alloc _).alloc _) (.cells rs 25)
theorem Bx.lt {w : World} {b : Nat} {tb nx od rs : Array Value} (h : Bx w b tb nx od rs) : b + 3 < w.heap.size := (Array.getElem?_eq_some_iff.1 h.2.2.2).1
theorem Bx.below {w w' : World} {b : Nat} {tb nx od rs : Array Value} (h : Bx w b tb nx od rs) (hb : Below w.heap.size w w') : Bx w' b tb nx od rs := by
  have := h.lt
  exact ⟨(hb.block _ (by omega)).trans h.1, (hb.block _ (by omega)).trans h.2.1, (hb.block _ (by omega)).trans h.2.2.1, (hb.block _ (by omega)).trans h.2.2.2⟩
theorem Bx.set {w : World} {b : Nat} {tb nx od rs : Array Value} (h : Bx w b tb nx od rs) (i : Nat) (v : Value) : Bx (w.setCell ⟨b, i, none⟩ v) b (tb.setIfInBounds i v) nx od rs := by
  have e : ∀ j, j ≠ b → (w.setCell ⟨b, i, none⟩ v).heap[j]? = w.heap[j]? := fun j hj => Below.heap_setCell w ⟨b, i, none⟩ v j hj
  exact ⟨heap_setCell_same w b i tb _ v h.1, (e _ (by omega)).trans h.2.1, (e _ (by omega)).trans h.2.2.1, (e _ (by omega)).trans h.2.2.2⟩
theorem Bx.set5 {w : World} {b : Nat} {u0 u1 u2 u3 u4 : Value} {nx od rs : Array Value} (h : Bx w b #[u0, u1, u2, u3, u4] nx od rs) (v0 v1 v2 v3 v4 : Value) :
    Bx (((((w.setCell ⟨b, 0, none⟩ v0).setCell ⟨b, 1, none⟩ v1).setCell ⟨b, 2, none⟩ v2).setCell ⟨b, 3, none⟩ v3).setCell ⟨b, 4, none⟩ v4) b #[v0, v1, v2, v3, v4] nx od rs :=
  ⟨set5_heap h.1 _ _ _ _ _, (set5_other (by omega) _ _ _ _ _).trans h.2.1, (set5_other (by omega) _ _ _ _ _).trans h.2.2.1, (set5_other (by omega) _ _ _ _ _).trans h.2.2.2⟩
theorem bel4 (w : World) (a b c d : Obj) : Below w.heap.size w ((((w.alloc a).alloc b).alloc c).alloc d) := ((bel2 w a b).alloc (by simp only [World.size_alloc]; omega) c).alloc (by simp only [World.size_alloc]; omega) d

theorem KeptR.sl {w w' : World} {A0 : Option Addr} {len0 cap0 : Nat} {l0 : List (Int × Int)} {A : Option Addr} {len cap : Nat} {l : List (Int × Int)} (h : KeptR w A0 len0 cap0 l0 A len cap l w') (hS : SlR w A0 len0 cap0 l0) (hb : Below w.heap.size w w') : SlR w' A len cap l := by
  rcases h with ⟨rfl, rfl, rfl, rfl⟩ | h
  · exact hS.below hb
  · obtain ⟨A', c', he, hs⟩ := h.sl
    injection he with h1 h2 h3
    subst h1 h2 h3
    exact hs

theorem KeptR.fin {w w2 w8 : World} {A0 : Option Addr} {len0 cap0 : Nat} {l0 : List (Int × Int)} {A : Option Addr} {len cap : Nat} {l : List (Int × Int)} (h : KeptR w2 A0 len0 cap0 l0 A len cap l w8) {b : Nat} (hb : b < w2.heap.size) (hle : w.heap.size ≤ w2.heap.size) (v0 v1 v2 v3 v4 : Value) :
    KeptR w A0 len0 cap0 l0 A len cap l (((((w8.setCell ⟨b, 0, none⟩ v0).setCell ⟨b, 1, none⟩ v1).setCell ⟨b, 2, none⟩ v2).setCell ⟨b, 3, none⟩ v3).setCell ⟨b, 4, none⟩ v4) :=
  h.imp id fun h => (OwnR.set5 h hb v0 v1 v2 v3 v4).lower hle
end Go.Proofs.Ytkpogmigfjmacaa
