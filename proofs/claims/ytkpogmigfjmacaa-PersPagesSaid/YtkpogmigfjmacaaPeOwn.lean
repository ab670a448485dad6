/-
  Rows of the call's own: registrations, nexuses.
-/
import Derived.Test.YtkpogmigfjmacaaPeSound
import Derived.Deep.AppendLies
import Derived.Deep.Onto
import Derived.Lib.SmallJoins
set_option linter.unusedSimpArgs false
set_option linter.unusedVariables false
namespace Go.Proofs.Ytkpogmigfjmacaa
open Go.RowKit

def rowsR (l : List (Int × Int)) : List Value := l.flatMap fun q => [.int .i64 q.1, .int .u64 q.2]
def intsV (l : List Int) : List Value := l.map (Value.int .i64)
theorem rowsR_snoc (l : List (Int × Int)) (q : Int × Int) : rowsR (l ++ [q]) = rowsR l ++ [.int .i64 q.1, .int .u64 q.2] := by simp [rowsR]
theorem rowsR_len (l : List (Int × Int)) : (rowsR l).length = l.length * 2 := by
  induction l with
  | nil => rfl
  | cons q l ih => simp only [rowsR, List.flatMap_cons, List.length_append, List.length_cons, List.length_nil] at ih ⊢; omega
theorem rowsR_at : ∀ (l : List (Int × Int)) (j : Nat) (q : Int × Int), l[j]? = some q → (rowsR l)[j * 2]? = some (.int .i64 q.1) ∧ (rowsR l)[j * 2 + 1]? = some (.int .u64 q.2)
  | [], _, _, h => by simp at h
  | r :: l, 0, q, h => by
    obtain rfl : r = q := by simpa using h
    exact ⟨rfl, rfl⟩
  | r :: l, j + 1, q, h => by
    have := rowsR_at l j q (by simpa using h)
    have e : (j + 1) * 2 = j * 2 + 1 + 1 := by omega
    rw [e]
    exact ⟨this.1, this.2⟩
/-- A slice of registrations, of ints, that lies from block B on. -/
def OwnR (B : Nat) (w : World) (v : Value) (l : List (Int × Int)) : Prop := w.ownsRow B 38 2 v l.length (rowsR l)
def OwnI (B : Nat) (w : World) (v : Value) (l : List Int) : Prop := w.ownsRow B 3 1 v l.length (intsV l)
theorem OwnR.nil (B : Nat) (w : World) : OwnR B w (.slice none 0 0) [] := World.ownsRow_nil _ _ _ _
theorem OwnI.nil (B : Nat) (w : World) : OwnI B w (.slice none 0 0) [] := World.ownsRow_nil _ _ _ _
theorem OwnR.alloc {B : Nat} {w : World} {v : Value} {l : List (Int × Int)} (h : OwnR B w v l) (o : Obj) : OwnR B (w.alloc o) v l := World.ownsRow.alloc h o
theorem OwnI.alloc {B : Nat} {w : World} {v : Value} {l : List Int} (h : OwnI B w v l) (o : Obj) : OwnI B (w.alloc o) v l := World.ownsRow.alloc h o
theorem own_kept {B size n : Nat} {e : TypeId} {w w' : World} {v : Value} {xs : List Value} (h : w.ownsRow B e size v n xs) (hb : Below w.heap.size w w') : w'.ownsRow B e size v n xs := by
  refine ⟨h.1, h.2.imp id fun ⟨g, cap, cur, h1, h2, h3, h4⟩ => ⟨g, cap, cur, h1, h2, ?_, h4⟩⟩
  exact (hb.block g (Array.getElem?_eq_some_iff.1 h3).1).trans h3
theorem OwnR.below {B : Nat} {w w' : World} {v : Value} {l : List (Int × Int)} (h : OwnR B w v l) (hb : Below w.heap.size w w') : OwnR B w' v l := own_kept h hb
theorem OwnI.below {B : Nat} {w w' : World} {v : Value} {l : List Int} (h : OwnI B w v l) (hb : Below w.heap.size w w') : OwnI B w' v l := own_kept h hb
theorem OwnR.lower {B B' : Nat} {w : World} {v : Value} {l : List (Int × Int)} (h : OwnR B w v l) (hb : B' ≤ B) : OwnR B' w v l := World.ownsRow.mono h hb
theorem OwnI.lower {B B' : Nat} {w : World} {v : Value} {l : List Int} (h : OwnI B w v l) (hb : B' ≤ B) : OwnI B' w v l := World.ownsRow.mono h hb
/-- Rows of unlike elements lie apart. -/
theorem own_apart {B B' s s' n n' : Nat} {e e' : TypeId} {w : World} {v v' : Value} {xs xs' : List Value} (h : w.ownsRow B e s v n xs) (h' : w.ownsRow B' e' s' v' n' xs') (hne : e ≠ e') : v.ownBlock = none ∨ v.ownBlock ≠ v'.ownBlock := by
  rcases h.2 with ⟨rfl, _⟩ | ⟨g, cap, cur, rfl, _, hh, _⟩
  · exact .inl rfl
  · right
    rcases h'.2 with ⟨rfl, _⟩ | ⟨g', cap', cur', rfl, _, hh', _⟩
    · simp [Value.ownBlock]
    · intro he
      have : g = g' := by simpa [Value.ownBlock] using he
      subst this
      rw [hh] at hh'
      injection hh' with hh'
      injection hh' with _ ht
      exact hne ht
theorem OwnR.grown {B : Nat} {w w' : World} {v v' : Value} {l : List (Int × Int)} {l' : List Int} (h : OwnR B w v l) (h' : OwnI B w v' l') (hg : w.grownBy w' v'.ownBlock) : OwnR B w' v l :=
  World.ownsRow.kept h hg (own_apart h h' (by decide))
theorem OwnI.grown {B : Nat} {w w' : World} {v v' : Value} {l : List Int} {l' : List (Int × Int)} (h : OwnI B w v l) (h' : OwnR B w v' l') (hg : w.grownBy w' v'.ownBlock) : OwnI B w' v l :=
  World.ownsRow.kept h hg (own_apart h h' (by decide))
theorem below_grown {B : Nat} {w0 w w' : World} {v : Value} {e : TypeId} {s n : Nat} {xs : List Value} (h : Below B w0 w) (ho : w.ownsRow B e s v n xs) (hg : w.grownBy w' v.ownBlock) (hB : B ≤ w.heap.size) : Below B w0 w' :=
  h.grown hg hB fun k hk => (ho.lt k hk).1
/-- A row of one's own read as registrations. -/
theorem OwnR.form {B : Nat} {w : World} {v : Value} {l : List (Int × Int)} (h : OwnR B w v l) : ∃ A cap, v = .slice A l.length cap ∧ RgA w.heap.size w A l := by
  rcases h.2 with ⟨rfl, h0⟩ | ⟨g, cap, cur, rfl, _, hh, _, _, _, ht⟩
  · have : l = [] := List.eq_nil_of_length_eq_zero h0
    subst this
    exact ⟨none, 0, rfl, .inl rfl⟩
  · refine ⟨_, cap, rfl, .inr ⟨g, 0, rfl, (Array.getElem?_eq_some_iff.1 hh).1, fun j q hq => ?_⟩⟩
    have hc := World.ownsRow.cells h (g := g) rfl
    obtain ⟨h1, h2⟩ := rowsR_at l j q hq
    have k1 := hc _ _ h1
    have k2 := hc _ _ h2
    have e : ∀ i, (⟨g, 0, none⟩ : Addr).add i = ⟨g, 0 + i, none⟩ := fun i => by unfold Addr.add; split <;> simp_all
    rw [e] at k1 k2
    exact ⟨k1, by rw [Nat.add_assoc]; exact k2⟩
/-- Ints, wherever they lie below block N. -/
def InA (N : Nat) (w : World) (A : Option Addr) (l : List Int) : Prop :=
  l = [] ∨ ∃ b o, A = some ⟨b, o, none⟩ ∧ b < N ∧ ∀ (j : Nat) (q : Int), l[j]? = some q → w.cell? ⟨b, o + j, none⟩ = some (.int .i64 q)
theorem InA.below {N : Nat} {w w' : World} {A : Option Addr} {l : List Int} (h : InA N w A l) (hb : Below N w w') : InA N w' A l :=
  h.imp id (fun ⟨b, o, h1, h2, h3⟩ => ⟨b, o, h1, h2, fun j q hj => (hb.cell (p := ⟨b, o + j, none⟩) h2).trans (h3 j q hj)⟩)
theorem InA.mono {N M : Nat} {w : World} {A : Option Addr} {l : List Int} (h : InA N w A l) (hN : N ≤ M) : InA M w A l :=
  h.imp id (fun ⟨b, o, h1, h2, h3⟩ => ⟨b, o, h1, by omega, h3⟩)
theorem OwnI.form {B : Nat} {w : World} {v : Value} {l : List Int} (h : OwnI B w v l) : ∃ A cap, v = .slice A l.length cap ∧ InA w.heap.size w A l := by
  rcases h.2 with ⟨rfl, h0⟩ | ⟨g, cap, cur, rfl, _, hh, _, _, _, ht⟩
  · have : l = [] := List.eq_nil_of_length_eq_zero h0
    subst this
    exact ⟨none, 0, rfl, .inl rfl⟩
  · refine ⟨_, cap, rfl, .inr ⟨g, 0, rfl, (Array.getElem?_eq_some_iff.1 hh).1, fun j q hq => ?_⟩⟩
    have hc := World.ownsRow.cells h (g := g) rfl
    have k1 := hc j (.int .i64 q) (by unfold intsV; rw [List.getElem?_map, hq]; rfl)
    have e : ∀ i, (⟨g, 0, none⟩ : Addr).add i = ⟨g, 0 + i, none⟩ := fun i => by unfold Addr.add; split <;> simp_all
    rw [e] at k1
    exact k1
theorem infoReg : (Try.prog.info? 38).map (fun i => (i.zero, i.size, i.bytes)) = some (some (.agg #[.int .i64 0, .int .u64 0]), 2, 16) := by kernel_rfl
theorem infoInt : (Try.prog.info? 3).map (fun i => (i.zero, i.size, i.bytes)) = some (some (.int .i64 0), 1, 8) := by kernel_rfl

theorem own_set {B size n : Nat} {e : TypeId} {w : World} {v : Value} {xs : List Value} (h : w.ownsRow B e size v n xs) {p : Addr} (hp : p.block < B) (u : Value) : (w.setCell p u).ownsRow B e size v n xs := by
  refine ⟨h.1, h.2.imp id fun ⟨g, cap, cur, h1, h2, h3, h4⟩ => ⟨g, cap, cur, h1, h2, ?_, h4⟩⟩
  exact (Below.heap_setCell w p u g (by omega)).trans h3
theorem OwnR.set {B : Nat} {w : World} {v : Value} {l : List (Int × Int)} (h : OwnR B w v l) {p : Addr} (hp : p.block < B) (u : Value) : OwnR B (w.setCell p u) v l := own_set h hp u
theorem OwnI.set {B : Nat} {w : World} {v : Value} {l : List Int} (h : OwnI B w v l) {p : Addr} (hp : p.block < B) (u : Value) : OwnI B (w.setCell p u) v l := own_set h hp u
theorem OwnR.set5 {B b : Nat} {w : World} {v : Value} {l : List (Int × Int)} (h : OwnR B w v l) (hp : b < B) (v0 v1 v2 v3 v4 : Value) : OwnR B (((((w.setCell ⟨b, 0, none⟩ v0).setCell ⟨b, 1, none⟩ v1).setCell ⟨b, 2, none⟩ v2).setCell ⟨b, 3, none⟩ v3).setCell ⟨b, 4, none⟩ v4) v l :=
  ((((h.set (p := ⟨b, 0, none⟩) hp _).set (p := ⟨b, 1, none⟩) hp _).set (p := ⟨b, 2, none⟩) hp _).set (p := ⟨b, 3, none⟩) hp _).set (p := ⟨b, 4, none⟩) hp _
theorem OwnI.set5 {B b : Nat} {w : World} {v : Value} {l : List Int} (h : OwnI B w v l) (hp : b < B) (v0 v1 v2 v3 v4 : Value) : OwnI B (((((w.setCell ⟨b, 0, none⟩ v0).setCell ⟨b, 1, none⟩ v1).setCell ⟨b, 2, none⟩ v2).setCell ⟨b, 3, none⟩ v3).setCell ⟨b, 4, none⟩ v4) v l :=
  ((((h.set (p := ⟨b, 0, none⟩) hp _).set (p := ⟨b, 1, none⟩) hp _).set (p := ⟨b, 2, none⟩) hp _).set (p := ⟨b, 3, none⟩) hp _).set (p := ⟨b, 4, none⟩) hp _
/-- The first registration of a row that has one. -/
theorem OwnR.head {B : Nat} {w : World} {v : Value} {r : Int × Int} {l : List (Int × Int)} (h : OwnR B w v (r :: l)) : ∃ g cap, v = .slice (some ⟨g, 0, none⟩) (r :: l).length cap ∧ g < w.heap.size ∧ w.cell? ⟨g, 0, none⟩ = some (.int .i64 r.1) := by
  obtain ⟨A, cap, rfl, hR⟩ := h.form
  rcases h.2 with ⟨hv, h0⟩ | ⟨g, cap', cur, hv, _, hh, _⟩
  · simp at h0
  · cases hv
    rcases hR with h0 | ⟨b, o, hA, hbN, hc⟩
    · cases h0
    · cases hA
      exact ⟨_, _, rfl, hbN, by simpa using (hc 0 r rfl).1⟩

theorem undrew {w w' : World} (h : Below w.drew.heap.size w.drew w') : Below w.heap.size w w' := ((Below.refl w.heap.size w).drew).trans h
end Go.Proofs.Ytkpogmigfjmacaa
