/-
  A slice of numbers beside a book, appended to.
-/
import Derived.Test.YtjkkbceddbkejaaGreatDoorDpLaw
set_option linter.unusedSimpArgs false
set_option linter.unusedVariables false
namespace Go.Proofs.YtjkkbceddbkejaaGreatDoor
open Go.RowKit Sh Go.Maps Go.Extern.Stop Go.Stop Go.Extern

def slI (L : List Nat) : List Value := L.map fun s => Value.int .i64 (s : Nat)
theorem slI_len (L : List Nat) : (slI L).length = L.length := List.length_map ..
theorem owns_of_block {w w' : World} {B nb : Nat} {e : TypeId} {s n : Nat} {v : Value} {xs : List Value} (h : w.ownsRow B e s v n xs) (hb : v.ownBlock = some nb) (he : w'.heap[nb]? = w.heap[nb]?) : w'.ownsRow B e s v n xs := by
  obtain ⟨h1, h2⟩ := h
  refine ⟨h1, ?_⟩
  rcases h2 with ⟨rfl, _⟩ | ⟨g, cap, cur, rfl, hB, hg, h3⟩
  · cases hb
  · have e : g = nb := Option.some.inj hb
    subst e
    exact .inr ⟨g, cap, cur, rfl, hB, he.trans hg, h3⟩
/-- The slice v of these numbers, in the first block of T (or in none). -/
def SlT (x : Nat × Obj) (T : List (Nat × Obj)) (v : Value) (L : List Nat) (B : Nat) : Prop :=
  (L = [] ∧ v = .slice none 0 0 ∧ T = [x]) ∨ (∃ nb cap o, v = .slice (some ⟨nb, 0, none⟩) L.length cap ∧ nb ≠ x.1 ∧ T = [(nb, o), x] ∧ ∀ w : World, w.heap[nb]? = some o → w.ownsRow B 3 1 v L.length (slI L))
section
variable {b : Bk} {gd g : Nat} {x : Nat × Obj} {T : List (Nat × Obj)} {v : Value} {L : List Nat} {w0 w w4 : World}
theorem SlT.mem {B : Nat} (h : SlT x T v L B) : x ∈ T := by
  rcases h with ⟨_, _, rfl⟩ | ⟨_, _, _, _, _, rfl, _⟩ <;> simp
theorem SlT.form {B : Nat} (h : SlT x T v L B) : ∃ ap cap, v = .slice ap L.length cap := by
  rcases h with ⟨rfl, rfl, _⟩ | ⟨_, cap, _, rfl, _⟩
  · exact ⟨none, 0, rfl⟩
  · exact ⟨_, cap, rfl⟩
theorem SlT.owns {B : Nat} (h : SlT x T v L B) (hX : OwnX b gd g T w0 w) : w.ownsRow B 3 1 v L.length (slI L) := by
  rcases h with ⟨rfl, rfl, _⟩ | ⟨nb, cap, o, _, _, rfl, h⟩
  · exact World.ownsRow_nil _ _ _ _
  · exact h w (hX.at_ (x := (nb, o)) (by simp))
theorem SlT.cell {B : Nat} (h : SlT x T v L B) (hX : OwnX b gd g T w0 w) {k s : Nat} (hk : L[k]? = some s) : ∃ nb cap, v = .slice (some ⟨nb, 0, none⟩) L.length cap ∧ w.cell? ⟨nb, k, none⟩ = some (.int .i64 (s : Nat)) := by
  have hl := (List.getElem?_eq_some_iff.1 hk).1
  have ho := h.owns hX
  obtain ⟨h1, h2⟩ := ho
  rcases h2 with ⟨_, h0⟩ | ⟨q, cap, cur, rfl, _, hq, hn, _, hs, ht⟩
  · omega
  · refine ⟨q, cap, rfl, ?_⟩
    rw [cell_of_row w q k _ _ _ hq]
    have e : (cur.toList.take (L.length * 1))[k]? = some (.int .i64 (s : Nat)) := by rw [ht, slI, List.getElem?_map, hk]; rfl
    rw [List.getElem?_take_of_lt (by omega)] at e
    rw [← e, Array.getElem?_toList]
/-- A number is appended. -/
theorem SlT.append (h : SlT x T v L w0.heap.size) (hX : OwnX b gd g T w0 w) {s q cap : Nat} (hown : w4.ownsRow w0.heap.size 3 1 (.slice (some ⟨q, 0, none⟩) (L.length + 1) cap) (L.length + 1) (slI L ++ [.int .i64 (s : Nat)]))
    (hgr : w.grownBy w4 v.ownBlock) (hat : v.ownBlock = some q ∨ w.heap.size ≤ q) :
    ∃ T', OwnX b gd g T' w0 w4 ∧ SlT x T' (.slice (some ⟨q, 0, none⟩) (L ++ [s]).length cap) (L ++ [s]) w0.heap.size := by
  have hlen : (L ++ [s]).length = L.length + 1 := by simp
  have hsl : slI (L ++ [s]) = slI L ++ [.int .i64 (s : Nat)] := by simp [slI]
  obtain ⟨o4, ho4⟩ : ∃ o4, w4.heap[q]? = some o4 := by
    obtain ⟨_, h2⟩ := hown
    rcases h2 with ⟨h0, _⟩ | ⟨q', cap', cur, he, _, hq, _⟩
    · cases h0
    · have e : q = q' := by
        simp only [Value.slice.injEq, Option.some.injEq, Addr.mk.injEq] at he
        exact he.1.1
      subst e
      exact ⟨_, hq⟩
  have hfin : ∀ W : World, W.heap[q]? = some o4 → W.ownsRow w0.heap.size 3 1 (.slice (some ⟨q, 0, none⟩) (L ++ [s]).length cap) (L ++ [s]).length (slI (L ++ [s])) := fun W hW => by
    rw [hlen, hsl]
    exact owns_of_block hown rfl (hW.trans ho4.symm)
  rcases h with ⟨rfl, rfl, rfl⟩ | ⟨nb, c0, o, rfl, hne, rfl, _⟩
  · have hq : w.heap.size ≤ q := hat.resolve_left (fun e => by cases e)
    have hb : Below w.heap.size w w4 := ⟨hgr.os, hgr.tape, hgr.output, hgr.size, fun k hk => hgr.block k hk (by simp [Value.ownBlock])⟩
    refine ⟨_, hX.holds hb hq ho4, .inr ⟨q, cap, o4, rfl, ?_, rfl, hfin⟩⟩
    have := hX.arr.lt (x := x) (by simp)
    omega
  · have hgr' : w.grownBy w4 (some nb) := hgr
    rcases hat with e | hq
    · have e2 : nb = q := Option.some.inj e
      subst e2
      obtain ⟨Fd, gr, bn, bt, hi, hF⟩ := hX.ex
      have ho := Only.of_grown (F := fun k => k = nb) hgr' (fun k e => by simpa using e.symm)
      have hbase := (hX.arr (nb, o) (by simp)).2
      refine ⟨[(nb, o4), x], ⟨⟨Fd, gr, bn, bt, hi.only ho (fun k hk e => (hF k hk).2 (nb, o) (by simp) e), fun k hk => ⟨(hF k hk).1, fun y hy => ?_⟩⟩,
        hX.bel.trans (ho.base hX.bel.size (fun k hk => by have e : k = nb := hk; rw [e]; exact hbase)), fun y hy => ?_⟩, .inr ⟨nb, cap, o4, rfl, hne, rfl, hfin⟩⟩
      · rcases List.mem_cons.1 hy with rfl | hy
        · exact (hF k hk).2 (nb, o) (by simp)
        · exact (hF k hk).2 y (by simp [hy])
      · rcases List.mem_cons.1 hy with rfl | hy
        · exact ⟨ho4, hbase⟩
        · obtain ⟨h1, h2⟩ := hX.arr y (by simp [hy])
          have ey : y = x := by simpa using hy
          exact ⟨(hgr'.block y.1 (Array.getElem?_eq_some_iff.1 h1).1 (by rw [ey]; simp; exact fun e => hne e.symm)).trans h1, h2⟩
    · obtain ⟨Fd, gr, bn, bt, hi, hF⟩ := hX.ex
      have ho := Only.of_grown (F := fun k => k = nb) hgr' (fun k e => by simpa using e.symm)
      have hbase := (hX.arr (nb, o) (by simp)).2
      have hxl := hX.arr.lt (x := x) (by simp)
      refine ⟨[(q, o4), x], ⟨⟨Fd, gr, bn, bt, hi.only ho (fun k hk e => (hF k hk).2 (nb, o) (by simp) e), fun k hk => ⟨(hF k hk).1, fun y hy => ?_⟩⟩,
        hX.bel.trans (ho.base hX.bel.size (fun k hk => by have e : k = nb := hk; rw [e]; exact hbase)), fun y hy => ?_⟩, .inr ⟨q, cap, o4, rfl, by omega, rfl, hfin⟩⟩
      · rcases List.mem_cons.1 hy with rfl | hy
        · have := hi.foot_lt hk
          show k ≠ q
          omega
        · exact (hF k hk).2 y (by simp [hy])
      · rcases List.mem_cons.1 hy with rfl | hy
        · exact ⟨ho4, by have := hX.bel.size; show w0.heap.size ≤ q; omega⟩
        · obtain ⟨h1, h2⟩ := hX.arr y (by simp [hy])
          have ey : y = x := by simpa using hy
          exact ⟨(hgr'.block y.1 (Array.getElem?_eq_some_iff.1 h1).1 (by rw [ey]; simp; exact fun e => hne e.symm)).trans h1, h2⟩
end
end Go.Proofs.YtjkkbceddbkejaaGreatDoor
