/-
  The world of a law that adds records to one ring: the disk, the ring, a box for its mark, the records that were told, and what is kept.
-/
import Derived.Test.YtegdlpllljccgaaDoorLwOne
import Derived.Laws.AppendOwnNone
set_option linter.unusedSimpArgs false
set_option linter.unusedVariables false
namespace Go.Proofs.YtegdlpllljccgaaDoor
open Go.RowKit Sh Go.Extern.Stop Go.Stop Go.Extern

theorem own_keep {B : Nat} {e : TypeId} {k n : Nat} {v : Value} {xs : List Value} {w w' : World} (h : w.ownsRow B e k v n xs) (hb : ∀ g, v.ownBlock = some g → w'.heap[g]? = w.heap[g]?) : w'.ownsRow B e k v n xs := by
  refine ⟨h.1, ?_⟩
  rcases h.2 with h0 | ⟨g, cap, cur, hv, h1, hg, h3⟩
  · exact .inl h0
  · exact .inr ⟨g, cap, cur, hv, h1, (hb g (by rw [hv]; rfl)).trans hg, h3⟩
theorem own_block_lt {B : Nat} {e : TypeId} {k n : Nat} {v : Value} {xs : List Value} {w : World} (h : w.ownsRow B e k v n xs) {g : Nat} (hg : v.ownBlock = some g) : B ≤ g ∧ g < w.heap.size := h.lt g hg
/-- A row of the call's own, by its changes. -/
theorem own_ranges {w : World} {B : Nat} {T : TypeId} {ap : Option Addr} {n cp : Nat} {l : List Chg} (hw : ∀ c ∈ l, c.what.length = 64) (hl : l.length = n) (hn : 0 < n) (h : w.ownsRow B T 65 (.slice ap n cp) n (rowsC l)) :
    ∃ g, ap = some ⟨g, 0, none⟩ ∧ B ≤ g ∧ g < w.heap.size ∧ ∀ i c, l[i]? = some c → w.rangeAt g (i * 65) (chgC c) := by
  have hC := chgs_of_own hw hl h
  rcases h.2 with ⟨_, h0⟩ | ⟨g, cap, cur, hv, hB, hg, _⟩
  · omega
  · simp only [Value.slice.injEq] at hv
    obtain ⟨rfl, _, rfl⟩ := hv
    rcases hC with h0 | ⟨b, e, hb, hr⟩
    · rw [h0] at hl; simp at hl; omega
    · simp only [Option.some.injEq, Addr.mk.injEq, and_true] at e
      subst e
      exact ⟨g, rfl, hB, hb, hr⟩

/-- Records whose rows lie in kept blocks. -/
def RecsK (K : Nat → Prop) (w : World) (vs : List Value) (rs : List (List Chg)) : Prop :=
  vs.length = rs.length ∧ ∀ (i : Nat) (l : List Chg), rs[i]? = some l → ∃ (b cap : Nat), vs[i]? = some (Value.slice (some ⟨b, 0, none⟩) l.length cap) ∧ K b ∧ ∀ (j : Nat) (c : Chg), l[j]? = some c → w.rangeAt b (j * 65) (chgC c)
theorem range_keep {w w' : World} {b o : Nat} {cs : List Value} (h : w.rangeAt b o cs) (hb : w'.heap[b]? = w.heap[b]?) : w'.rangeAt b o cs := fun j v hj => (World.cell?_of_block (a := ⟨b, o + j, none⟩) hb).trans (h j v hj)
theorem row_keep {w w' : World} {b o : Nat} {cs : List Value} (h : w.rangeAt b o cs) {K : Prop} (hK : cs = [] ∨ K) (hb : K → w'.heap[b]? = w.heap[b]?) : w'.rangeAt b o cs := by
  rcases hK with h0 | h1
  · subst h0; exact fun j v hj => by simp at hj
  · exact range_keep h (hb h1)
theorem RecsK.keep {K : Nat → Prop} {w w' : World} {vs : List Value} {rs : List (List Chg)} (h : RecsK K w vs rs) (hk : ∀ b, K b → w'.heap[b]? = w.heap[b]?) : RecsK K w' vs rs :=
  ⟨h.1, fun i l hi => by
    obtain ⟨b, cap, h1, h2, h3⟩ := h.2 i l hi
    exact ⟨b, cap, h1, h2, fun j c hj => range_keep (h3 j c hj) (hk b h2)⟩⟩
theorem RecsK.mono {K K' : Nat → Prop} {w : World} {vs : List Value} {rs : List (List Chg)} (h : RecsK K w vs rs) (hk : ∀ b, K b → K' b) : RecsK K' w vs rs :=
  ⟨h.1, fun i l hi => by obtain ⟨b, cap, h1, h2, h3⟩ := h.2 i l hi; exact ⟨b, cap, h1, hk b h2, h3⟩⟩
theorem RecsK.nil (K : Nat → Prop) (w : World) : RecsK K w [] [] := ⟨rfl, fun i l h => by simp at h⟩
theorem RecsK.snoc {K : Nat → Prop} {w : World} {vs : List Value} {rs : List (List Chg)} {l : List Chg} {b cap : Nat} (h : RecsK K w vs rs) (hb : K b) (hr : ∀ j c, l[j]? = some c → w.rangeAt b (j * 65) (chgC c)) :
    RecsK K w (vs ++ [Value.slice (some ⟨b, 0, none⟩) l.length cap]) (rs ++ [l]) := by
  refine ⟨by simp [h.1], fun i l' hi => ?_⟩
  rcases Nat.lt_trichotomy i rs.length with hlt | heq | hgt
  · rw [List.getElem?_append_left hlt] at hi
    rw [List.getElem?_append_left (by rw [h.1]; exact hlt)]
    exact h.2 i l' hi
  · subst heq
    rw [List.getElem?_append_right (Nat.le_refl _), Nat.sub_self] at hi
    obtain rfl : l = l' := by simpa using hi
    refine ⟨b, cap, ?_, hb, hr⟩
    rw [List.getElem?_append_right (by rw [h.1]; exact Nat.le_refl _), h.1, Nat.sub_self]; rfl
  · rw [List.getElem?_eq_none (by simp; omega)] at hi
    cases hi
theorem RecsK.recsV {K : Nat → Prop} {w : World} {B : Nat} {T : TypeId} {vs : List Value} {rs : List (List Chg)} {ap : Option Addr} {cp : Nat} (h : RecsK K w vs rs) (ho : w.ownsRow B T 1 (.slice ap rs.length cp) rs.length vs) (hf : ∀ l ∈ rs, Fit l) (hK : ∀ b, K b → b < w.heap.size) : RecsV w.heap.size w ap rs := by
  refine ⟨fun l hl => (hf l hl).what, fun l hl => by have := (hf l hl).le; omega, ?_⟩
  rcases ho.2 with ⟨hv, h0⟩ | ⟨g, cap, cur, hv, _, hg, _⟩
  · left; exact List.length_eq_zero_iff.1 h0
  · simp only [Value.slice.injEq] at hv
    obtain ⟨rfl, _, rfl⟩ := hv
    refine .inr ⟨g, rfl, (Array.getElem?_eq_some_iff.1 hg).1, fun i l hi => ?_⟩
    obtain ⟨b, c, hvi, hb, hr⟩ := h.2 i l hi
    have hin : i < rs.length := (List.getElem?_eq_some_iff.1 hi).1
    exact ⟨some ⟨b, 0, none⟩, c, by rw [ho.cellAt i (by omega), hvi], .inr ⟨b, rfl, hK b hb, hr⟩⟩

/-- The world: B: what was there before; gd: the disk; g: the ring; x: the mark's box; q: the row that the loop goes over; K: what is kept. -/
structure RW (B gd g x q : Nat) (F K : Nat → Prop) (S : St) (first n : Nat) (m0 mc : Mk) (used : Nat) (v : Value) (vs : List Value) (rs : List (List Chg)) (prs : List Value) (w : World) : Prop where
  disk : PD S F gd w
  ring : PrAt g gd first n mc used w
  box : w.heap[x]? = some (.cells (markCells m0).toArray 25 (0, 0))
  row : w.rangeAt q 0 prs
  all : w.ownsRow B 58 1 v rs.length vs
  recs : RecsK K w vs rs
  Kq : prs = [] ∨ K q
  dK : ∀ b, K b → (¬ F b ∧ b ≠ g ∧ b ≠ x) ∧ v.ownBlock ≠ some b ∧ b < w.heap.size
  dg : ¬ F g ∧ g ≠ x ∧ v.ownBlock ≠ some g
  dx : ¬ F x ∧ v.ownBlock ≠ some x
  dv : ∀ b, v.ownBlock = some b → ¬ F b
  low : (∀ b, F b → B ≤ b) ∧ B ≤ g ∧ B ≤ x
section
variable {B gd g x q first n : Nat} {F K : Nat → Prop} {S : St} {m0 mc : Mk} {used : Nat} {v : Value} {vs : List Value} {rs : List (List Chg)} {prs : List Value} {w w' : World}
theorem RW.xlt (h : RW B gd g x q F K S first n m0 mc used v vs rs prs w) : x < w.heap.size := (Array.getElem?_eq_some_iff.1 h.box).1
theorem RW.vlt (h : RW B gd g x q F K S first n m0 mc used v vs rs prs w) {b : Nat} (hb : v.ownBlock = some b) : B ≤ b ∧ b < w.heap.size := own_block_lt h.all hb
theorem RW.base (h : RW B gd g x q F K S first n m0 mc used v vs rs prs w) : B ≤ w.heap.size := by have := h.xlt; have := h.low.2.2; omega
theorem RW.below (h : RW B gd g x q F K S first n m0 mc used v vs rs prs w) (hb : Below w.heap.size w w') : RW B gd g x q F K S first n m0 mc used v vs rs prs w' where
  disk := h.disk.below hb
  ring := h.ring.below hb
  box := (hb.block x h.xlt).trans h.box
  row := row_keep h.row h.Kq fun hq => hb.block q (h.dK q hq).2.2
  all := own_keep h.all fun b e => hb.block b (h.vlt e).2
  recs := h.recs.keep fun b hK => hb.block b (h.dK b hK).2.2
  Kq := h.Kq
  dK := fun b hK => ⟨(h.dK b hK).1, (h.dK b hK).2.1, Nat.lt_of_lt_of_le (h.dK b hK).2.2 hb.size⟩
  dg := h.dg
  dx := h.dx
  dv := h.dv
  low := h.low
/-- A cut: the ring's block alone turned. -/
theorem RW.turned (h : RW B gd g x q F K S first n m0 mc used v vs rs prs w) {mc' : Mk} {used' : Nat} (hr : PrAt g gd first n mc' used' w') (ho : Only (fun j => j = g) w w') : RW B gd g x q F K S first n m0 mc' used' v vs rs prs w' where
  disk := h.disk.keep ho (fun k hk e => h.dg.1 (by have e' : k = g := e; rw [← e']; exact hk))
  ring := hr
  box := (ho.block x h.xlt (fun e => h.dg.2.1 e.symm)).trans h.box
  row := row_keep h.row h.Kq fun hq => ho.block q (h.dK q hq).2.2 (h.dK q hq).1.2.1
  all := own_keep h.all fun b e => ho.block b (h.vlt e).2 (fun e' => h.dg.2.2 (by rw [← (show b = g from e')]; exact e))
  recs := h.recs.keep fun b hK => ho.block b (h.dK b hK).2.2 (h.dK b hK).1.2.1
  Kq := h.Kq
  dK := fun b hK => ⟨(h.dK b hK).1, (h.dK b hK).2.1, Nat.lt_of_lt_of_le (h.dK b hK).2.2 ho.size⟩
  dg := h.dg
  dx := h.dx
  dv := h.dv
  low := h.low
/-- The box was written, the told records dropped. -/
theorem RW.boxed (h : RW B gd g x q F K S first n m0 mc used v vs rs prs w) {m0' : Mk} (hx : w'.heap[x]? = some (.cells (markCells m0').toArray 25 (0, 0))) (hg : w.grownBy w' (some x)) :
    RW B gd g x q F K S first n m0' mc used (.slice none 0 0) [] [] prs w' where
  disk := h.disk.keep (Only.of_grown (F := fun j => j = x) hg (fun k e => by simpa using e.symm)) (fun k hk e => h.dx.1 (by have e' : k = x := e; rw [← e']; exact hk))
  ring := h.ring.of_block (hg.block g h.ring.lt (fun e => h.dg.2.1 (by simpa using e)))
  box := hx
  row := row_keep h.row h.Kq fun hq => hg.block q (h.dK q hq).2.2 (fun e => (h.dK q hq).1.2.2 (by simpa using e))
  all := World.ownsRow_nil _ _ _ _
  recs := RecsK.nil _ _
  Kq := h.Kq
  dK := fun b hK => ⟨(h.dK b hK).1, by simp [Value.ownBlock], Nat.lt_of_lt_of_le (h.dK b hK).2.2 hg.size⟩
  dg := ⟨h.dg.1, h.dg.2.1, by simp [Value.ownBlock]⟩
  dx := ⟨h.dx.1, by simp [Value.ownBlock]⟩
  dv := fun b e => by simp [Value.ownBlock] at e
  low := h.low
/-- The ring and the disk turned. -/
theorem RW.added (h : RW B gd g x q F K S first n m0 mc used v vs rs prs w) {mc' : Mk} {used' : Nat} {S' : St} {G : Nat → Prop} (hP : PD S' G gd w') (hr : PrAt g gd first n mc' used' w') (ho : Only (fun j => j = g ∨ F j) w w') (hn : ∀ j, G j → F j ∨ w.heap.size ≤ j) :
    RW B gd g x q G K S' first n m0 mc' used' v vs rs prs w' where
  disk := hP
  ring := hr
  box := (ho.block x h.xlt (fun e => e.elim (fun e => h.dg.2.1 e.symm) h.dx.1)).trans h.box
  row := row_keep h.row h.Kq fun hq => ho.block q (h.dK q hq).2.2 (fun e => e.elim (h.dK q hq).1.2.1 (h.dK q hq).1.1)
  all := own_keep h.all fun b e => ho.block b (h.vlt e).2 (fun e' => e'.elim (fun e' => h.dg.2.2 (by rw [← e']; exact e)) (h.dv b e))
  recs := h.recs.keep fun b hK => ho.block b (h.dK b hK).2.2 (fun e => e.elim (h.dK b hK).1.2.1 (h.dK b hK).1.1)
  Kq := h.Kq
  dK := fun b hK => ⟨⟨fun hg => (hn b hg).elim (h.dK b hK).1.1 (fun e => by have := (h.dK b hK).2.2; omega), (h.dK b hK).1.2⟩, (h.dK b hK).2.1, Nat.lt_of_lt_of_le (h.dK b hK).2.2 ho.size⟩
  dg := ⟨fun hg => (hn g hg).elim h.dg.1 (fun e => by have := h.ring.lt; omega), h.dg.2⟩
  dx := ⟨fun hg => (hn x hg).elim h.dx.1 (fun e => by have := h.xlt; omega), h.dx.2⟩
  dv := fun b e hg => (hn b hg).elim (h.dv b e) (fun e' => by have := (h.vlt e).2; omega)
  low := ⟨fun b hg => (hn b hg).elim (h.low.1 b) (fun e => by have := h.base; omega), h.low.2⟩
/-- A record was told: its row, of the call's own, is kept. -/
theorem RW.keep (h : RW B gd g x q F K S first n m0 mc used v vs rs prs w) {b : Nat} (h1 : b < w.heap.size) (h2 : ¬ F b ∧ b ≠ g ∧ b ≠ x) (h3 : v.ownBlock ≠ some b) : RW B gd g x q F (fun j => K j ∨ j = b) S first n m0 mc used v vs rs prs w :=
  { h with recs := h.recs.mono fun _ => .inl, Kq := h.Kq.imp id .inl, dK := fun j hj => hj.elim (h.dK j) (fun e => by rw [e]; exact ⟨h2, h3, h1⟩) }
/-- The told records, one more. -/
theorem RW.told (h : RW B gd g x q F K S first n m0 mc used v vs rs prs w) {v' : Value} {l : List Chg} {b cap : Nat} (hb : K b) (hr : ∀ j c, l[j]? = some c → w.rangeAt b (j * 65) (chgC c))
    (ho : w'.ownsRow B 58 1 v' (rs.length + 1) (vs ++ [Value.slice (some ⟨b, 0, none⟩) l.length cap])) (hg : w.grownBy w' v.ownBlock) (hv : v'.ownBlock = v.ownBlock ∨ ∀ k, v'.ownBlock = some k → w.heap.size ≤ k) :
    RW B gd g x q F K S first n m0 mc used v' (vs ++ [Value.slice (some ⟨b, 0, none⟩) l.length cap]) (rs ++ [l]) prs w' := by
  have hne : ∀ k, k < w.heap.size → v.ownBlock ≠ some k → v'.ownBlock ≠ some k := fun k hk hn e => hv.elim (fun e' => hn (e' ▸ e)) (fun e' => by have := e' k e; omega)
  exact {
    disk := h.disk.keep (Only.of_grown (F := fun j => v.ownBlock = some j) hg (fun k e => e)) (fun k hk e => h.dv k e hk)
    ring := h.ring.of_block (hg.block g h.ring.lt (fun e => h.dg.2.2 e.symm))
    box := (hg.block x h.xlt (fun e => h.dx.2 e.symm)).trans h.box
    row := row_keep h.row h.Kq fun hq => hg.block q (h.dK q hq).2.2 (fun e => (h.dK q hq).2.1 e.symm)
    all := by rw [List.length_append]; exact ho
    recs := (RecsK.snoc h.recs hb hr).keep fun k hK => hg.block k (h.dK k hK).2.2 (fun e => (h.dK k hK).2.1 e.symm)
    Kq := h.Kq
    dK := fun k hK => ⟨(h.dK k hK).1, hne k (h.dK k hK).2.2 (h.dK k hK).2.1, Nat.lt_of_lt_of_le (h.dK k hK).2.2 hg.size⟩
    dg := ⟨h.dg.1, h.dg.2.1, hne g h.ring.lt h.dg.2.2⟩
    dx := ⟨h.dx.1, hne x h.xlt h.dx.2⟩
    dv := fun k e => hv.elim (fun e' => h.dv k (e' ▸ e)) (fun e' hF => by have := e' k e; have := h.disk.lt hF; omega)
    low := h.low }
/-! What is kept is as it was, step by step. -/
theorem RW.sameBelow (h : RW B gd g x q F K S first n m0 mc used v vs rs prs w) (hb : Below w.heap.size w w') : ∀ b, K b → w'.heap[b]? = w.heap[b]? := fun b hK => hb.block b (h.dK b hK).2.2
theorem RW.sameTurned (h : RW B gd g x q F K S first n m0 mc used v vs rs prs w) (ho : Only (fun j => j = g) w w') : ∀ b, K b → w'.heap[b]? = w.heap[b]? := fun b hK => ho.block b (h.dK b hK).2.2 (h.dK b hK).1.2.1
theorem RW.sameBoxed (h : RW B gd g x q F K S first n m0 mc used v vs rs prs w) (hg : w.grownBy w' (some x)) : ∀ b, K b → w'.heap[b]? = w.heap[b]? := fun b hK => hg.block b (h.dK b hK).2.2 (fun e => (h.dK b hK).1.2.2 (by simpa using e))
theorem RW.sameAdded (h : RW B gd g x q F K S first n m0 mc used v vs rs prs w) (ho : Only (fun j => j = g ∨ F j) w w') : ∀ b, K b → w'.heap[b]? = w.heap[b]? := fun b hK => ho.block b (h.dK b hK).2.2 (fun e => e.elim (h.dK b hK).1.2.1 (h.dK b hK).1.1)
theorem RW.baseTurned {w0 : World} (h : RW B gd g x q F K S first n m0 mc used v vs rs prs w) (hb : Below B w0 w) (hB : B ≤ w0.heap.size) (ho : Only (fun j => j = g) w w') : Below B w0 w' := hb.trans (ho.base h.base (fun j hj => by have e : j = g := hj; rw [e]; exact h.low.2.1))
theorem RW.baseBoxed {w0 : World} (h : RW B gd g x q F K S first n m0 mc used v vs rs prs w) (hb : Below B w0 w) (hg : w.grownBy w' (some x)) : Below B w0 w' :=
  hb.trans ((Only.of_grown (F := fun j => j = x) hg (fun k e => by simpa using e.symm)).base h.base (fun j hj => by have e : j = x := hj; rw [e]; exact h.low.2.2))
theorem RW.baseAdded {w0 : World} (h : RW B gd g x q F K S first n m0 mc used v vs rs prs w) (hb : Below B w0 w) (ho : Only (fun j => j = g ∨ F j) w w') : Below B w0 w' := hb.trans (ho.base h.base (fun j hj => hj.elim (fun e => by rw [e]; exact h.low.2.1) (h.low.1 j)))
/-- A new row of the call's own, kept. -/
theorem RW.fresh (h : RW B gd g x q F K S first n m0 mc used v vs rs prs w) (hb : Below w.heap.size w w') {b : Nat} (h1 : w.heap.size ≤ b) (h2 : b < w'.heap.size) : RW B gd g x q F (fun j => K j ∨ j = b) S first n m0 mc used v vs rs prs w' :=
  (h.below hb).keep h2 ⟨fun hf => by have := h.disk.lt hf; omega, fun e => by have := h.ring.lt; omega, fun e => by have := h.xlt; omega⟩ (fun e => by have := (h.vlt e).2; omega)
theorem RecsK.one {K : Nat → Prop} {w : World} {l : List Chg} {b cap : Nat} (hb : K b) (hr : ∀ j c, l[j]? = some c → w.rangeAt b (j * 65) (chgC c)) : RecsK K w [Value.slice (some ⟨b, 0, none⟩) l.length cap] [l] := RecsK.snoc (RecsK.nil K w) hb hr
theorem RecsK.chgs {K : Nat → Prop} {w : World} {l : List Chg} {b n cap : Nat} (h : RecsK K w [Value.slice (some ⟨b, 0, none⟩) n cap] [l]) (hK : ∀ b, K b → b < w.heap.size) : Chgs w.heap.size w (some ⟨b, 0, none⟩) l := by
  obtain ⟨b', c', h1, h2, h3⟩ := h.2 0 l rfl
  have e : Value.slice (some ⟨b, 0, none⟩) n cap = Value.slice (some ⟨b', 0, none⟩) l.length c' := by simpa using h1
  simp only [Value.slice.injEq, Option.some.injEq, Addr.mk.injEq, and_true] at e
  obtain ⟨rfl, _, _⟩ := e
  exact .inr ⟨b, rfl, hK b h2, h3⟩
end
/-- An append to a row of the call's own, of a slice that may be nil. -/
theorem wpList_append_any {P : Program} {w : World} {ops : Array Oper} {rest : List Oper} {o : Oper} {a : Act} {Q : Exit → Act → World → Prop} (hgd : o.guard = none) (s x : Operand) (t : TypeId)
    (ho : o.op = .call { callee := .builtin .append, args := #[s, x], argTypes := #[t, t] })
    (base : Nat) (e : TypeId) (i : TypeInfo) (z : Value) (size bytes : Nat) (ht : P.underlying t = some (.slice e)) (hi : P.info? e = some i) (hz : i.zero = some z)
    (hsize : i.size = size) (hby : i.bytes = bytes) (hzs : z.cells.size = size) (hsz : 0 < size)
    (v : Value) (n : Nat) (xs : List Value) (hs : a.eval s = v) (hown : w.ownsRow base e size v n xs)
    (bp : Option Addr) (m c : Nat) (news : List Value) (hx : a.eval x = .slice bp m c) (h0 : bp = none → m = 0 ∧ c = 0) (hl : news.length = m * size) (hnews : ∀ ad, bp = some ad → ∀ j u, news[j]? = some u → w.cell? (ad.add j) = some u) (h1 : ∀ u ∈ news, u.oneCell' = true)
    (h63 : n + m ≤ maxLen) (hbytes : (n + m) * bytes ≤ 140737488355328) (hbase : base ≤ w.heap.size)
    (h : ∀ v' w', w'.ownsRow base e size v' (n + m) (xs ++ news) → w.grownBy w' v.ownBlock → wpList P ops Q rest (a.put o.dst v') w') : wpList P ops Q (o :: rest) a w := by
  cases bp with
  | none =>
    obtain ⟨rfl, rfl⟩ := h0 rfl
    have hn : news = [] := List.length_eq_zero_iff.1 (by simpa using hl)
    subst hn
    refine wpList_append_own_none hgd s x t ho base e i size ht hi v n xs hs hown hx (h v w ?_ ⟨rfl, rfl, rfl, Nat.le_refl _, fun _ _ _ => rfl⟩)
    rw [List.append_nil, Nat.add_zero]; exact hown
  | some ad => exact wpList_append_own w hgd s x t ho base e i z size bytes ht hi hz hsize hby hzs hsz v n xs hs hown ad m c news hx hl (hnews ad rfl) h1 h63 hbytes hbase fun v' w' h2 h3 _ => h v' w' h2 h3

/-- Pairs, as cells. -/
def prsC (l : List (Int × Int)) : List Value := l.flatMap fun q => [.int .i64 q.1, .int .i64 q.2]
theorem prsC_length (l : List (Int × Int)) : (prsC l).length = l.length * 2 := by
  induction l with
  | nil => rfl
  | cons q l ih => show (_ :: _ :: prsC l).length = _; rw [List.length_cons, List.length_cons, ih, List.length_cons]; omega
theorem prsC_one (l : List (Int × Int)) : ∀ u ∈ prsC l, u.oneCell' = true := fun u hu => by
  obtain ⟨q, _, hq⟩ := List.mem_flatMap.1 hu
  simp only [List.mem_cons, List.not_mem_nil, or_false] at hq
  rcases hq with rfl | rfl <;> rfl
theorem prsC_append (a b : List (Int × Int)) : prsC (a ++ b) = prsC a ++ prsC b := by simp [prsC]
theorem prsC_get : ∀ (l : List (Int × Int)) (j : Nat) (u : Value), (prsC l)[j]? = some u → ∃ q, l[j / 2]? = some q ∧ u = if j % 2 = 0 then Value.int .i64 q.1 else .int .i64 q.2
  | [], j, u, h => by simp [prsC] at h
  | q :: l, 0, u, h => ⟨q, rfl, by have : some (Value.int .i64 q.1) = some u := h; simpa using this.symm⟩
  | q :: l, 1, u, h => ⟨q, rfl, by have : some (Value.int .i64 q.2) = some u := h; simpa using this.symm⟩
  | q :: l, j + 2, u, h => by
    have h' : (prsC l)[j]? = some u := h
    obtain ⟨q', h1, h2⟩ := prsC_get l j u h'
    refine ⟨q', ?_, by rw [show (j + 2) % 2 = j % 2 from by omega]; exact h2⟩
    rw [show (j + 2) / 2 = j / 2 + 1 from by omega]; exact h1
theorem prsC_at {l : List (Int × Int)} {k : Nat} {q : Int × Int} (h : l[k]? = some q) : (prsC l)[k * 2]? = some (.int .i64 q.1) ∧ (prsC l)[k * 2 + 1]? = some (.int .i64 q.2) := by
  have hk : k < l.length := (List.getElem?_eq_some_iff.1 h).1
  have hl := prsC_length l
  obtain ⟨u0, h0⟩ : ∃ u, (prsC l)[k * 2]? = some u := ⟨_, List.getElem?_eq_getElem (by omega)⟩
  obtain ⟨u1, h1⟩ : ∃ u, (prsC l)[k * 2 + 1]? = some u := ⟨_, List.getElem?_eq_getElem (by omega)⟩
  obtain ⟨q0, e0, f0⟩ := prsC_get l _ _ h0
  obtain ⟨q1, e1, f1⟩ := prsC_get l _ _ h1
  rw [show k * 2 / 2 = k from by omega, h] at e0
  rw [show (k * 2 + 1) / 2 = k from by omega, h] at e1
  cases e0; cases e1
  rw [if_pos (by omega)] at f0
  rw [if_neg (by omega)] at f1
  exact ⟨by rw [h0, f0], by rw [h1, f1]⟩
end Go.Proofs.YtegdlpllljccgaaDoor
