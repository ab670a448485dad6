/-
  The world of a law that adds records to one ring, without a box for a mark: the disk, the ring, the records that were told, and what is kept.
-/
import Derived.Test.YtegdlpllljccgaaDoorLwWorld
set_option linter.unusedSimpArgs false
set_option linter.unusedVariables false
namespace Go.Proofs.YtegdlpllljccgaaDoor
open Go.RowKit Sh Go.Extern.Stop Go.Stop Go.Extern

/-- The world: B: what was there before; gd: the disk; g: the ring; K: what is kept. -/
structure RV (B gd g : Nat) (F K : Nat → Prop) (S : St) (first n : Nat) (mc : Mk) (used : Nat) (v : Value) (vs : List Value) (rs : List (List Chg)) (w : World) : Prop where
  disk : PD S F gd w
  ring : PrAt g gd first n mc used w
  all : w.ownsRow B 58 1 v rs.length vs
  recs : RecsK K w vs rs
  dK : ∀ b, K b → (¬ F b ∧ b ≠ g) ∧ v.ownBlock ≠ some b ∧ b < w.heap.size
  dg : ¬ F g ∧ v.ownBlock ≠ some g
  dv : ∀ b, v.ownBlock = some b → ¬ F b
  low : (∀ b, F b → B ≤ b) ∧ B ≤ g
section
variable {B gd g first n : Nat} {F K : Nat → Prop} {S : St} {mc : Mk} {used : Nat} {v : Value} {vs : List Value} {rs : List (List Chg)} {w w' : World}
theorem RV.vlt (h : RV B gd g F K S first n mc used v vs rs w) {b : Nat} (hb : v.ownBlock = some b) : B ≤ b ∧ b < w.heap.size := own_block_lt h.all hb
theorem RV.base (h : RV B gd g F K S first n mc used v vs rs w) : B ≤ w.heap.size := by have := h.ring.lt; have := h.low.2; omega
theorem RV.below (h : RV B gd g F K S first n mc used v vs rs w) (hb : Below w.heap.size w w') : RV B gd g F K S first n mc used v vs rs w' where
  disk := h.disk.below hb
  ring := h.ring.below hb
  all := own_keep h.all fun b e => hb.block b (h.vlt e).2
  recs := h.recs.keep fun b hK => hb.block b (h.dK b hK).2.2
  dK := fun b hK => ⟨(h.dK b hK).1, (h.dK b hK).2.1, Nat.lt_of_lt_of_le (h.dK b hK).2.2 hb.size⟩
  dg := h.dg
  dv := h.dv
  low := h.low
/-- The ring and the disk turned. -/
theorem RV.added (h : RV B gd g F K S first n mc used v vs rs w) {mc' : Mk} {used' : Nat} {S' : St} {G : Nat → Prop} (hP : PD S' G gd w') (hr : PrAt g gd first n mc' used' w') (ho : Only (fun j => j = g ∨ F j) w w') (hn : ∀ j, G j → F j ∨ w.heap.size ≤ j) :
    RV B gd g G K S' first n mc' used' v vs rs w' where
  disk := hP
  ring := hr
  all := own_keep h.all fun b e => ho.block b (h.vlt e).2 (fun e' => e'.elim (fun e' => h.dg.2 (by rw [← e']; exact e)) (h.dv b e))
  recs := h.recs.keep fun b hK => ho.block b (h.dK b hK).2.2 (fun e => e.elim (h.dK b hK).1.2 (h.dK b hK).1.1)
  dK := fun b hK => ⟨⟨fun hg => (hn b hg).elim (h.dK b hK).1.1 (fun e => by have := (h.dK b hK).2.2; omega), (h.dK b hK).1.2⟩, (h.dK b hK).2.1, Nat.lt_of_lt_of_le (h.dK b hK).2.2 ho.size⟩
  dg := ⟨fun hg => (hn g hg).elim h.dg.1 (fun e => by have := h.ring.lt; omega), h.dg.2⟩
  dv := fun b e hg => (hn b hg).elim (h.dv b e) (fun e' => by have := (h.vlt e).2; omega)
  low := ⟨fun b hg => (hn b hg).elim (h.low.1 b) (fun e => by have := h.base; omega), h.low.2⟩
/-- The disk alone turned. -/
theorem RV.flushed (h : RV B gd g F K S first n mc used v vs rs w) {S' : St} {G : Nat → Prop} (hP : PD S' G gd w') (ho : Only F w w') (hn : ∀ j, G j → F j ∨ w.heap.size ≤ j) : RV B gd g G K S' first n mc used v vs rs w' :=
  h.added hP (h.ring.of_block (ho.block g h.ring.lt h.dg.1)) ⟨ho.os, ho.tape, ho.output, ho.size, fun k hk hn => ho.block k hk (fun e => hn (.inr e))⟩ hn
/-- A record was told: its row, of the call's own, is kept. -/
theorem RV.keep (h : RV B gd g F K S first n mc used v vs rs w) {b : Nat} (h1 : b < w.heap.size) (h2 : ¬ F b ∧ b ≠ g) (h3 : v.ownBlock ≠ some b) : RV B gd g F (fun j => K j ∨ j = b) S first n mc used v vs rs w :=
  { h with recs := h.recs.mono fun _ => .inl, dK := fun j hj => hj.elim (h.dK j) (fun e => by rw [e]; exact ⟨h2, h3, h1⟩) }
/-- The told records, one more. -/
theorem RV.told (h : RV B gd g F K S first n mc used v vs rs w) {v' : Value} {l : List Chg} {b cap : Nat} (hb : K b) (hr : ∀ j c, l[j]? = some c → w.rangeAt b (j * 65) (chgC c))
    (ho : w'.ownsRow B 58 1 v' (rs.length + 1) (vs ++ [Value.slice (some ⟨b, 0, none⟩) l.length cap])) (hg : w.grownBy w' v.ownBlock) (hv : v'.ownBlock = v.ownBlock ∨ ∀ k, v'.ownBlock = some k → w.heap.size ≤ k) :
    RV B gd g F K S first n mc used v' (vs ++ [Value.slice (some ⟨b, 0, none⟩) l.length cap]) (rs ++ [l]) w' := by
  have hne : ∀ k, k < w.heap.size → v.ownBlock ≠ some k → v'.ownBlock ≠ some k := fun k hk hn e => hv.elim (fun e' => hn (e' ▸ e)) (fun e' => by have := e' k e; omega)
  exact {
    disk := h.disk.keep (Only.of_grown (F := fun j => v.ownBlock = some j) hg (fun k e => e)) (fun k hk e => h.dv k e hk)
    ring := h.ring.of_block (hg.block g h.ring.lt (fun e => h.dg.2 e.symm))
    all := by rw [List.length_append]; exact ho
    recs := (RecsK.snoc h.recs hb hr).keep fun k hK => hg.block k (h.dK k hK).2.2 (fun e => (h.dK k hK).2.1 e.symm)
    dK := fun k hK => ⟨(h.dK k hK).1, hne k (h.dK k hK).2.2 (h.dK k hK).2.1, Nat.lt_of_lt_of_le (h.dK k hK).2.2 hg.size⟩
    dg := ⟨h.dg.1, hne g h.ring.lt h.dg.2⟩
    dv := fun k e => hv.elim (fun e' => h.dv k (e' ▸ e)) (fun e' hF => by have := e' k e; have := h.disk.lt hF; omega)
    low := h.low }
/-! What is kept is as it was, step by step. -/
theorem RV.sameBelow (h : RV B gd g F K S first n mc used v vs rs w) (hb : Below w.heap.size w w') : ∀ b, K b → w'.heap[b]? = w.heap[b]? := fun b hK => hb.block b (h.dK b hK).2.2
theorem RV.sameAdded (h : RV B gd g F K S first n mc used v vs rs w) (ho : Only (fun j => j = g ∨ F j) w w') : ∀ b, K b → w'.heap[b]? = w.heap[b]? := fun b hK => ho.block b (h.dK b hK).2.2 (fun e => e.elim (h.dK b hK).1.2 (h.dK b hK).1.1)
theorem RV.baseAdded {w0 : World} (h : RV B gd g F K S first n mc used v vs rs w) (hb : Below B w0 w) (ho : Only (fun j => j = g ∨ F j) w w') : Below B w0 w' := hb.trans (ho.base h.base (fun j hj => hj.elim (fun e => by rw [e]; exact h.low.2) (h.low.1 j)))
theorem RV.baseFlushed {w0 : World} (h : RV B gd g F K S first n mc used v vs rs w) (hb : Below B w0 w) (ho : Only F w w') : Below B w0 w' := hb.trans (ho.base h.base (fun j hj => h.low.1 j hj))
/-- A new row of the call's own, kept. -/
theorem RV.fresh (h : RV B gd g F K S first n mc used v vs rs w) (hb : Below w.heap.size w w') {b : Nat} (h1 : w.heap.size ≤ b) (h2 : b < w'.heap.size) : RV B gd g F (fun j => K j ∨ j = b) S first n mc used v vs rs w' :=
  (h.below hb).keep h2 ⟨fun hf => by have := h.disk.lt hf; omega, fun e => by have := h.ring.lt; omega⟩ (fun e => by have := (h.vlt e).2; omega)
end
end Go.Proofs.YtegdlpllljccgaaDoor
