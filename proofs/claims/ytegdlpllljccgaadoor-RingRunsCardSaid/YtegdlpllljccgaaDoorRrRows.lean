/-
  What the walks of the reference's Sectors and next keep: bytes and pages in rows of the call's own, side by side.
-/
import Derived.Test.YtegdlpllljccgaaDoorLwChn
import Derived.Test.YtegdlpllljccgaaDoorLwImg
import Derived.Test.YtegdlpllljccgaaDoorPrSect
set_option linter.unusedSimpArgs false
set_option linter.unusedVariables false
namespace Go.Proofs.YtegdlpllljccgaaDoor
open Go.RowKit Sh

theorem pad64_set {A : List UInt8} (h : A.length < 64) (b : UInt8) : (pad64 A).set A.length b = pad64 (A ++ [b]) := by
  unfold pad64
  rw [List.set_append_right _ _ (Nat.le_refl _), Nat.sub_self]
  obtain ⟨r, hr⟩ : ∃ r, 64 - A.length = r + 1 := ⟨64 - A.length - 1, by omega⟩
  rw [hr, List.replicate_succ, List.set_cons_zero, List.length_append, List.length_singleton, List.append_assoc]
  have : 64 - (A.length + 1) = r := by omega
  rw [this]; rfl
theorem pad64_take (A : List UInt8) : (pad64 A).take A.length = A := by unfold pad64; rw [List.take_left']; rfl
theorem splice_take_of {α : Type} (L cs : List α) (o n : Nat) (h : o + cs.length ≤ n) (hn : n ≤ L.length) : (splice L o cs).take n = splice (L.take n) o cs := by
  unfold splice
  have h1 : (L.take o).length = o := by rw [List.length_take]; omega
  rw [List.take_append, h1, List.take_take, Nat.min_eq_right (by omega), List.take_append, List.take_of_length_le (l := cs) (by omega), List.take_take, Nat.min_eq_left (by omega), List.drop_take, Nat.sub_sub]
/-- An array of 64 bytes in block y. -/
def PgAt (y : Nat) (p : List UInt8) (w : World) : Prop := p.length = 64 ∧ w.heap[y]? = some (.cells (p.map cu8).toArray 63 (0, 0))
section
variable {y : Nat} {p : List UInt8} {w w' : World}
theorem PgAt.lt (h : PgAt y p w) : y < w.heap.size := (Array.getElem?_eq_some_iff.1 h.2).1
theorem PgAt.below (h : PgAt y p w) (hb : Below w.heap.size w w') : PgAt y p w' := ⟨h.1, (hb.block y h.lt).trans h.2⟩
theorem PgAt.cell (h : PgAt y p w) {j : Nat} (hj : j < 64) : w.cell? ⟨y, j, none⟩ = some (cu8 (at8 p j)) := by
  rw [cell_of_row w y j _ _ _ h.2, List.getElem?_toArray, List.getElem?_map, List.getElem?_eq_getElem (show j < p.length by rw [h.1]; exact hj)]
  simp [at8, List.getD_eq_getElem?_getD, List.getElem?_eq_getElem (show j < p.length by rw [h.1]; exact hj)]
theorem PgAt.thawed (h : PgAt y p w) (j : Nat) : w.frozen? ⟨y, j, none⟩ = false := thawed_row h.2 j
theorem PgAt.set (h : PgAt y p w) (j : Nat) (b : UInt8) : PgAt y (p.set j b) (w.setCell ⟨y, j, none⟩ (cu8 b)) := ⟨by rw [List.length_set]; exact h.1, by rw [setCell_row h.2 j, List.map_set]⟩
theorem PgAt.turned (j : Nat) (v : Value) : w.grownBy (w.setCell ⟨y, j, none⟩ v) (some y) := ⟨rfl, rfl, rfl, by simp [World.setCell], fun k _ hne => by
  have : y ≠ k := fun e => hne (by rw [e])
  simp [World.setCell, Array.getElem?_modify, this]⟩
theorem PgAt.bytes (h : PgAt y p w) (o n : Nat) (hn : o + n ≤ 64) : Bytes w.heap.size w (some ⟨y, o, none⟩) n (64 - o) ((p.drop o).take n) :=
  ⟨by rw [List.length_take, List.length_drop, h.1]; omega, by omega, by unfold maxLen; omega, .inr ⟨y, o, rfl, h.lt, fun j hj => by
    rw [h.cell (by omega)]
    simp [at8, List.getElem?_take_of_lt hj, List.getElem?_drop]⟩⟩
end
/-- A row of bytes and a row of pages, of the call's own. -/
structure TwoR (B : Nat) (w0 : World) (av : Value) (na : Nat) (al : List UInt8) (ov : Value) (pgs : List (List UInt8)) (w : World) : Prop where
  bel : Below B w0 w
  base : B ≤ w0.heap.size
  all : w.ownsRow B 5 1 av na (al.map cu8)
  out : w.ownsRow B 63 64 ov pgs.length (pgs.flatten.map cu8)
  ne : ∀ j, av.ownBlock = some j → ov.ownBlock ≠ some j
section
variable {B : Nat} {w0 w w' : World} {av ov : Value} {na : Nat} {al : List UInt8} {pgs : List (List UInt8)}
theorem TwoR.le (h : TwoR B w0 av na al ov pgs w) : B ≤ w.heap.size := Nat.le_trans h.base h.bel.size
theorem TwoR.keep (h : TwoR B w0 av na al ov pgs w) (hb : Below w.heap.size w w') : TwoR B w0 av na al ov pgs w' :=
  ⟨h.bel.trans (hb.mono h.le), h.base, own_keep h.all fun b e => hb.block b (h.all.lt b e).2, own_keep h.out fun b e => hb.block b (h.out.lt b e).2, h.ne⟩
theorem TwoR.bytes (h : TwoR B w0 av na al ov pgs w) : ∃ bp cap, av = .slice bp na cap ∧ Bytes w.heap.size w bp na cap al := Bytes.of_own h.all
theorem TwoR.addOut (h : TwoR B w0 av na al ov pgs w) {g cap : Nat} {p : List UInt8} {wm : World} (hm : Below w.heap.size w wm) (ho : w'.ownsRow B 63 64 (.slice (some ⟨g, 0, none⟩) (pgs.length + 1) cap) (pgs.length + 1) (pgs.flatten.map cu8 ++ p.map cu8)) (hg : wm.grownBy w' ov.ownBlock) (hv : ov.ownBlock = some g ∨ w.heap.size ≤ g) :
    TwoR B w0 av na al (.slice (some ⟨g, 0, none⟩) (pgs.length + 1) cap) (pgs ++ [p]) w' := by
  have hne : ∀ j, av.ownBlock = some j → (Value.slice (some ⟨g, 0, none⟩) (pgs.length + 1) cap).ownBlock ≠ some j := fun j e e2 => by
    have e3 : g = j := Option.some.inj e2
    subst e3
    rcases hv with h1 | h1
    · exact h.ne g e h1
    · have := (h.all.lt g e).2; omega
  refine ⟨?_, h.base, ?_, ?_, hne⟩
  · exact (h.bel.trans (hm.mono h.le)).grown hg (Nat.le_trans h.le hm.size) (fun j hj => (h.out.lt j hj).1)
  · exact own_keep h.all fun b e => (hg.block b (Nat.lt_of_lt_of_le (h.all.lt b e).2 hm.size) (fun e2 => h.ne b e e2.symm)).trans (hm.block b (h.all.lt b e).2)
  · rw [List.length_append, List.length_singleton, List.flatten_append, List.map_append]
    simpa using ho
theorem TwoR.addAll (h : TwoR B w0 av na al ov pgs w) {v' : Value} {r : Nat} {bs : List UInt8} (ho : w'.ownsRow B 5 1 v' r ((al ++ bs).map cu8)) (hg : w.grownBy w' av.ownBlock) (hv : v'.ownBlock = av.ownBlock ∨ v'.ownBlock = some w.heap.size) :
    TwoR B w0 v' r (al ++ bs) ov pgs w' := by
  refine ⟨?_, h.base, ho, ?_, fun j e e2 => ?_⟩
  · exact h.bel.grown hg h.le (fun j hj => (h.all.lt j hj).1)
  · exact own_keep h.out fun b e => hg.block b (h.out.lt b e).2 (fun e2 => h.ne b e2.symm e)
  · rcases hv with h1 | h1
    · rw [h1] at e; exact h.ne j e e2
    · rw [h1] at e
      have := (h.out.lt j e2).2
      have := Option.some.inj e
      omega
end
theorem TwoR.pageBytes {B : Nat} {w0 w : World} {av : Value} {na g cap n : Nat} {al : List UInt8} {pgs : List (List UInt8)} (h : TwoR B w0 av na al (.slice (some ⟨g, 0, none⟩) n cap) pgs w) (hn : pgs.length = n) (h64 : ∀ p ∈ pgs, p.length = 64) {i : Nat} {p : List UInt8} (hi : pgs[i]? = some p) :
    Bytes w.heap.size w (some ⟨g, i * 64, none⟩) 64 64 p := by
  subst hn
  have hin : i < pgs.length := (List.getElem?_eq_some_iff.1 hi).1
  refine ⟨h64 p (List.mem_of_getElem? hi), Nat.le_refl _, by unfold maxLen; omega, .inr ⟨g, i * 64, rfl, (h.out.lt g rfl).2, fun j hj => ?_⟩⟩
  rw [h.out.cellAt (i * 64 + j) (by omega), List.getElem?_map, flat_at h64 hi hj]
  have hj2 : j < p.length := by rw [h64 p (List.mem_of_getElem? hi)]; exact hj
  simp [at8, List.getD_eq_getElem?_getD, List.getElem?_eq_getElem hj2]
/-- Bytes put to the row of bytes. -/
theorem wpList_joinT {w0 w : World} {ops : Array Oper} {rest : List Oper} {o : Oper} {a : Act} {Q : Exit → Act → World → Prop} (hgd : o.guard = none) (s x : Operand)
    (ho : o.op = .call { callee := .builtin .append, args := #[s, x], argTypes := #[122, 122] })
    {B : Nat} {av ov : Value} {n : Nat} {al : List UInt8} {pgs : List (List UInt8)} (hs : a.eval s = av) (hO : TwoR B w0 av n al ov pgs w) (N : Nat) (bp : Option Addr) (m c : Nat) (bs : List UInt8) (hx : a.eval x = .slice bp m c) (hB : Bytes N w bp m c bs) (r : Nat) (hr : n + m = r) (hsz : r ≤ 140737488351232)
    (h : ∀ v' w', Hid (TwoR B w0 v' r (al ++ bs) ov pgs w') → w.grownBy w' av.ownBlock → wpList Tryd.prog ops Q rest (a.put o.dst v') w') : wpList Tryd.prog ops Q (o :: rest) a w := by
  subst hr
  obtain ⟨i, hi, hzz⟩ := Option.map_eq_some_iff.1 infoU8r
  simp only [Prod.mk.injEq] at hzz
  obtain ⟨hz, hs1, hb1⟩ := hzz
  refine wpList_plain hgd fun K hK => ?_
  refine wp_append_bytes (P := Tryd.prog) w s x 122 ho B 5 i (.int .u8 0) 1 Tryd.underlying122 hi hz hs1 hb1 rfl av n (al.map cu8) hs hO.all N bp m c bs hx hB (by unfold maxLen; omega) (by omega) hO.le fun v' w' h1 h2 h3 => hK _ _ (h v' w' (Lib.hid ?_) h2)
  exact hO.addAll (by rw [List.map_append]; exact h1) h2 h3
/-- A page put to the row of pages. -/
theorem infoPgR : (Tryd.prog.info? 63).map (fun i => (i.zero, i.size, i.bytes)) = some (some (.agg zeros64), 64, 64) := by kernel_rfl
theorem infoPgZ : (Tryd.prog.info? 63).map (fun i => (i.zero, i.size, i.bytes)) = some (some (.agg zeroPage.toArray), 64, 64) := by kernel_rfl
theorem wpList_addPage {w0 w wm : World} {ops : Array Oper} {rest : List Oper} {o : Oper} {a : Act} {Q : Exit → Act → World → Prop} (hgd : o.guard = none) (s x : Operand)
    (ho : o.op = .call { callee := .builtin .append, args := #[s, x], argTypes := #[80, 80] })
    {B : Nat} {av ov : Value} {na : Nat} {al : List UInt8} {pgs : List (List UInt8)} (hs : a.eval s = ov) (hO : TwoR B w0 av na al ov pgs w) (p : List UInt8) (hp : p.length = 64) (qv : Array Value) (hq : qv = (p.map cu8).toArray) (hwm : wm = w.alloc (.cells qv 63)) (hx : a.eval x = .slice (some ⟨w.heap.size, 0, none⟩) 1 1) (hn : pgs.length ≤ 4096)
    (h : ∀ g cap w', Hid (TwoR B w0 av na al (.slice (some ⟨g, 0, none⟩) (pgs.length + 1) cap) (pgs ++ [p]) w') → Below B w0 w' → wpList Tryd.prog ops Q rest (a.put o.dst (.slice (some ⟨g, 0, none⟩) (pgs.length + 1) cap)) w') : wpList Tryd.prog ops Q (o :: rest) a wm := by
  subst hwm
  obtain ⟨i, hi, hzz⟩ := Option.map_eq_some_iff.1 infoPgR
  simp only [Prod.mk.injEq] at hzz
  obtain ⟨hz, hs1, hb1⟩ := hzz
  have hb : Below w.heap.size w (w.alloc (.cells qv 63)) := (Below.refl _ _).alloc (Nat.le_refl _) _
  have hO' := hO.keep hb
  refine wpList_append_lies _ hgd s x 80 ho B 63 i _ 64 64 Tryd.underlying80 hi hz hs1 hb1 rfl (by omega) ov pgs.length (pgs.flatten.map cu8) hs hO'.out ⟨w.heap.size, 0, none⟩ 1 1 (p.map cu8) hx (by rw [List.length_map, hp]) (fun j u hu => ?_) (fun u hu => by obtain ⟨y, _, rfl⟩ := List.mem_map.1 hu; rfl) (by omega) (by unfold maxLen; omega) (by omega) hO'.le _ rfl fun g cap w' h1 h2 h3 _ => ?_
  · have e : (⟨w.heap.size, 0, none⟩ : Addr).add j = ⟨w.heap.size, 0 + j, none⟩ := by unfold Addr.add; split <;> simp_all
    rw [e, Nat.zero_add, cell_of_row _ w.heap.size j _ _ _ (heap_alloc_new w _), hq]
    simpa using hu
  · have hT : TwoR B w0 av na al (.slice (some ⟨g, 0, none⟩) (pgs.length + 1) cap) (pgs ++ [p]) w' := hO.addOut hb h1 h2 (h3.imp id (fun e => by rw [e]; simp))
    exact h g cap w' (Lib.hid hT) hT.bel
/-- Bytes put to a row of bytes of the call's own: where the row lies then. -/
theorem wpList_joinL (w0 w : World) {ops : Array Oper} {rest : List Oper} {o : Oper} {a : Act} {Q : Exit → Act → World → Prop} (hgd : o.guard = none) (s x : Operand)
    (ho : o.op = .call { callee := .builtin .append, args := #[s, x], argTypes := #[122, 122] })
    (v : Value) (n : Nat) (l : List UInt8) (hs : a.eval s = v) (hO : OwnB w0 v n l w) (N : Nat) (bp : Option Addr) (m c : Nat) (bs : List UInt8) (hx : a.eval x = .slice bp m c) (hB : Bytes N w bp m c bs) (r : Nat) (hr : n + m = r) (hsz : r ≤ 140737488351232)
    (h : ∀ v' w', Hid (OwnB w0 v' r (l ++ bs) w') → Hid (w.grownBy w' v.ownBlock) → Hid (v'.ownBlock = v.ownBlock ∨ v'.ownBlock = some w.heap.size) → wpList Tryd.prog ops Q rest (a.put o.dst v') w') : wpList Tryd.prog ops Q (o :: rest) a w := by
  subst hr
  obtain ⟨i, hi, hzz⟩ := Option.map_eq_some_iff.1 infoU8r
  simp only [Prod.mk.injEq] at hzz
  obtain ⟨hz, hs1, hb1⟩ := hzz
  refine wpList_plain hgd fun K hK => ?_
  refine wp_append_bytes (P := Tryd.prog) w s x 122 ho w0.heap.size 5 i (.int .u8 0) 1 Tryd.underlying122 hi hz hs1 hb1 rfl v n (l.map cu8) hs hO.own N bp m c bs hx hB (by unfold maxLen; omega) (by omega) hO.below.size fun v' w' h1 h2 h3 => hK _ _ (h v' w' (Lib.hid ⟨?_, by rw [List.map_append]; exact h1⟩) (Lib.hid h2) (Lib.hid h3))
  exact hO.below.grown h2 hO.below.size (fun k hk => (hO.own.lt k hk).1)
theorem OwnB.turn {w0 w wm : World} {v : Value} {n b : Nat} {l : List UInt8} (h : OwnB w0 v n l w) (hm : w.grownBy wm (some b)) (hb : v.ownBlock ≠ some b) (hlo : w0.heap.size ≤ b) : OwnB w0 v n l wm :=
  ⟨below_of_grown h.below hm h.below.size hlo, own_keep h.own fun k e => hm.block k (h.own.lt k e).2 (fun e2 => hb (by rw [e, ← e2]))⟩
end Go.Proofs.YtegdlpllljccgaaDoor
