/-
  What the walk of Chain keeps: bytes, texts and pages in blocks.
-/
import Derived.Test.YtegdlpllljccgaaDoorLwClash
import Derived.Test.YtegdlpllljccgaaDoorLwHead
import Derived.Test.YtegdlpllljccgaaDoorLwWorld
import Derived.Test.YtegdlpllljccgaaDoorRgBehind
set_option linter.unusedSimpArgs false
set_option linter.unusedVariables false
namespace Go.Proofs.YtegdlpllljccgaaDoor
open Go.RowKit Sh

theorem grownB {a b : World} {r : Option Nat} (h : Below a.heap.size a b) : a.grownBy b r := ⟨h.os, h.tape, h.output, h.size, fun j hj _ => h.block j hj⟩
/-- Bytes in a slice of the call's own, which were put together since w0. -/
structure OwnB (w0 : World) (v : Value) (n : Nat) (l : List UInt8) (w : World) : Prop where
  below : Below w0.heap.size w0 w
  own : w.ownsRow w0.heap.size 5 1 v n (l.map cu8)
section
variable {w0 w : World} {v : Value} {n : Nat} {l : List UInt8}
theorem OwnB.start (h : Below w0.heap.size w0 w) : OwnB w0 (.slice none 0 0) 0 [] w := ⟨h, World.ownsRow_nil _ _ _ _⟩
theorem OwnB.bytes (h : OwnB w0 v n l w) : ∃ bp cap, v = .slice bp n cap ∧ Bytes w.heap.size w bp n cap l := Bytes.of_own h.own
theorem OwnB.keep {wm : World} (h : OwnB w0 v n l w) (hm : Below w.heap.size w wm) : OwnB w0 v n l wm :=
  ⟨h.below.trans (hm.mono h.below.size), h.own.kept (grownB (r := none) hm) (by cases hv : v.ownBlock <;> simp)⟩
theorem OwnB.grown {wm : World} {g : Nat} (h : OwnB w0 v n l w) (hm : w.grownBy wm (some g)) (hg : g < w0.heap.size) (hW : Below w0.heap.size w0 w → wm.os = w0.os) : wm.ownsRow w0.heap.size 5 1 v n (l.map cu8) :=
  h.own.kept hm (by
    cases hv : v.ownBlock with
    | none => exact .inl rfl
    | some k => exact .inr (fun e => by have := (h.own.lt k hv).1; simp only [Option.some.injEq] at e; omega))
end
theorem infoU8r : (Tryd.prog.info? 5).map (fun i => (i.zero, i.size, i.bytes)) = some (some (.int .u8 0), 1, 1) := by kernel_rfl
theorem infoStr : (Tryd.prog.info? 9).map (fun i => (i.zero, i.size, i.bytes)) = some (some (.string ByteArray.empty), 1, 16) := by kernel_rfl
theorem wp_joinB (w0 w : World) {o : Oper} {a : Act} {K : Act → World → Prop} {Q : Exit → Act → World → Prop} (s x : Operand)
    (ho : o.op = .call { callee := .builtin .append, args := #[s, x], argTypes := #[122, 122] })
    (v : Value) (n : Nat) (l : List UInt8) (hs : a.eval s = v) (hO : OwnB w0 v n l w) (N : Nat) (bp : Option Addr) (m c : Nat) (bs : List UInt8) (hx : a.eval x = .slice bp m c) (hB : Bytes N w bp m c bs) (r : Nat) (hr : n + m = r) (hsz : r ≤ 140737488351232)
    (h : ∀ v' w', Hid (OwnB w0 v' r (l ++ bs) w') → K (a.put o.dst v') w') : o.wp Tryd.prog a w K Q := by
  subst hr
  obtain ⟨i, hi, hzz⟩ := Option.map_eq_some_iff.1 infoU8r
  simp only [Prod.mk.injEq] at hzz
  obtain ⟨hz, hs1, hb1⟩ := hzz
  refine wp_append_bytes (P := Tryd.prog) w s x 122 ho w0.heap.size 5 i (.int .u8 0) 1 Tryd.underlying122 hi hz hs1 hb1 rfl v n (l.map cu8) hs hO.own N bp m c bs hx hB (by unfold maxLen; omega) (by omega) hO.below.size fun v' w' h1 h2 h3 => h v' w' (Lib.hid ⟨?_, by rw [List.map_append]; exact h1⟩)
  exact hO.below.grown h2 hO.below.size (fun k hk => (hO.own.lt k hk).1)
theorem wpList_joinB (w0 w : World) {ops : Array Oper} {rest : List Oper} {o : Oper} {a : Act} {Q : Exit → Act → World → Prop} (hgd : o.guard = none) (s x : Operand)
    (ho : o.op = .call { callee := .builtin .append, args := #[s, x], argTypes := #[122, 122] })
    (v : Value) (n : Nat) (l : List UInt8) (hs : a.eval s = v) (hO : OwnB w0 v n l w) (N : Nat) (bp : Option Addr) (m c : Nat) (bs : List UInt8) (hx : a.eval x = .slice bp m c) (hB : Bytes N w bp m c bs) (r : Nat) (hr : n + m = r) (hsz : r ≤ 140737488351232)
    (h : ∀ v' w', Hid (OwnB w0 v' r (l ++ bs) w') → wpList Tryd.prog ops Q rest (a.put o.dst v') w') : wpList Tryd.prog ops Q (o :: rest) a w :=
  wpList_plain hgd fun _ hK => wp_joinB w0 w s x ho v n l hs hO N bp m c bs hx hB r hr hsz fun v' w' h1 => hK _ _ (h v' w' h1)

theorem results_tmp_cell_row {P : Program} {fn : Func} {p u : Tmp} {ty : TypeId} (h : fn.results = #[.tmp u, .cell p ty]) (tmps : Array Value) (w : World) (g : Nat) (t : TypeId) (cs : Array Value) (fr : Nat × Nat) (d : TypeDesc)
    (hp : tmps.getD p undef = .pointer (some ⟨g, 0, none⟩)) (hg : w.heap[g]? = some (.cells cs t fr))
    (hu : P.underlying ty = some d) (hd : (match d with | .struct _ | .array _ _ => true | _ => false) = true) (hi : (P.info? ty).map (·.size) = some cs.size) (x : Value) (hx : tmps.getD u undef = x) :
    (results fn tmps).run P w = .ok (.tuple #[x, .agg cs]) w := by
  have hp' : tmps[p]?.getD undef = .pointer (some ⟨g, 0, none⟩) := by simpa using hp
  have hx' : tmps[u]?.getD undef = x := by simpa using hx
  simp [results, h, hp', hx', asAddr, run_loadVar_row w g t ty cs fr d hg hu hd hi]
theorem str_of_bytes (w : World) {N : Nat} {bp : Option Addr} {n cap : Nat} {bs : List UInt8} (h : Bytes N w bp n cap bs) (hn : 0 < n) : (convert 122 9 (.slice bp n cap)).run Tryd.prog w = .ok (.string (strV bs)) w := by
  obtain ⟨b, o, rfl, _, hc⟩ : ∃ b o, bp = some ⟨b, o, none⟩ ∧ b < N ∧ ∀ j, j < n → w.cell? ⟨b, o + j, none⟩ = some (cu8 (at8 bs j)) := by
    rcases h.lies with h0 | h0
    · omega
    · exact h0
  have hl := h.hlen
  subst hl
  refine run_convert_bytes_back w 122 9 5 ⟨b, o, none⟩ cap bs Tryd.underlying122 Tryd.underlying5 Tryd.underlying9 (fun j hj => ?_)
  have e : (⟨b, o, none⟩ : Addr).add j = ⟨b, o + j, none⟩ := by unfold Addr.add; split <;> simp_all
  rw [e, hc j hj]
  simp [cu8, bz_eq, at8, List.getElem?_eq_getElem hj]
theorem wpList_conv_back {ops : Array Oper} {rest : List Oper} {o : Oper} {a : Act} {w : World} {Q : Exit → Act → World → Prop} (hg : o.guard = none) (x : Operand) (hop : o.op = .convert 122 9 x) {N : Nat} {bp : Option Addr} {n cap : Nat} {bs : List UInt8} (h : Bytes N w bp n cap bs) (hn : 0 < n)
    (hx : a.eval x = .slice bp n cap) (sv : ByteArray) (hsv : sv = strV bs) (hK : wpList Tryd.prog ops Q rest (a.put o.dst (.string sv)) w) : wpList Tryd.prog ops Q (o :: rest) a w := by
  refine wpList_plain hg fun K' hK' => ?_
  have hrun := str_of_bytes w h hn
  rw [← hsv] at hrun
  unfold Oper.wp
  simp only [execOp, hop, hx, Sem.run_bind, hrun, Result.andThen, Sem.run_pure]
  exact hK' _ _ hK
theorem Bytes.turned {N : Nat} {w w' : World} {row : Option Nat} {bp : Option Addr} {len cap : Nat} {bs : List UInt8} (h : Bytes N w bp len cap bs) (hN : N ≤ w.heap.size) (hg : w.grownBy w' row) (hne : ∀ b o, bp = some ⟨b, o, none⟩ → row ≠ some b) : Bytes N w' bp len cap bs :=
  ⟨h.hlen, h.hroom, h.hmax, h.lies.imp id fun ⟨b, o, h1, h2, h3⟩ => ⟨b, o, h1, h2, fun j hj => (World.cell?_of_block (a := ⟨b, o + j, none⟩) (hg.block b (by omega) (fun e => hne b o h1 e.symm))).trans (h3 j hj)⟩⟩
def strsC (ts : List (List UInt8)) : List Value := ts.map fun t => Value.string (strV t)
theorem strs_of_own {w : World} {B : Nat} {v : Value} {n : Nat} {ts : List (List UInt8)} (h : w.ownsRow B 9 1 v n (strsC ts)) : ∃ bp cap, v = .slice bp n cap ∧ ts.length = n ∧ StrsAt w.heap.size w bp ts ∧ (bp = none → n = 0 ∧ cap = 0) := by
  have hl : ts.length = n := by have := h.1; simpa [strsC] using this
  rcases h.2 with ⟨rfl, rfl⟩ | ⟨g, cap, cur, rfl, _, hg, hc, hm, hs, ht⟩
  · exact ⟨none, 0, rfl, hl, .inl hl, fun _ => ⟨rfl, rfl⟩⟩
  · refine ⟨some ⟨g, 0, none⟩, cap, rfl, hl, .inr ⟨g, rfl, (Array.getElem?_eq_some_iff.1 hg).1, fun i t hi => ?_⟩, fun e => by cases e⟩
    have hin : i < n := by rw [← hl]; exact (List.getElem?_eq_some_iff.1 hi).1
    rw [cell_of_row w g i _ _ _ hg, ← Array.getElem?_toList]
    have e : (cur.toList.take (n * 1))[i]? = (strsC ts)[i]? := by rw [ht]
    rw [List.getElem?_take_of_lt (by omega)] at e
    rw [e]; simp [strsC, hi]

/-- A row of pages in block b. -/
def ImgAt (b : Nat) (img : List (List UInt8)) (w : World) : Prop := b < w.heap.size ∧ ∀ (i : Nat) p, img[i]? = some p → p.length = 64 ∧ w.rangeAt b (i * 64) (p.map cu8)
theorem ImgAt.below {b : Nat} {img : List (List UInt8)} {w w' : World} (h : ImgAt b img w) (hb : Below w.heap.size w w') : ImgAt b img w' :=
  ⟨Nat.lt_of_lt_of_le h.1 hb.size, fun i p hi => ⟨(h.2 i p hi).1, range_keep (h.2 i p hi).2 (hb.block b h.1)⟩⟩
theorem ImgAt.page {b : Nat} {img : List (List UInt8)} {w : World} {first n : Nat} (h : ImgAt b img w) (hin : first + n ≤ img.length) (hn : 0 < n) (i : Nat) : (pgOf img first n i).length = 64 ∧ w.rangeAt b ((first + i % n) * 64) ((pgOf img first n i).map cu8) := by
  have hm := Nat.mod_lt i hn
  have e : img[first + i % n]? = some (pgOf img first n i) := by
    unfold pgOf
    rw [List.getD_eq_getElem?_getD, List.getElem?_eq_getElem (by omega)]; rfl
  exact h.2 _ _ e
def zeroMk : Mk := ⟨0, 0, List.replicate 32 0⟩
def zeroMkA : Array Value := (markCells zeroMk).toArray
theorem allocMk (w : World) : (Instr.alloc 46 true (.tuple #[])).run Tryd.prog w = .ok (.pointer (some ⟨w.heap.size, 0, none⟩)) (w.alloc (.cells zeroMkA 46)) := by kernel_rfl
/-- The walk's world: the mark's box in x, the result's in x + 1, the texts in a row of its own. -/
structure ChW (x : Nat) (m : Mk) (v : Value) (ts : List (List UInt8)) (w wr : World) : Prop where
  box : wr.heap[x]? = some (.cells (markCells m).toArray 46 (0, 0))
  res : wr.heap[x + 1]? = some (.cells zeroMkA 46 (0, 0))
  own : wr.ownsRow (x + 2) 9 1 v ts.length (strsC ts)
  bel : Below x w wr
section
variable {x : Nat} {m : Mk} {v : Value} {ts : List (List UInt8)} {w wr w' : World}
theorem ChW.lt (h : ChW x m v ts w wr) : x + 2 ≤ wr.heap.size := (Array.getElem?_eq_some_iff.1 h.res).1
theorem ChW.below (h : ChW x m v ts w wr) (hb : Below wr.heap.size wr w') : ChW x m v ts w w' :=
  ⟨(hb.block x (by have := h.lt; omega)).trans h.box, (hb.block (x + 1) (by have := h.lt; omega)).trans h.res, h.own.kept (grownB (r := none) hb) (by cases hv : v.ownBlock <;> simp), h.bel.trans (hb.mono (by have := h.lt; omega))⟩
theorem ChW.add (h : ChW x m v ts w wr) {v' : Value} {t : List UInt8} (ho : w'.ownsRow (x + 2) 9 1 v' (ts.length + 1) (strsC ts ++ [.string (strV t)])) (hg : wr.grownBy w' v.ownBlock) : ChW x m v' (ts ++ [t]) w w' := by
  have hk : ∀ j, j < x + 2 → w'.heap[j]? = wr.heap[j]? := fun j hj => hg.block j (by have := h.lt; omega) (fun e => by have := (h.own.lt j e.symm).1; omega)
  refine ⟨(hk x (by omega)).trans h.box, (hk (x + 1) (by omega)).trans h.res, ?_, h.bel.grown hg (by have := h.lt; omega) (fun k hk => by have := (h.own.lt k hk).1; omega)⟩
  simpa [strsC] using ho
end
end Go.Proofs.YtegdlpllljccgaaDoor
