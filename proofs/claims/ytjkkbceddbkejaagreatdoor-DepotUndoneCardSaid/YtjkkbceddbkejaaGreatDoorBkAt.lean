/-
  A book in memory; sound, kept, has, Pages, Undo.
-/
import Derived.Test.YtjkkbceddbkejaaGreatDoorBkOk
import Derived.Test.YtjkkbceddbkejaaGreatDoorBkMap
set_option linter.unusedSimpArgs false
set_option linter.unusedVariables false
namespace Go.Proofs.YtjkkbceddbkejaaGreatDoor
open Go.RowKit Sh Go.Maps Go.Extern.Stop Go.Stop Go.Extern

def bookCells (b : Bk) (gd gr bn bt : Nat) : List Value := [.pointer (some ⟨gd, 0, none⟩), .pointer (some ⟨gr, 0, none⟩), .int .i64 (2 + b.n : Nat), .int .i64 b.pages, .int .u64 b.gen, .map (some bn), .map (some bt), .bool b.broken]
/-- The book in block g: its disk in gd (which has the blocks of Fd), its ring in gr, its news in bn, its transaction in bt. -/
structure BkIn (b : Bk) (Fd : Nat → Prop) (gd gr bn bt g : Nat) (w : World) : Prop where
  at_ : w.heap[g]? = some (.cells (bookCells b gd gr bn bt).toArray 107 (0, 0))
  disk : PD b.S Fd gd w
  ring : PrAt gr gd 2 b.n b.m b.used w
  news : MapAt bn b.news w
  txn : MapAt bt b.txn w
  ap : (g ≠ gr ∧ g ≠ bn ∧ g ≠ bt ∧ gr ≠ bn ∧ gr ≠ bt ∧ bn ≠ bt) ∧ ¬ Fd g ∧ ¬ Fd gr ∧ ¬ Fd bn ∧ ¬ Fd bt
def BFoot (Fd : Nat → Prop) (gr bn bt g k : Nat) : Prop := k = g ∨ k = gr ∨ k = bn ∨ k = bt ∨ Fd k
def BkAt (b : Bk) (F : Nat → Prop) (g : Nat) (w : World) : Prop := ∃ Fd gd gr bn bt, BkIn b Fd gd gr bn bt g w ∧ ∀ k, F k ↔ BFoot Fd gr bn bt g k
section
variable {b : Bk} {Fd F G : Nat → Prop} {gd gr bn bt g : Nat} {w w' : World}
theorem BkIn.lt (h : BkIn b Fd gd gr bn bt g w) : g < w.heap.size := (Array.getElem?_eq_some_iff.1 h.at_).1
theorem BkIn.cell (h : BkIn b Fd gd gr bn bt g w) (j : Nat) : w.cell? ⟨g, j, none⟩ = (bookCells b gd gr bn bt)[j]? := by rw [cell_of_row w g j _ _ _ h.at_, List.getElem?_toArray]
theorem BkIn.thawed (h : BkIn b Fd gd gr bn bt g w) (j : Nat) : w.frozen? ⟨g, j, none⟩ = false := by simp [World.frozen?, h.at_]
theorem BkIn.cells (h : BkIn b Fd gd gr bn bt g w) : w.cell? ⟨g, 0, none⟩ = some (.pointer (some ⟨gd, 0, none⟩)) ∧ w.cell? ⟨g, 1, none⟩ = some (.pointer (some ⟨gr, 0, none⟩)) ∧ w.cell? ⟨g, 2, none⟩ = some (.int .i64 (2 + b.n : Nat)) ∧ w.cell? ⟨g, 3, none⟩ = some (.int .i64 b.pages) ∧
    w.cell? ⟨g, 4, none⟩ = some (.int .u64 b.gen) ∧ w.cell? ⟨g, 5, none⟩ = some (.map (some bn)) ∧ w.cell? ⟨g, 6, none⟩ = some (.map (some bt)) ∧ w.cell? ⟨g, 7, none⟩ = some (.bool b.broken) := by
  refine ⟨?_, ?_, ?_, ?_, ?_, ?_, ?_, ?_⟩ <;> rw [h.cell] <;> rfl
theorem BkIn.only (h : BkIn b Fd gd gr bn bt g w) (ho : Only G w w') (hG : ∀ k, BFoot Fd gr bn bt g k → ¬ G k) : BkIn b Fd gd gr bn bt g w' where
  at_ := (ho.block g h.lt (hG g (.inl rfl))).trans h.at_
  disk := h.disk.keep ho (fun k hk => hG k (.inr (.inr (.inr (.inr hk)))))
  ring := h.ring.of_block (ho.block gr h.ring.lt (hG gr (.inr (.inl rfl))))
  news := h.news.of_block (ho.block bn h.news.lt (hG bn (.inr (.inr (.inl rfl)))))
  txn := h.txn.of_block (ho.block bt h.txn.lt (hG bt (.inr (.inr (.inr (.inl rfl))))))
  ap := h.ap
theorem BkIn.below (h : BkIn b Fd gd gr bn bt g w) (hb : Below w.heap.size w w') : BkIn b Fd gd gr bn bt g w' := h.only (G := fun _ => False) (Only.of_below hb) (fun _ _ => id)
theorem BkIn.foot_lt (h : BkIn b Fd gd gr bn bt g w) {k : Nat} (hk : BFoot Fd gr bn bt g k) : k < w.heap.size := by
  rcases hk with rfl | rfl | rfl | rfl | hk
  · exact h.lt
  · exact h.ring.lt
  · exact h.news.lt
  · exact h.txn.lt
  · exact h.disk.lt hk
/-- The disk turned. -/
theorem BkIn.diskTurn (h : BkIn b Fd gd gr bn bt g w) {S : St} {Fd' : Nat → Prop} (hP : PD S Fd' gd w') (ho : Only Fd w w') (hF : ∀ k, Fd' k → Fd k ∨ w.heap.size ≤ k) (hf : S.firm.length = b.S.firm.length) :
    BkIn { b with S := S } Fd' gd gr bn bt g w' := by
  obtain ⟨a1, n1, n2, n3, n4⟩ := h.ap
  have nf : ∀ {k}, k < w.heap.size → ¬ Fd k → ¬ Fd' k := fun {k} hk hn hf => (hF k hf).elim hn (fun h => by omega)
  have ep : ({ b with S := S } : Bk).pages = b.pages := pages_of hf rfl
  exact ⟨by rw [ho.block g h.lt n1, h.at_]; simp only [bookCells, ep], hP, h.ring.of_block (ho.block gr h.ring.lt n2), h.news.of_block (ho.block bn h.news.lt n3), h.txn.of_block (ho.block bt h.txn.lt n4),
    a1, nf h.lt n1, nf h.ring.lt n2, nf h.news.lt n3, nf h.txn.lt n4⟩
/-- The news turned. -/
theorem BkIn.newsTurn (h : BkIn b Fd gd gr bn bt g w) {l : List Chg} (hm : MapAt bn l w') (hg : w.grownBy w' (some bn)) : BkIn { b with news := l } Fd gd gr bn bt g w' := by
  obtain ⟨⟨a1, a2, a3, a4, a5, a6⟩, n1, n2, n3, n4⟩ := h.ap
  have ho := Only.of_grown (F := fun k => k = bn) hg (fun k e => by simpa using e.symm)
  exact ⟨(ho.block g h.lt a2).trans h.at_, h.disk.keep ho (fun k hk e => n3 (by rw [← (show k = bn from e)]; exact hk)), h.ring.of_block (ho.block gr h.ring.lt a4), hm, h.txn.of_block (ho.block bt h.txn.lt (fun e => a6 e.symm)),
    ⟨a1, a2, a3, a4, a5, a6⟩, n1, n2, n3, n4⟩
theorem BkIn.txnTurn (h : BkIn b Fd gd gr bn bt g w) {l : List Chg} (hm : MapAt bt l w') (hg : w.grownBy w' (some bt)) : BkIn { b with txn := l } Fd gd gr bn bt g w' := by
  obtain ⟨⟨a1, a2, a3, a4, a5, a6⟩, n1, n2, n3, n4⟩ := h.ap
  have ho := Only.of_grown (F := fun k => k = bt) hg (fun k e => by simpa using e.symm)
  exact ⟨(ho.block g h.lt a3).trans h.at_, h.disk.keep ho (fun k hk e => n4 (by rw [← (show k = bt from e)]; exact hk)), h.ring.of_block (ho.block gr h.ring.lt a5), h.news.of_block (ho.block bn h.news.lt a6), hm,
    ⟨a1, a2, a3, a4, a5, a6⟩, n1, n2, n3, n4⟩
theorem BkIn.ringTurn (h : BkIn b Fd gd gr bn bt g w) {m : Mk} {u : Nat} (hr : PrAt gr gd 2 b.n m u w') (ho : Only (fun k => k = gr) w w') : BkIn { b with m := m, used := u } Fd gd gr bn bt g w' := by
  obtain ⟨⟨a1, a2, a3, a4, a5, a6⟩, n1, n2, n3, n4⟩ := h.ap
  exact ⟨(ho.block g h.lt a1).trans h.at_, h.disk.keep ho (fun k hk e => n2 (by rw [← (show k = gr from e)]; exact hk)), hr, h.news.of_block (ho.block bn h.news.lt (fun e => a4 e.symm)), h.txn.of_block (ho.block bt h.txn.lt (fun e => a5 e.symm)),
    ⟨a1, a2, a3, a4, a5, a6⟩, n1, n2, n3, n4⟩
/-- The disk and the ring turned. -/
theorem BkIn.addTurn (h : BkIn b Fd gd gr bn bt g w) {S : St} {Fd' : Nat → Prop} {m : Mk} {u : Nat} (hP : PD S Fd' gd w') (hr : PrAt gr gd 2 b.n m u w') (ho : Only (fun k => k = gr ∨ Fd k) w w') (hF : ∀ k, Fd' k → Fd k ∨ w.heap.size ≤ k) (hf : S.firm.length = b.S.firm.length) :
    BkIn { b with S := S, m := m, used := u } Fd' gd gr bn bt g w' := by
  obtain ⟨⟨a1, a2, a3, a4, a5, a6⟩, n1, n2, n3, n4⟩ := h.ap
  have nf : ∀ {k}, k < w.heap.size → ¬ Fd k → ¬ Fd' k := fun {k} hk hn hf => (hF k hf).elim hn (fun h => by omega)
  have ep : ({ b with S := S, m := m, used := u } : Bk).pages = b.pages := pages_of hf rfl
  have no : ∀ {k}, k ≠ gr → ¬ Fd k → ¬ (k = gr ∨ Fd k) := fun h1 h2 h3 => h3.elim h1 h2
  exact ⟨by rw [ho.block g h.lt (no a1 n1), h.at_]; simp only [bookCells, ep], hP, hr, h.news.of_block (ho.block bn h.news.lt (no (fun e => a4 e.symm) n3)), h.txn.of_block (ho.block bt h.txn.lt (no (fun e => a5 e.symm) n4)),
    ⟨a1, a2, a3, a4, a5, a6⟩, nf h.lt n1, nf h.ring.lt n2, nf h.news.lt n3, nf h.txn.lt n4⟩
theorem BkIn.cellTurn (h : BkIn b Fd gd gr bn bt g w) {b' : Bk} (j : Nat) (v : Value) (hs : b'.S = b.S ∧ b'.n = b.n ∧ b'.m = b.m ∧ b'.used = b.used ∧ b'.news = b.news ∧ b'.txn = b.txn) (hc : (bookCells b gd gr bn bt).set j v = bookCells b' gd gr bn bt) :
    BkIn b' Fd gd gr bn bt g (w.setCell ⟨g, j, none⟩ v) := by
  obtain ⟨⟨a1, a2, a3, a4, a5, a6⟩, n1, n2, n3, n4⟩ := h.ap
  obtain ⟨e1, e2, e3, e4, e5, e6⟩ := hs
  have hg := grown_setCell w ⟨g, j, none⟩ v
  have ho := Only.of_grown (F := fun k => k = g) hg (fun k e => by simpa using e.symm)
  have hset := setCell_row h.at_ j v
  rw [hc] at hset
  exact ⟨hset, by rw [e1]; exact h.disk.keep ho (fun k hk e => n1 (by rw [← (show k = g from e)]; exact hk)), by rw [e2, e3, e4]; exact h.ring.of_block (ho.block gr h.ring.lt (fun e => a1 e.symm)), by rw [e5]; exact h.news.of_block (ho.block bn h.news.lt (fun e => a2 e.symm)), by rw [e6]; exact h.txn.of_block (ho.block bt h.txn.lt (fun e => a3 e.symm)),
    ⟨a1, a2, a3, a4, a5, a6⟩, n1, n2, n3, n4⟩
theorem BkIn.break (h : BkIn b Fd gd gr bn bt g w) : BkIn { b with broken := true } Fd gd gr bn bt g (w.setCell ⟨g, 7, none⟩ (.bool true)) := h.cellTurn 7 (.bool true) ⟨rfl, rfl, rfl, rfl, rfl, rfl⟩ rfl
theorem BkIn.setGen (h : BkIn b Fd gd gr bn bt g w) (n : Nat) : BkIn { b with gen := n } Fd gd gr bn bt g (w.setCell ⟨g, 4, none⟩ (.int .u64 n)) := h.cellTurn 4 (.int .u64 n) ⟨rfl, rfl, rfl, rfl, rfl, rfl⟩ rfl

/-! The small calls. -/
def soundN (b : Bk) : Int := if b.broken = true then 10 else 0
theorem sound_any (h : BkIn b Fd gd gr bn bt g w) : Calls Tryz.prog 49 #[.pointer (some ⟨g, 0, none⟩)] w fun e w' => e = .returned (errVal (soundN b)) ∧ w = w' := by
  obtain ⟨c0, c1, c2, c3, c4, c5, c6, c7⟩ := h.cells
  unfold soundN
  obtain ⟨br, hbr⟩ : ∃ br, b.broken = br := ⟨_, rfl⟩
  rw [hbr] at c7 ⊢
  clear h c0 c1 c2 c3 c4 c5 c6 hbr
  cases br with
  | true =>
    have e : errVal (if true = true then (10 : Int) else 0) = .iface 84 (.int .i64 10) := rfl
    rw [e]
    go_enter Tryz.func49, Tryz.ntmps49
    go_wp2
    go_ret
    exact ⟨rfl, rfl⟩
  | false =>
    have e : errVal (if false = true then (10 : Int) else 0) = .nilIface := rfl
    rw [e]
    go_enter Tryz.func49, Tryz.ntmps49
    go_wp2
    go_ret
    exact ⟨rfl, rfl⟩
theorem sound_nil (w : World) : Calls Tryz.prog 49 #[.pointer none] w fun e w' => e = .returned (.iface 84 (.int .i64 10)) ∧ w = w' := by
  go_enter Tryz.func49, Tryz.ntmps49
  go_wp2
  go_ret
  exact ⟨rfl, rfl⟩
theorem has_any (h : BkIn b Fd gd gr bn bt g w) (i : Int) : Calls Tryz.prog 117 #[.pointer (some ⟨g, 0, none⟩), .int .i64 i] w fun e w' => e = .returned (.bool (decide (0 ≤ i ∧ i < (b.pages : Int)))) ∧ w = w' := by
  obtain ⟨c0, c1, c2, c3, c4, c5, c6, c7⟩ := h.cells
  obtain ⟨n, hn⟩ : ∃ n, b.pages = n := ⟨_, rfl⟩
  rw [hn] at c3 ⊢
  clear h c0 c1 c2 c4 c5 c6 c7 hn
  by_cases h0 : 0 ≤ i
  · have hd : decide (0 ≤ i ∧ i < (n : Int)) = decide (i < (n : Int)) := by simp [h0]
    rw [hd]
    obtain ⟨bb, hbb⟩ : ∃ bb, decide (i < (n : Int)) = bb := ⟨_, rfl⟩
    rw [hbb]
    go_enter Tryz.func117, Tryz.ntmps117
    go_wp2
    go_ret
    exact ⟨rfl, rfl⟩
  · have hd : decide (0 ≤ i ∧ i < (n : Int)) = false := by simp [h0]
    rw [hd]
    go_enter Tryz.func117, Tryz.ntmps117
    go_wp2
    go_ret
    exact ⟨rfl, rfl⟩
theorem pages_any (h : BkIn b Fd gd gr bn bt g w) : Calls Tryz.prog 47 #[.pointer (some ⟨g, 0, none⟩)] w fun e w' => e = .returned (.int .i64 b.pages) ∧ w = w' := by
  obtain ⟨c0, c1, c2, c3, c4, c5, c6, c7⟩ := h.cells
  obtain ⟨n, hn⟩ : ∃ n, b.pages = n := ⟨_, rfl⟩
  rw [hn] at c3 ⊢
  clear h c0 c1 c2 c4 c5 c6 c7 hn
  go_enter Tryz.func47, Tryz.ntmps47
  go_wp2
  go_ret
  exact ⟨rfl, rfl⟩
theorem pages_nil (w : World) : Calls Tryz.prog 47 #[.pointer none] w fun e w' => e = .returned (.int .i64 0) ∧ w = w' := by
  go_enter Tryz.func47, Tryz.ntmps47
  go_wp2
  go_ret
  exact ⟨rfl, rfl⟩
theorem undo_nil (w : World) : Calls Tryz.prog 24 #[.pointer none] w fun e w' => e = .returned (.tuple #[]) ∧ w = w' := by
  go_enter Tryz.func24, Tryz.ntmps24
  go_wp2
  first | go_end0 | refine bodyPost_ret (results_none rfl _ _ _) rfl ?_
  exact ⟨rfl, rfl⟩
/-- kept: an error breaks the book. -/
theorem kept_nil (h : BkIn b Fd gd gr bn bt g w) : Calls Tryz.prog 50 #[.pointer (some ⟨g, 0, none⟩), .nilIface] w fun e w' => e = .returned .nilIface ∧ w = w' := by
  clear h
  go_enter Tryz.func50, Tryz.ntmps50
  go_wp2
  go_ret
  exact ⟨rfl, rfl⟩
def KeptP (b : Bk) (Fd : Nat → Prop) (gd gr bn bt g : Nat) (v : Value) (w : World) (e : Ending) (w' : World) : Prop := e = .returned v ∧ BkIn { b with broken := true } Fd gd gr bn bt g w' ∧ w.grownBy w' (some g)
theorem kept_err (h : BkIn b Fd gd gr bn bt g w) {n : Int} {v : Value} (hn : n ≠ 0) (hE : ErrV w n v) : Calls Tryz.prog 50 #[.pointer (some ⟨g, 0, none⟩), v] w (KeptP b Fd gd gr bn bt g v w) := by
  obtain ⟨c0, c1, c2, c3, c4, c5, c6, c7⟩ := h.cells
  have f7 := h.thawed 7
  have hq := hE.neqNil
  have hd : decide (n = 0) = false := decide_eq_false hn
  rw [hd] at hq
  have hbr := Lib.hid h.break
  have hgr := Lib.hid (grown_setCell w ⟨g, 7, none⟩ (.bool true))
  obtain ⟨ss, hC⟩ := (hE.resolve_left (fun h => hn h.1)).2
  obtain ⟨t, x, rfl⟩ := hC.iface
  clear h c0 c1 c2 c3 c4 c5 c6 hE hd hC
  go_enter Tryz.func50, Tryz.ntmps50
  go_wp2
  go_ret
  exact ⟨rfl, hbr.out, hgr.out⟩
/-- Undo: the transaction is gone. -/
def UndoP (b : Bk) (Fd : Nat → Prop) (gd gr bn bt g : Nat) (w : World) (e : Ending) (w' : World) : Prop := e = .returned (.tuple #[]) ∧ BkIn { b with txn := [] } Fd gd gr bn bt g w' ∧ w.grownBy w' (some bt)
theorem undo_in (h : BkIn b Fd gd gr bn bt g w) : Calls Tryz.prog 24 #[.pointer (some ⟨g, 0, none⟩)] w (UndoP b Fd gd gr bn bt g w) := by
  obtain ⟨c0, c1, c2, c3, c4, c5, c6, c7⟩ := h.cells
  have hcl := h.txn.clear 0
  obtain ⟨w1, hrun, hm, hg⟩ := hcl
  have H1 := Lib.hid (h.txnTurn hm hg); have Hg := Lib.hid hg
  clear h hm hg c0 c1 c2 c3 c4 c5 c7
  go_enter Tryz.func24, Tryz.ntmps24
  go_wp2
  first | go_end0 | refine bodyPost_ret (v := .tuple #[]) (results_none rfl _ _ _) rfl ?_
  exact ⟨rfl, H1.out, Hg.out⟩
end
end Go.Proofs.YtjkkbceddbkejaaGreatDoor
