/-
  Way, of what In made and of nothing: the question that ask puts, and what comes of it.
-/
import Derived.Test.YtbkbhmgmlcmanaaDoorWoeNumber
import Derived.Deep.AppendLies
import Derived.RegionTactic
import Derived.Deep.RegionLaw
import Derived.OneCell
namespace Go.Proofs.YtbkbhmgmlcmanaaDoor
open Go.RowKit Go.Extern.Stop Go.Stop Go.Extern

theorem infoStr : (Tryd.prog.info? 9).map (fun i => (i.zero, i.size, i.bytes)) = some (some (.string ⟨#[]⟩), 1, 16) := by kernel_rfl

theorem as_nil (t : Value) (w : World) : Calls Tryd.prog 14 #[.nilIface, t] w fun e w' => e = .returned (.bool false) ∧ w' = w := by
  go_enter Tryd.func14, Tryd.ntmps14
  go_wp2
  go_ret
  exact ⟨rfl, rfl⟩

/-- The texts of a way, as cells. -/
def strs (ss : List ByteArray) : List Value := ss.map .string
theorem strs_length (ss : List ByteArray) : (strs ss).length = ss.length := by simp [strs]

theorem grownBy_of_below' {a b : World} {r : Option Nat} (h : Below a.heap.size a b) : a.grownBy b r := ⟨h.os, h.tape, h.output, h.size, fun j hj _ => h.block j hj⟩

/-- What was asked along the chain: k places are in the slice already. -/
structure WayI (N M b2 : Nat) (n : Int) (ss r : List ByteArray) (w : World) (val : Value) (wr : World) : Prop where
  below : Below N w wr
  laid : Laid wr
  size : M < wr.heap.size
  cell : wr.cell? ⟨b2, 0, none⟩ = some val
  thaw : wr.frozen? ⟨b2, 0, none⟩ = false
  own : wr.ownsRow (M + 1) 9 1 val (ss.length - r.length) (strs (ss.take (ss.length - r.length)))
  tail : r = ss.drop (ss.length - r.length) ∧ r.length ≤ ss.length

theorem drop_cons {α : Type} {ss r : List α} {s : α} (h : s :: r = ss.drop (ss.length - (s :: r).length)) (hl : (s :: r).length ≤ ss.length) :
    r = ss.drop (ss.length - r.length) ∧ ss.take (ss.length - r.length) = ss.take (ss.length - (s :: r).length) ++ [s] ∧ ss.length - r.length = ss.length - (s :: r).length + 1 := by
  simp only [List.length_cons] at *
  have e : ss.length - r.length = ss.length - (r.length + 1) + 1 := by omega
  have hd : r = ss.drop (ss.length - (r.length + 1) + 1) := by
    have := congrArg List.tail h
    simpa using this
  refine ⟨by rw [e]; exact hd, ?_, e⟩
  rw [e, List.take_add_one]
  have : ss[ss.length - (r.length + 1)]? = some s := by
    have := congrArg (fun l => l[0]?) h
    simpa using this.symm
  rw [this]; rfl

theorem WayI.sets {N M b2 : Nat} {n : Int} {ss r : List ByteArray} {w wr w1 : World} {val x : Value} (h : WayI N M b2 n ss r w val wr) (hN : 0 < N) (hNM : N ≤ M) (hb2 : b2 < M) (hS : Sets ⟨M, 0, none⟩ x wr w1) : WayI N M b2 n ss r w val w1 := by
  have hsz := h.size
  have hb : Below N wr w1 := hS.below (by omega) hNM
  have hfar : w1.heap[b2]? = wr.heap[b2]? := hS.grown.block b2 (by omega) (by simp; omega)
  refine ⟨h.below.trans hb, h.laid.below hN hb, Nat.lt_of_lt_of_le h.size hb.size, (World.cell?_of_block (w := wr) (a := ⟨b2, 0, none⟩) hfar).trans h.cell, (World.frozen?_of_block (w := wr) (a := ⟨b2, 0, none⟩) hfar).trans h.thaw, h.own.kept hS.grown ?_, h.tail⟩
  cases hv : val.ownBlock with
  | none => exact .inl rfl
  | some k => right; have := (h.own.lt k hv).1; simp; omega

/-- A place more, stored into the variable. -/
theorem WayI.next {N M b2 g cap : Nat} {n : Int} {ss r : List ByteArray} {s : ByteArray} {w w1 w2 w3 : World} {val : Value} (h : WayI N M b2 n ss (s :: r) w val w1) (hN : 0 < N) (hNb : N ≤ b2) (hb2 : b2 < M) (h12 : Below w1.heap.size w1 w2)
    (hown : w3.ownsRow (M + 1) 9 1 (.slice (some ⟨g, 0, none⟩) (ss.length - (s :: r).length + 1) cap) (ss.length - (s :: r).length + 1) (strs (ss.take (ss.length - (s :: r).length)) ++ [.string s])) (hgr : w2.grownBy w3 val.ownBlock) :
    WayI N M b2 n ss r w (.slice (some ⟨g, 0, none⟩) (ss.length - r.length) cap) (w3.setCell ⟨b2, 0, none⟩ (.slice (some ⟨g, 0, none⟩) (ss.length - r.length) cap)) ∧
    (∀ a : Addr, a.block < w1.heap.size → val.ownBlock ≠ some a.block → a.block ≠ b2 → (w3.setCell ⟨b2, 0, none⟩ (.slice (some ⟨g, 0, none⟩) (ss.length - r.length) cap)).heap[a.block]? = w1.heap[a.block]?) ∧
    Below N w1 (w3.setCell ⟨b2, 0, none⟩ (.slice (some ⟨g, 0, none⟩) (ss.length - r.length) cap)) := by
  obtain ⟨d1, d2, d3⟩ := drop_cons h.tail.1 h.tail.2
  have hsz := h.size
  have hvo : ∀ k, val.ownBlock = some k → M + 1 ≤ k := fun k hk => (h.own.lt k hk).1
  have hb2' : val.ownBlock ≠ some b2 := fun e => by have := hvo _ e; omega
  have hb13 : Below N w1 w3 := (h12.mono (by have := h.below.size; omega)).grown hgr (by have := h12.size; omega) (fun k hk => by have := hvo k hk; omega)
  have hc3 : w3.cell? ⟨b2, 0, none⟩ = some val := (hgr.cell_far ⟨b2, 0, none⟩ (by have := h12.size; simp only; omega) (fun e => hb2' e.symm)).trans ((h12.cell (p := ⟨b2, 0, none⟩) (by simp only; omega)).trans h.cell)
  have hf3 : w3.frozen? ⟨b2, 0, none⟩ = false := (hgr.frozen_far ⟨b2, 0, none⟩ (by have := h12.size; simp only; omega) (fun e => hb2' e.symm)).trans ((h12.frozen (p := ⟨b2, 0, none⟩) (by simp only; omega)).trans h.thaw)
  have hb : Below N w1 (w3.setCell ⟨b2, 0, none⟩ (.slice (some ⟨g, 0, none⟩) (ss.length - r.length) cap)) := hb13.setCell (p := ⟨b2, 0, none⟩) hNb _
  refine ⟨⟨h.below.trans hb, h.laid.below hN hb, Nat.lt_of_lt_of_le h.size hb.size, World.cell?_setCell_same' _ _ _ (by simp [hc3]), by simpa using hf3, ?_, ⟨d1, by have := h.tail.2; simp only [List.length_cons] at this; omega⟩⟩, ?_, hb⟩
  · refine ownsRow_setCell_below ?_ (by simp only; omega) _
    rw [d2, d3]
    simpa [strs] using hown
  · intro a ha hne hnb
    rw [Below.heap_setCell _ _ _ _ hnb, hgr.block a.block (by have := h12.size; omega) (fun e => hne e.symm), h12.block a.block ha]

/-- The answer: val holds the texts, in a row that is new. -/
def WayPost (N M b2 : Nat) (ss : List ByteArray) (w : World) (e : Ending) (w' : World) : Prop :=
  e = .returned (.tuple #[]) ∧ Below N w w' ∧ ∃ val, w'.cell? ⟨b2, 0, none⟩ = some val ∧ w'.ownsRow (M + 1) 9 1 val ss.length (strs ss)

set_option maxRecDepth 100000 in
set_option maxHeartbeats 4000000 in
theorem way1_any (N b1 b2 : Nat) (n : Int) (ss : List ByteArray) (v : Value) (w : World) (hL : Laid w) (hN : 0 < N) (hN2 : N ≤ b2) (hC : Chain N w n ss v) (hl : ss.length < 2147483646)
    (h1 : w.cell? ⟨b1, 0, none⟩ = some v) (ht : w.cell? ⟨b2, 0, none⟩ = some (.slice none 0 0)) (hf : w.frozen? ⟨b2, 0, none⟩ = false) :
    Calls Tryd.prog 21 #[.pointer (some ⟨b1, 0, none⟩), .pointer (some ⟨b2, 0, none⟩)] w (WayPost N w.heap.size b2 ss w) := by
  obtain ⟨i, hi, hzz⟩ := Option.map_eq_some_iff.1 infoStr
  simp only [Prod.mk.injEq] at hzz
  have HI := Lib.hid hzz
  clear hzz
  have hb2l : b2 < w.heap.size := World.block_lt_of_cell? w _ ht
  have hb1l : b1 < w.heap.size := World.block_lt_of_cell? w _ h1
  have hbW := (Below.refl w.heap.size w).alloc (Nat.le_refl _) (.cells #[.pointer none] 33)
  have h1' := (hbW.cell (p := ⟨b1, 0, none⟩) hb1l).trans h1
  obtain ⟨W1, hW1⟩ : ∃ W1, W1 = w.alloc (.cells #[.pointer none] 33) := ⟨_, rfl⟩
  have hI : WayI N w.heap.size b2 n ss ss w (.slice none 0 0) W1 := by
    rw [← hW1] at hbW h1'
    have hb := hbW.mono (B' := N) (by omega)
    exact ⟨hb, hL.below hN hb, by rw [hW1]; simp, (hbW.cell (p := ⟨b2, 0, none⟩) hb2l).trans ht, (hbW.frozen (p := ⟨b2, 0, none⟩) hb2l).trans hf, by simpa [strs] using World.ownsRow_nil W1 _ _ _, by simp, Nat.le_refl _⟩
  have hc1 : W1.cell? ⟨w.heap.size, 0, none⟩ = some (.pointer none) := by rw [hW1]; simp
  have hf1 : W1.frozen? ⟨w.heap.size, 0, none⟩ = false := by rw [hW1]; simp
  have hC1 : Chain N W1 n ss v := hC.below hI.below
  go_enter Tryd.func21, Tryd.ntmps21
  go_wp2
  rw [← hW1]
  rw [← hW1] at h1' hbW
  clear hW1 h1' h1 hbW hC
  go_loopg [3] ss.length (fun g v wr => ∃ (r : List ByteArray) (x val q : Value), g = r.length ∧ x = v ∧ WayI N w.heap.size b2 n ss r w val wr ∧ Chain N wr n r x ∧ wr.cell? ⟨w.heap.size, 0, none⟩ = some q ∧ wr.frozen? ⟨w.heap.size, 0, none⟩ = false)
  case atStart => exact ⟨ss, v, _, _, rfl, rfl, hI, hC1, hc1, hf1⟩
  case round =>
    clear hI hC1 hc1 hf1
    obtain ⟨r, x, val, q, rfl, rfl, hI, hC, hcw, hfw⟩ := hrel
    cases r with
    | nil =>
      obtain rfl := hC
      go_wp2_with (go_at_call 14; refine (as_none n q ⟨w.heap.size, 0, none⟩ wr hI.laid hcw hfw).mono ?_; rintro e w1 ⟨rfl, hb⟩)
      first | go_end0 | refine bodyPost_ret (results_none rfl _ _ _) rfl ?_
      refine ⟨rfl, hI.below.trans (hb.mono ?_), val, ?_, ?_⟩
      · have := hI.size; omega
      · exact (hb.cell (p := ⟨b2, 0, none⟩) (by have := hI.size; simp only; omega)).trans hI.cell
      · have hk := hI.own.kept (grownBy_of_below' (r := none) hb) (by cases hv : val.ownBlock <;> simp)
        simpa using hk
    | cons s r =>
      obtain ⟨b, x, rfl, hlt, hx0, hx1, hC⟩ := hC
      go_wp2_with (go_at_call 14; refine (as_outer b q ⟨w.heap.size, 0, none⟩ wr hI.laid hcw hfw).mono ?_; rintro e w1 ⟨rfl, hS⟩; have hr := hS.cell)
      have hz : N ≤ wr.heap.size := by have := hI.size; omega
      have hbS := hS.below hz (t := ⟨w.heap.size, 0, none⟩) (by simp only; omega)
      have hI1 := hI.sets hN (by omega) hb2l hS
      have hfr := hS.thaw
      have hx0 := (hbS.cell (p := ⟨b, 0, none⟩) hlt).trans hx0
      have hx1 := (hbS.cell (p := ⟨b, 1, none⟩) hlt).trans hx1
      have hC := hC.below hbS
      clear hI hS hcw hfw hbS hz
      have hval := hI1.cell
      have hl1 := hI1.size
      have hn1 : ¬ b2 = w1.heap.size := by omega
      have hown := hI1.own
      have hk : ss.length - (s :: r).length < 2147483646 := by omega
      generalize hkk : ss.length - (s :: r).length = k at hown hk
      obtain ⟨hz0, hz1, hz2⟩ := HI.out
      have hthaw := hI1.thaw
      have HT := Lib.hid hI1
      clear hI1
      have h12 := ((Below.refl w1.heap.size w1).alloc (Nat.le_refl _) (.cells #[.string s] 9)).drew
      have hvo : ∀ j, val.ownBlock = some j → w.heap.size + 1 ≤ j := fun j hj => (hown.lt j hj).1
      have Hst := Lib.hid (fun (w3 : World) (hgr3 : ((w1.alloc (.cells #[.string s] 9)).drew).grownBy w3 val.ownBlock) => show w3.cell? ⟨b2, 0, none⟩ = some val ∧ w3.frozen? ⟨b2, 0, none⟩ = false from
        ⟨(hgr3.cell_far ⟨b2, 0, none⟩ (by have := h12.size; simp only; omega) (fun e => by have := hvo b2 e.symm; omega)).trans ((h12.cell (p := ⟨b2, 0, none⟩) (by simp only; omega)).trans hval),
          (hgr3.frozen_far ⟨b2, 0, none⟩ (by have := h12.size; simp only; omega) (fun e => by have := hvo b2 e.symm; omega)).trans ((h12.frozen (p := ⟨b2, 0, none⟩) (by simp only; omega)).trans hthaw)⟩)
      have hval2 : (w1.alloc (.cells #[.string s] 9)).cell? ⟨b2, 0, none⟩ = some val := (h12.cell (p := ⟨b2, 0, none⟩) (by simp only; omega)).trans hval
      clear hthaw h12 hvo
      go_region_law (refine step_append_lies _ (by rfl) _ _ _ (by rfl) (w.heap.size + 1) 9 i _ 1 16 Tryd.underlying23 hi hz0 hz1 hz2 rfl (by omega) val k _ (by rfl) ((hown.alloc _).drew) ⟨w1.heap.size, 0, none⟩ 1 1 [.string s] (by rfl) (by rfl) (World.news_of_block (cs := #[.string s]) (t := 9) (fr := (0, 0)) (heap_alloc_new w1 _)) (by simp [Value.oneCell']) (by omega) (by unfold maxLen; omega) (by omega) (by simp; omega) (w1.heap.size + 1) (by simp) ?_; intro gg cap w3 hown3 hgr3 hat hlt2; have hc3 := (Hst.out w3 hgr3).1; have hf3 := (Hst.out w3 hgr3).2)
      all_goals
        obtain ⟨d1, d2, d3⟩ := drop_cons HT.out.tail.1 HT.out.tail.2
        rw [← hkk] at hown3
        obtain ⟨hI3, hfar, hbN⟩ := HT.out.next hN hN2 hb2l (((Below.refl w1.heap.size w1).alloc (Nat.le_refl _) (.cells #[.string s] 9)).drew) hown3 hgr3
        rw [hkk] at d3
        rw [d3] at hI3 hfar hbN
        have hvo : ∀ j, val.ownBlock = some j → w.heap.size + 1 ≤ j := fun j hj => (hown.lt j hj).1
        have hcw : (w3.setCell ⟨b2, 0, none⟩ (.slice (some ⟨gg, 0, none⟩) (k + 1) cap)).cell? ⟨w.heap.size, 0, none⟩ = some (.pointer (some ⟨b, 0, none⟩)) := (World.cell?_of_block (hfar ⟨w.heap.size, 0, none⟩ (by simp only; omega) (fun e => by have := hvo _ e; simp only at this; omega) (by simp only; omega))).trans hr
        have hfw : (w3.setCell ⟨b2, 0, none⟩ (.slice (some ⟨gg, 0, none⟩) (k + 1) cap)).frozen? ⟨w.heap.size, 0, none⟩ = false := (World.frozen?_of_block (hfar ⟨w.heap.size, 0, none⟩ (by simp only; omega) (fun e => by have := hvo _ e; simp only at this; omega) (by simp only; omega))).trans hfr
        have hx3 := (hbN.cell (p := ⟨b, 1, none⟩) hlt).trans hx1
        have hC3 := hC.below hbN
        generalize hW4 : w3.setCell ⟨b2, 0, none⟩ (.slice (some ⟨gg, 0, none⟩) (k + 1) cap) = w4 at hI3 hcw hfw hx3 hC3
        clear hc3 hf3 hfar hown3 hgr3 hat hlt2 hbN hx0 hx1 hC hr hfr hval hval2 hown d1 d2 d3
        go_wp2_with (go_at_call 18; refine (unwrap_at b x _ hx3).mono ?_; rintro e w' ⟨rfl, rfl⟩)
        go_roundg (r.length)
        case measure => simp
        case rel => exact ⟨r, x, _, _, rfl, rfl, hI3, hC3, hcw, hfw⟩
end Go.Proofs.YtbkbhmgmlcmanaaDoor
