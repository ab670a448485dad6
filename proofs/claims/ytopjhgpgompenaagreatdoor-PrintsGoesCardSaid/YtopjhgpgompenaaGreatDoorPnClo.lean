/-
  Package prints: what look is handed.
-/
import Derived.Test.YtopjhgpgompenaaGreatDoorPnBook
set_option linter.unusedSimpArgs false
set_option linter.unusedVariables false
namespace Go.Proofs.YtopjhgpgompenaaGreatDoor
open Go.RowKit Sh Go.Maps Go.Extern.Stop Go.Stop Go.Extern

def fitF (d : List UInt8) (e : Ent) : Bool := decide (0 < e.refs) && (decide (e.refs < 15) && decide (e.dg = d))
def fitO (e : Ent) : Bool := decide (e.refs = 0)
def fitS (s : Int) (e : Ent) : Bool := decide (0 < e.refs) && decide ((e.slot : Int) = s)
theorem wpList_load_dig {ops : Array Oper} {Q : Exit → Act → World → Prop} {a : Act} {w : World} {o : Oper} {rest : List Oper} (x : Operand) (ho : o.op = .load 71 x) (b off : Nat) (hx : a.eval x = .pointer (some ⟨b, off, none⟩)) (p : Array Value)
    (hr : (Instr.loadAt 71 (.pointer (some ⟨b, off, none⟩))).run Tryz.prog w = .ok (.agg p) w) (hw : Region.wanted o (yielded ops a.tmps) = true) (h : wpList Tryz.prog ops Q rest (a.put o.dst (.agg p)) w) : wpList Tryz.prog ops Q (o :: rest) a w :=
  wpList_val hw (exec_load _ _ 71 x ho b off hx p hr) h
theorem eqDig (l1 l2 : List UInt8) (h1 : l1.length = 32) (h2 : l2.length = 32) (W : World) : (binOp .eql 71 (.agg (l1.map cu8).toArray) (.agg (l2.map cu8).toArray)).run Tryz.prog W = .ok (.bool (decide (l1 = l2))) W := by
  rw [run_eql_struct, run_items (P := Tryz.prog) 71 5 32 Tryz.underlying71 Tryz.underlying5 (by kernel_rfl) l1 l2 h1 h2 W]; rfl
set_option maxRecDepth 100000 in
theorem free1_any (e : Ent) (h : EntOk e) (w : World) : Calls Tryz.prog 80 #[entV e] w (RetP (.bool (fitO e)) w) := by
  have hl := h.dg
  obtain ⟨ev, Hev⟩ : ∃ ev : List Value, Hid (ev = entC e) := ⟨_, rfl⟩
  have hV : entV e = .agg ev.toArray := by rw [Hev.out]; rfl
  rw [hV]
  have hb : Below w.heap.size w (w.alloc (.cells ev.toArray 73)) := (Below.refl _ _).alloc (Nat.le_refl _) _
  have hx : (w.alloc (.cells ev.toArray 73)).heap[w.heap.size]? = some (.cells (entC e).toArray 73 (0, 0)) := by rw [← Hev.out]; exact heap_alloc_new w _
  obtain ⟨_, c33⟩ := ent_box hx hl
  have hf : ((e.refs : Int) == 0) = fitO e := by
    unfold fitO
    by_cases h0 : e.refs = 0
    · simp [h0]
    · simp [h0]
  obtain ⟨C, hC⟩ : ∃ C, e.refs = C := ⟨_, rfl⟩
  obtain ⟨F, hF⟩ : ∃ F, fitO e = F := ⟨_, rfl⟩
  rw [hC] at c33 hf
  rw [hF] at hf ⊢
  have Hb := Lib.hid hb
  clear hx hb hV hC hF
  go_enter Tryz.func80, Tryz.ntmps80
  go_wp2
  go_ret
  exact ⟨by first | rfl | (rw [← hf]) | simp [hf], Hb.out⟩
set_option maxRecDepth 100000 in
theorem slot1_any (e : Ent) (h : EntOk e) (c : Nat) (s : Int) (w : World) (hc : w.cell? ⟨c, 0, none⟩ = some (.int .i64 s)) (hcl : c < w.heap.size) : Calls Tryz.prog 81 #[entV e, .pointer (some ⟨c, 0, none⟩)] w (RetP (.bool (fitS s e)) w) := by
  have hl := h.dg
  obtain ⟨ev, Hev⟩ : ∃ ev : List Value, Hid (ev = entC e) := ⟨_, rfl⟩
  have hV : entV e = .agg ev.toArray := by rw [Hev.out]; rfl
  rw [hV]
  have hb : Below w.heap.size w (w.alloc (.cells ev.toArray 73)) := (Below.refl _ _).alloc (Nat.le_refl _) _
  have hx : (w.alloc (.cells ev.toArray 73)).heap[w.heap.size]? = some (.cells (entC e).toArray 73 (0, 0)) := by rw [← Hev.out]; exact heap_alloc_new w _
  have hc1 : (w.alloc (.cells ev.toArray 73)).cell? ⟨c, 0, none⟩ = some (.int .i64 s) := (hb.cell (p := ⟨c, 0, none⟩) hcl).trans hc
  obtain ⟨c32, c33⟩ := ent_box hx hl
  obtain ⟨S, hS⟩ : ∃ S, e.slot = S := ⟨_, rfl⟩
  obtain ⟨C, hC⟩ : ∃ C, e.refs = C := ⟨_, rfl⟩
  rw [hS] at c32; rw [hC] at c33
  have Hb := Lib.hid hb
  have hfit : fitS s e = (decide (0 < C) && decide ((S : Int) = s)) := by unfold fitS; rw [hC, hS]
  rw [hfit]
  clear hx hb hV hC hS hc hfit
  by_cases h0 : 0 < C
  · have h0' : (0 : Int) < (C : Int) := by omega
    have hd0 : decide (0 < C) = true := decide_eq_true h0
    rw [hd0, Bool.true_and]
    have hbe : ((S : Int) == s) = decide ((S : Int) = s) := rfl
    go_enter Tryz.func81, Tryz.ntmps81
    go_wp2
    go_ret
    exact ⟨by first | rfl | simp [hbe], Hb.out⟩
  · have h0' : ¬ ((0 : Int) < (C : Int)) := by omega
    have hd0 : decide (0 < C) = false := decide_eq_false h0
    rw [hd0, Bool.false_and]
    go_enter Tryz.func81, Tryz.ntmps81
    go_wp2
    go_ret
    exact ⟨rfl, Hb.out⟩
set_option maxRecDepth 100000 in
set_option maxHeartbeats 4000000 in
theorem find1_any (e : Ent) (h : EntOk e) (c : Nat) (d : List UInt8) (hdl : d.length = 32) (w : World) (hc : w.heap[c]? = some (.cells (d.map cu8).toArray 71 (0, 0))) : Calls Tryz.prog 79 #[entV e, .pointer (some ⟨c, 0, none⟩)] w (RetP (.bool (fitF d e)) w) := by
  have hl := h.dg
  obtain ⟨ev, Hev⟩ : ∃ ev : List Value, Hid (ev = entC e) := ⟨_, rfl⟩
  have hV : entV e = .agg ev.toArray := by rw [Hev.out]; rfl
  rw [hV]
  have hb : Below w.heap.size w (w.alloc (.cells ev.toArray 73)) := (Below.refl _ _).alloc (Nat.le_refl _) _
  have hx : (w.alloc (.cells ev.toArray 73)).heap[w.heap.size]? = some (.cells (entC e).toArray 73 (0, 0)) := by rw [← Hev.out]; exact heap_alloc_new w _
  have hc1 := (hb.block c (Array.getElem?_eq_some_iff.1 hc).1).trans hc
  obtain ⟨_, c33⟩ := ent_box hx hl
  obtain ⟨C, hC⟩ : ∃ C, e.refs = C := ⟨_, rfl⟩
  rw [hC] at c33
  obtain ⟨gv, Hgv⟩ : ∃ gv : List Value, Hid (gv = e.dg.map cu8) := ⟨_, rfl⟩
  obtain ⟨dv, Hdv⟩ : ∃ dv : List Value, Hid (dv = d.map cu8) := ⟨_, rfl⟩
  have hl1 := Lib.hid (run_loadAt_mid (P := Tryz.prog) (w.alloc (.cells ev.toArray 73)) w.heap.size 0 71 gv _ (fun j v hj => ent_digest hx j v (by rw [← Hgv.out]; exact hj)) Tryz.underlying71 rfl (by rw [Hgv.out, List.length_map, hl]; exact info32))
  have hl2 := Lib.hid (run_loadAt_mid (P := Tryz.prog) (w.alloc (.cells ev.toArray 73)) c 0 71 dv _ (fun j v hj => by rw [Nat.zero_add, cell_of_row _ c j _ _ _ hc1, ← Hdv.out]; simpa using hj) Tryz.underlying71 rfl (by rw [Hdv.out, List.length_map, hdl]; exact info32))
  have heq : ∀ W : World, (binOp .eql 71 (.agg gv.toArray) (.agg dv.toArray)).run Tryz.prog W = .ok (.bool (decide (e.dg = d))) W := fun W => by rw [Hgv.out, Hdv.out]; exact eqDig e.dg d hl hdl W
  have hfit : fitF d e = (decide (0 < C) && (decide (C < 15) && decide (e.dg = d))) := by unfold fitF; rw [hC]
  rw [hfit]
  obtain ⟨E, hE⟩ : ∃ E, decide (e.dg = d) = E := ⟨_, rfl⟩
  rw [hE] at heq ⊢
  have Hb := Lib.hid hb
  clear hx hb hV hC hc hc1 hfit hE
  by_cases h0 : 0 < C
  · have h0' : (0 : Int) < (C : Int) := by omega
    by_cases h15 : C < 15
    · have h15' : (C : Int) < 15 := by omega
      rw [decide_eq_true h0, decide_eq_true h15, Bool.true_and, Bool.true_and]
      go_enter Tryz.func79, Tryz.ntmps79
      go_wp2_with (first
        | (have _t := hl1; refine wpList_load_dig _ rfl w.heap.size 0 rfl _ hl1.out (by rfl) ?_; clear hl1)
        | (have _t := hl2; refine wpList_load_dig _ rfl c 0 rfl _ hl2.out (by rfl) ?_; clear hl2))
      go_ret
      exact ⟨rfl, Hb.out⟩
    · have h15' : ¬ ((C : Int) < 15) := by omega
      rw [decide_eq_true h0, decide_eq_false h15, Bool.true_and, Bool.false_and]
      go_enter Tryz.func79, Tryz.ntmps79
      go_wp2
      go_ret
      exact ⟨rfl, Hb.out⟩
  · have h0' : ¬ ((0 : Int) < (C : Int)) := by omega
    rw [decide_eq_false h0, Bool.false_and]
    go_enter Tryz.func79, Tryz.ntmps79
    go_wp2
    go_ret
    exact ⟨rfl, Hb.out⟩
end Go.Proofs.YtopjhgpgompenaaGreatDoor
