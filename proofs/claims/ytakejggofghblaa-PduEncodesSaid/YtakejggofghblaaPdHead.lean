/-
  pdu.headerOf: the 48 bytes of a header, in a row of its own.
-/
import Derived.Test.YtakejggofghblaaPdPut
import Derived.StillTailTactics
import Derived.Laws.CopyOwn
import Derived.Deep.MidRow
import Derived.Deep.Cut
import Derived.Deep.DeepCutAuto
import Derived.Deep.CutBlock
import Derived.Laws.Rows
set_option linter.unusedSimpArgs false
set_option linter.unusedVariables false
namespace Go.Proofs.Ytakejggofghblaa
open Go.RowKit Sh Cr Pd

/-- A PDU's cells. -/
def Pd.P.cs (p : P) (av dv : Value) : Array Value := #[.int .i64 p.op, .bool p.imm, .int .u8 (bz p.fl), .int .u8 (bz p.s0), .int .u8 (bz p.s1), av, .int .u64 (p.lun : Int), .int .u32 (p.tag : Int),
  .int .u32 (p.w 0 : Int), .int .u32 (p.w 1 : Int), .int .u32 (p.w 2 : Int), .int .u32 (p.w 3 : Int), .int .u32 (p.w 4 : Int), .int .u32 (p.w 5 : Int), .int .u32 (p.w 6 : Int), dv]
/-- A row of 48 bytes, the first of which are laid. -/
def zr (l : List UInt8) : List UInt8 := l ++ List.replicate (48 - l.length) 0
theorem zr_length {l : List UInt8} (h : l.length ≤ 48) : (zr l).length = 48 := by simp [zr]; omega
theorem zr_full {l : List UInt8} (h : l.length = 48) : zr l = l := by simp [zr, h]
theorem zr_put {l : List UInt8} {o n : Nat} (x : Nat) (ho : l.length = o) (h : o + n ≤ 48) : putL (zr l) o n x = zr (l ++ toBe n x) := by
  subst ho
  unfold putL zr
  rw [List.take_left' rfl, List.drop_append, List.drop_eq_nil_of_le (Nat.le_add_right _ _), List.nil_append, List.drop_replicate, List.length_append, toBe_length, show 48 - l.length - (l.length + n - l.length) = 48 - (l.length + n) by omega]
theorem zr_set {l : List UInt8} {o : Nat} (c : UInt8) (ho : l.length = o) (h : o < 48) : (zr l).set o c = zr (l ++ [c]) := by
  subst ho
  unfold zr
  have e : 48 - l.length = (48 - (l ++ [c]).length) + 1 := by simp; omega
  rw [List.set_append_right _ _ (Nat.le_refl _), Nat.sub_self, e, List.replicate_succ, List.set_cons_zero, List.append_assoc]
  rfl
theorem zr_again (c d : UInt8) : (zr [c]).set 0 d = zr [d] := rfl
theorem zr_splice {l : List UInt8} {o : Nat} (a b : UInt8) (ho : l.length = o) (h : o + 2 ≤ 48) : splice ((zr l).map cu8) o [cu8 a, cu8 b] = (zr (l ++ [a, b])).map cu8 := by
  subst ho
  unfold zr splice
  rw [List.map_append, List.take_left' (by simp), List.drop_append, List.drop_eq_nil_of_le (by simp), List.nil_append, List.map_append, List.map_append]
  simp
  omega
/-- What holds while a header is made. -/
structure HdI (w : World) (p : P) (av dv : Value) (l : List UInt8) (W : World) : Prop where
  hx : W.heap[w.heap.size]? = some (.cells (p.cs av dv) 28 (0, 0))
  hr : W.heap[w.heap.size + 1]? = some (.cells (l.map cu8).toArray 5 (0, 0))
  hb : Below w.heap.size w W
section
variable {w W : World} {p : P} {av dv : Value} {l : List UInt8}
theorem HdI.set (h : HdI w p av dv l W) (i : Nat) (c : UInt8) : HdI w p av dv (l.set i c) (W.setCell ⟨w.heap.size + 1, i, none⟩ (.int .u8 (bz c))) :=
  ⟨((grown_set W (w.heap.size + 1) i _).block _ (Array.getElem?_eq_some_iff.1 h.hx).1 (by simp)).trans h.hx, row_set h.hr c, h.hb.setCell (p := ⟨w.heap.size + 1, i, none⟩) (by simp) _⟩
theorem HdI.turned {W' : World} {l' : List UInt8} (h : HdI w p av dv l W) (hg : W.grownBy W' (some (w.heap.size + 1))) (hr : W'.heap[w.heap.size + 1]? = some (.cells (l'.map cu8).toArray 5 (0, 0))) : HdI w p av dv l' W' :=
  ⟨(hg.block _ (Array.getElem?_eq_some_iff.1 h.hx).1 (by simp)).trans h.hx, hr, h.hb.grown hg h.hb.size (fun k e => by cases e; omega)⟩
theorem HdI.drew (h : HdI w p av dv l W) : HdI w p av dv l W.drew := ⟨h.hx, h.hr, h.hb.drew⟩
theorem HdI.cell (h : HdI w p av dv l W) (i : Nat) (v : Value) (hv : (p.cs av dv)[i]? = some v) : W.cell? ⟨w.heap.size, i, none⟩ = some v := by
  unfold World.cell?
  simp [h.hx, hv]
theorem HdI.push {o : Nat} {l : List UInt8} (h : HdI w p av dv (zr l) W) (ho : l.length = o) (h8 : o < 48) (c : UInt8) : HdI w p av dv (zr (l ++ [c])) (W.setCell ⟨w.heap.size + 1, o, none⟩ (.int .u8 (bz c))) := by
  have := h.set o c
  rw [zr_set c ho h8] at this; exact this
theorem HdI.put {o n x : Nat} {l : List UInt8} {e : Ending} {W' : World} (h : HdI w p av dv (zr l) W) (ho : l.length = o) (h8 : o + n ≤ 48) (hp : PutP W (w.heap.size + 1) 5 (putL (zr l) o n x) e W') : HdI w p av dv (zr (l ++ toBe n x)) W' := by
  obtain ⟨_, h1, h2⟩ := hp
  rw [zr_put x ho h8] at h2
  exact h.turned h1 h2
theorem HdI.room {l : List UInt8} (h : HdI w p av dv (zr l) W) (hl : l.length < 48) (i : Nat) (hi : i < 48) : ∃ v, W.cell? ⟨w.heap.size + 1, i, none⟩ = some (.int .u8 (bz v)) :=
  ⟨_, row_cell h.hr (by rw [zr_length (by omega)]; exact hi)⟩
theorem HdI.free {l : List UInt8} (h : HdI w p av dv l W) (i : Nat) : W.frozen? ⟨w.heap.size + 1, i, none⟩ = false := row_free h.hr
end
theorem made48 (w : World) : (Instr.makeSlice 23 (.int .i64 48) (.int .i64 48)).run Try.prog w = .ok (.slice (some ⟨w.heap.size, 0, none⟩) 48 48) (w.alloc (.cells ((zr []).map cu8).toArray 5)) := by kernel_rfl
theorem or64 (q : Nat) (hq : q ≤ 63) : bits .or .u8 (bz (UInt8.ofNat q)) 64 = bz (UInt8.ofNat (q + 64)) := by
  have h : ∀ n : Fin 64, bits .or .u8 (bz (UInt8.ofNat n.1)) 64 = bz (UInt8.ofNat (n.1 + 64)) := by decide
  exact h ⟨q, by omega⟩
theorem byte_of (n : Nat) (h : n < 256) : IntKind.u8.wrap (n : Int) = bz (UInt8.ofNat n) := by
  rw [IntKind.wrap_u8', bz_eq, UInt8.toNat_ofNat']; omega
theorem lt_of_get {α : Type} {l : List α} {j : Nat} {v : α} (h : l[j]? = some v) : j < l.length := by
  rcases Nat.lt_or_ge j l.length with h1 | h1
  · exact h1
  · rw [List.getElem?_eq_none h1] at h; cases h
theorem wpList_val {P : Program} {ops : Array Oper} {Q : Exit → Act → World → Prop} {a : Act} {w : World} {o : Oper} {rest : List Oper} (hw : Region.wanted o (yielded ops a.tmps) = true) {v : Value} (hrun : (execOp a.eval o).run P w = .ok (.value v) w)
    (h : wpList P ops Q rest (a.put o.dst v) w) : wpList P ops Q (o :: rest) a w := by
  unfold wpList
  rw [if_pos hw]
  left
  unfold Oper.wp
  rw [hrun]
  exact h
set_option maxHeartbeats 800000 in
theorem wordOf_any (g o len cap k : Nat) (hk : k ≤ 6) (hc : 48 ≤ cap) (w : World) :
    Calls Try.prog 37 #[.slice (some ⟨g, o, none⟩) len cap, .int .i64 (k : Int)] w fun e w' => e = .returned (.slice (some ⟨g, o + (20 + 4 * k), none⟩) 4 (cap - (20 + 4 * k))) ∧ w = w' := by
  have s1 := run_slice_mid (P := Try.prog) 23 5 Try.underlying23 (by kernel_rfl) (some ⟨g, o, none⟩) len cap (20 + 4 * k) (20 + 4 * k + 4) (by omega) (by omega)
  have hcut : cutAt (some ⟨g, o, none⟩) cap (20 + 4 * k) = some ⟨g, o + (20 + 4 * k), none⟩ := by
    unfold cutAt
    rw [if_neg (by omega), Option.map_some]
    unfold Addr.add; split <;> simp_all
  rw [hcut, show 20 + 4 * k + 4 - (20 + 4 * k) = 4 by omega] at s1
  have e1 : ((20 + 4 * k : Nat) : Int) = 20 + 4 * (k : Int) := by omega
  have e2 : ((20 + 4 * k + 4 : Nat) : Int) = 20 + 4 * (k : Int) + 4 := by omega
  rw [e1, e2] at s1
  clear e1 e2 hcut
  go_enter Try.func37, Try.ntmps37
  go_wp2
  go_ret
  exact ⟨rfl, rfl⟩
theorem wordOf_at (g o len cap k q c : Nat) (hk : k ≤ 6) (hc : 48 ≤ cap) (hq : o + (20 + 4 * k) = q) (hc2 : cap - (20 + 4 * k) = c) (w : World) :
    Calls Try.prog 37 #[.slice (some ⟨g, o, none⟩) len cap, .int .i64 (k : Int)] w fun e w' => e = .returned (.slice (some ⟨g, q, none⟩) 4 c) ∧ w = w' := by
  subst hq hc2; exact wordOf_any g o len cap k hk hc w
def wsL (p : P) (k : Nat) : List UInt8 := (List.range k).flatMap fun i => toBe 4 (p.w i)
theorem wsL_succ (p : P) (k : Nat) : wsL p (k + 1) = wsL p k ++ toBe 4 (p.w k) := by simp [wsL, List.range_succ]
theorem wsL_length (p : P) (k : Nat) : (wsL p k).length = 4 * k := by
  induction k with
  | zero => rfl
  | succ k ih => rw [wsL_succ, List.length_append, ih, toBe_length]; omega
def pre20 (p : P) : List UInt8 := [UInt8.ofNat (p.op.toNat + if p.imm then 64 else 0), p.fl, p.s0, p.s1, UInt8.ofNat (p.ahs.length / 4)] ++ toBe 3 p.data.length ++ toBe 8 p.lun ++ toBe 4 p.tag
theorem pre20_length (p : P) : (pre20 p).length = 20 := by simp [pre20, toBe_length]
theorem hdr_parts (p : P) : hdr p = pre20 p ++ wsL p 7 := by
  have e : wsL p 7 = toBe 4 (p.w 0) ++ toBe 4 (p.w 1) ++ toBe 4 (p.w 2) ++ toBe 4 (p.w 3) ++ toBe 4 (p.w 4) ++ toBe 4 (p.w 5) ++ toBe 4 (p.w 6) := by
    simp only [wsL_succ]; rfl
  rw [e]; rfl
theorem wordsAt (p : P) (k : Nat) (hk : k < 7) (w : World) : (Instr.index 26 (.agg #[.int .u32 (p.w 0 : Int), .int .u32 (p.w 1 : Int), .int .u32 (p.w 2 : Int), .int .u32 (p.w 3 : Int), .int .u32 (p.w 4 : Int), .int .u32 (p.w 5 : Int), .int .u32 (p.w 6 : Int)]) (.int .i64 (k : Int))).run Try.prog w = .ok (.int .u32 (p.w k : Int)) w :=
  run_index_row (P := Try.prog) 26 25 7 Try.underlying26 Try.underlying25 (by kernel_rfl) _ k hk _ (by rcases (by omega : k = 0 ∨ k = 1 ∨ k = 2 ∨ k = 3 ∨ k = 4 ∨ k = 5 ∨ k = 6) with rfl | rfl | rfl | rfl | rfl | rfl | rfl <;> rfl) w
theorem HdI.words {w W : World} {p : P} {av dv : Value} {l : List UInt8} (h : HdI w p av dv l W) : (Instr.loadAt 26 (.pointer (some ⟨w.heap.size, 8, none⟩))).run Try.prog W = .ok (.agg #[.int .u32 (p.w 0 : Int), .int .u32 (p.w 1 : Int), .int .u32 (p.w 2 : Int), .int .u32 (p.w 3 : Int), .int .u32 (p.w 4 : Int), .int .u32 (p.w 5 : Int), .int .u32 (p.w 6 : Int)]) W :=
  run_loadAt_mid W w.heap.size 8 26 [.int .u32 (p.w 0 : Int), .int .u32 (p.w 1 : Int), .int .u32 (p.w 2 : Int), .int .u32 (p.w 3 : Int), .int .u32 (p.w 4 : Int), .int .u32 (p.w 5 : Int), .int .u32 (p.w 6 : Int)] _ (fun j v hv => by
    have hj : j < 7 := lt_of_get hv
    have h7 : j = 0 ∨ j = 1 ∨ j = 2 ∨ j = 3 ∨ j = 4 ∨ j = 5 ∨ j = 6 := by omega
    rcases h7 with rfl | rfl | rfl | rfl | rfl | rfl | rfl <;> (injection hv with hv; subst hv; exact h.cell _ _ rfl)) Try.underlying26 rfl (by kernel_rfl)
def HeadP (w : World) (l : List UInt8) (e : Ending) (w' : World) : Prop := e = .returned (.slice (some ⟨w.heap.size + 1, 0, none⟩) 48 48) ∧ w'.heap[w.heap.size + 1]? = some (.cells (l.map cu8).toArray 5 (0, 0)) ∧ Below w.heap.size w w'
set_option maxRecDepth 100000 in
set_option maxHeartbeats 4000000 in
theorem head_any (p : P) (q : Nat) (hop : p.op = (q : Int)) (hq : q ≤ 63) (hk : p.Ok) (ap dp : Option Addr) (ac dc : Nat) (ha : p.ahs.length ≤ 32) (hd : p.data.length ≤ 256) (w : World) :
    Calls Try.prog 23 #[.agg (p.cs (.slice ap p.ahs.length ac) (.slice dp p.data.length dc))] w (HeadP w (hdr p)) := by
  have hI : HdI w p (.slice ap p.ahs.length ac) (.slice dp p.data.length dc) (zr []) ((w.alloc (.cells (p.cs (.slice ap p.ahs.length ac) (.slice dp p.data.length dc)) 28)).alloc (.cells ((zr []).map cu8).toArray 5)) := by
    refine ⟨?_, ?_, ((Below.refl _ w).alloc (Nat.le_refl _) _).alloc (by simp) _⟩
    · rw [Below.heap_alloc _ _ _ (by simp)]; exact heap_alloc_new w _
    · have := heap_alloc_new (w.alloc (.cells (p.cs (.slice ap p.ahs.length ac) (.slice dp p.data.length dc)) 28)) (.cells ((zr []).map cu8).toArray 5)
      rw [World.size_alloc] at this; exact this
  have HI := Lib.hid hI; clear hI
  have hmk := made48
  obtain ⟨AL, hAL⟩ : ∃ AL, Hid (p.ahs.length = AL) := ⟨_, Lib.hid rfl⟩
  obtain ⟨DL, hDL⟩ : ∃ DL, Hid (p.data.length = DL) := ⟨_, Lib.hid rfl⟩
  have hb := byte_of q (by omega)
  rw [hAL.out, hDL.out] at HI ⊢
  rw [hAL.out] at ha
  rw [hDL.out] at hd
  have HMK := Lib.hid hmk
  obtain ⟨z48, hz48⟩ : ∃ z48, Hid (((zr []).map cu8).toArray = z48) := ⟨_, Lib.hid rfl⟩
  rw [hz48.out] at hmk HI
  unfold P.cs at HI ⊢
  rw [hop] at HI ⊢
  go_enter Try.func23, Try.ntmps23
  go_upto_region 2 with (fail)
  generalize (w.alloc (.cells #[.int .i64 (q : Int), .bool p.imm, .int .u8 (bz p.fl), .int .u8 (bz p.s0), .int .u8 (bz p.s1), .slice ap AL ac, .int .u64 (p.lun : Int), .int .u32 (p.tag : Int),
  .int .u32 (p.w 0 : Int), .int .u32 (p.w 1 : Int), .int .u32 (p.w 2 : Int), .int .u32 (p.w 3 : Int), .int .u32 (p.w 4 : Int), .int .u32 (p.w 5 : Int), .int .u32 (p.w 6 : Int), .slice dp DL dc] 28)).alloc (.cells z48 5) = W1 at HI ⊢
  clear hmk
  have HOP := Lib.hid hop; clear hop
  have q0 : (0 : Int) ≤ q := by omega
  have q1 : (q : Int) ≤ 63 := by omega
  obtain ⟨b0, hb0⟩ : ∃ b0, Hid (UInt8.ofNat (q + if p.imm then 64 else 0) = b0) := ⟨_, Lib.hid rfl⟩
  have c0 := HI.out.cell 0 (.int .i64 (q : Int)) (by rw [← HOP.out]; rfl)
  have c1 := HI.out.cell 1 _ rfl
  obtain ⟨v0, r0⟩ := HI.out.room (by simp) 0 (by omega)
  have f0 := HI.out.free 0
  go_upto_region 3 with (fail)
  have HI2 := Lib.hid (HI.out.push rfl (by simp) (UInt8.ofNat q))
  clear c0 r0 f0 HI
  simp only [List.length_nil, List.nil_append] at HI2
  generalize W1.setCell ⟨w.heap.size + 1, 0, none⟩ (.int .u8 (bz (UInt8.ofNat q))) = W2 at HI2 ⊢
  have c1 := HI2.out.cell 1 (.bool p.imm) rfl
  have HB0 : Hid (p.imm = false → b0 = UInt8.ofNat q) := Lib.hid (fun h => by rw [← hb0.out, h]; rfl)
  have HB1 : Hid (p.imm = true → b0 = UInt8.ofNat (q + 64)) := Lib.hid (fun h => by rw [← hb0.out, h]; rfl)
  have h01 : IntKind.u8.wrap ((AL : Int) / 4) = bz (UInt8.ofNat (AL / 4)) := by
    rw [show (AL : Int) / 4 = ((AL / 4 : Nat) : Int) by omega]; exact byte_of _ (by omega)
  have h02 : IntKind.u64.wrap (DL : Int) = (DL : Int) := by rw [IntKind.wrap_u64]; omega
  have h03 : IntKind.u64.wrap (p.tag : Int) = (p.tag : Int) := by have := hk.ht; rw [IntKind.wrap_u64]; omega
  have h04 : (0 : Int) ≤ (AL : Int) := by omega
  have H01 := Lib.hid h01
  have H02 := Lib.hid h02
  have H03 := Lib.hid h03
  clear h01 h02 h03
  rcases hbi : p.imm with _ | _
  case' false =>
    rw [hbi] at c1
    obtain rfl := HB0.out hbi
    obtain ⟨b1, hb1⟩ : ∃ b1, UInt8.ofNat q = b1 := ⟨_, rfl⟩
    rw [hb1] at HI2
    have HI3 := HI2
    go_upto_region 5 with (fail)
    have HBB : Hid (b1 = UInt8.ofNat (q + if p.imm then 64 else 0)) := Lib.hid (by rw [hbi, ← hb1]; rfl)
    clear hb1 hb0 HB0 HB1 HI2 c1
    generalize W2 = W3 at HI3 ⊢
  case' true =>
    rw [hbi] at c1
    have r0 : W2.cell? ⟨w.heap.size + 1, 0, none⟩ = some (.int .u8 (bz (UInt8.ofNat q))) := row_cell HI2.out.hr (i := 0) (by simp [zr])
    have f0 := HI2.out.free 0
    obtain ⟨b1, hb1⟩ : ∃ b1, Hid (UInt8.ofNat (q + 64) = b1) := ⟨_, Lib.hid rfl⟩
    have ho := or64 q hq
    rw [hb1.out] at ho
    have HBB : Hid (b1 = UInt8.ofNat (q + if p.imm then 64 else 0)) := Lib.hid (by rw [hbi, ← hb1.out]; rfl)
    have HI3 := Lib.hid (HI2.out.set 0 (UInt8.ofNat (q + 64)))
    rw [zr_again, hb1.out] at HI3
    clear hb1
    go_upto_region 5 with (fail)
    clear r0 f0 ho c1 hb0 HB0 HB1
    generalize W2.setCell ⟨w.heap.size + 1, 0, none⟩ (.int .u8 (bz b1)) = W3 at HI3 ⊢
    clear HI2
  all_goals
    have cc := HI3.out.cell 2 (.int .u8 (bz p.fl)) rfl
    obtain ⟨v1, r1⟩ := HI3.out.room (by simp) 1 (by omega)
    have f1 := HI3.out.free 1
    go_upto_region 6 with (fail)
    have HI4 := Lib.hid (HI3.out.push rfl (by simp) p.fl)
    clear cc r1 f1 HI3
    simp only [List.cons_append, List.nil_append] at HI4
    generalize W3.setCell ⟨w.heap.size + 1, 1, none⟩ _ = W4 at HI4 ⊢
    go_still_tail 4, (by kernel_rfl)
    change wpList _ _ _ _ _ W4.drew
    have HI5 := Lib.hid HI4.out.drew
    clear HI4
    generalize W4.drew = W5 at HI5 ⊢
    have c3 := HI5.out.cell 3 (.int .u8 (bz p.s0)) rfl
    have c4 := HI5.out.cell 4 (.int .u8 (bz p.s1)) rfl
    refine wpList_copy_splice rfl (.tmp 24) (.tmp 26) 23 23 rfl 5 Try.underlying23 (by kernel_rfl) (some ⟨w.heap.size + 1, 2, none⟩) (some ⟨w.heap.size, 3, none⟩) 2 46 2 2 rfl rfl
      (w.heap.size + 1) 2 _ _ HI5.out.hr [cu8 p.s0, cu8 p.s1] rfl (fun _ => ⟨rfl, _, rfl, fun j v hv => ?_⟩) (by rw [List.length_map, zr_length (by simp)]; simp) (fun v hv => ?_) (w.heap.size + 1) W5 (Below.refl _ _) (Nat.le_refl _) ?_
    · have h1 : j < 2 := lt_of_get hv
      obtain rfl | rfl : j = 0 ∨ j = 1 := by omega
      · injection hv with hv; subst hv; exact c3
      · injection hv with hv; subst hv; exact c4
    · rcases List.mem_cons.1 hv with rfl | hv
      · rfl
      · rcases List.mem_cons.1 hv with rfl | hv
        · rfl
        · cases hv
    intro W6 hW6 hb6
    rw [zr_splice (l := [b1, p.fl]) (o := 2) p.s0 p.s1 rfl (by simp)] at hW6
    have HI6 : Hid (HdI w p (.slice ap AL ac) (.slice dp DL dc) (zr ([b1, p.fl] ++ [p.s0, p.s1])) W6) := Lib.hid ⟨(hb6.block _ (by omega)).trans HI5.out.hx, hW6.out, HI5.out.hb.trans (hb6.mono (by omega))⟩
    clear c3 c4 hW6 hb6 HI5
    have cc := HI6.out.cell 5 (.slice ap AL ac) rfl
    have h01 := H01.out
    obtain ⟨v1, r1⟩ := HI6.out.room (by simp) 4 (by omega)
    have f1 := HI6.out.free 4
    go_upto_region 8 with (fail)
    have HI7 := Lib.hid (HI6.out.push rfl (by simp) (UInt8.ofNat (AL / 4)))
    clear cc r1 f1 HI6 h01
    simp only [List.cons_append, List.nil_append] at HI7
    generalize W6.setCell ⟨w.heap.size + 1, 4, none⟩ _ = W7 at HI7 ⊢
    have h02 := H02.out
    have cc := HI7.out.cell 15 (.slice dp DL dc) rfl
    go_still_tail 6, (by kernel_rfl)
    change wpList _ _ _ _ _ W7.drew
    have HI7d := Lib.hid HI7.out.drew
    clear cc HI7
    generalize W7.drew = W7d at HI7d ⊢
    go_upto_region 9 with (go_at_call 36; refine (put_any (w.heap.size + 1) 5 3 43 (DL) (by omega) (by omega) (zr _) 5 W7d HI7d.out.hr (by rw [zr_length (by simp [toBe_length])]; omega)).mono ?_; intro e W8 hP; obtain rfl := hP.1; have HI8 := Lib.hid (HI7d.out.put (by simp [toBe_length]) (by omega) hP); clear hP HI7d)
    clear h02
    have cc := HI8.out.cell 6 (.int .u64 (p.lun : Int)) rfl
    go_still_tail 4, (by kernel_rfl)
    change wpList _ _ _ _ _ W8.drew
    have HI8d := Lib.hid HI8.out.drew
    clear cc HI8
    generalize W8.drew = W8d at HI8d ⊢
    go_upto_region 10 with (go_at_call 36; refine (put_any (w.heap.size + 1) 8 8 40 (p.lun) (by omega) (hk.hl) (zr _) 5 W8d HI8d.out.hr (by rw [zr_length (by simp [toBe_length])]; omega)).mono ?_; intro e W9 hP; obtain rfl := hP.1; have HI9 := Lib.hid (HI8d.out.put (by simp [toBe_length]) (by omega) hP); clear hP HI8d)
    have h03 := H03.out
    have cc := HI9.out.cell 7 (.int .u32 (p.tag : Int)) rfl
    go_still_tail 5, (by kernel_rfl)
    change wpList _ _ _ _ _ W9.drew
    have HI9d := Lib.hid HI9.out.drew
    clear cc HI9
    generalize W9.drew = W9d at HI9d ⊢
    go_upto_region 11 with (go_at_call 36; refine (put_any (w.heap.size + 1) 16 4 32 (p.tag) (by omega) (by have := hk.ht; omega) (zr _) 5 W9d HI9d.out.hr (by rw [zr_length (by simp [toBe_length])]; omega)).mono ?_; intro e Wa hP; obtain rfl := hP.1; have HIa := Lib.hid (HI9d.out.put (by simp [toBe_length]) (by omega) hP); clear hP HI9d)
    clear h03
    have HPL : Hid (zr ([b1, p.fl, p.s0, p.s1, UInt8.ofNat (AL / 4)] ++ toBe 3 DL ++ toBe 8 p.lun ++ toBe 4 p.tag) = zr (pre20 p ++ wsL p 0)) := Lib.hid (by
      rw [pre20, HOP.out, hAL.out, hDL.out, HBB.out]
      simp [wsL])
    have hIa := HIa.out
    rw [HPL.out] at hIa
    clear HIa HPL HBB hAL hDL HOP
    have hld := hIa.words
    go_upto_region 12 with (refine wpList_val (by rfl) (exec_load _ _ 26 _ rfl w.heap.size 8 rfl _ hld) ?_)
    clear hld
    go_loopg [55] 7 (fun gg i wr => ∃ k : Nat, k ≤ 7 ∧ gg = 7 - k ∧ i = .int .i64 k ∧ Hid (HdI w p (.slice ap AL ac) (.slice dp DL dc) (zr (pre20 p ++ wsL p k)) wr))
    case atStart => exact ⟨0, by omega, rfl, rfl, Lib.hid hIa⟩
    case round =>
      clear hIa
      obtain ⟨k, hk7, rfl, rfl, HIb⟩ := hrel
      by_cases hlt : k < 7
      · have hlt' : (k : Int) < 7 := by omega
        obtain ⟨qo, hqo⟩ : ∃ qo, Hid (20 + 4 * k = qo) := ⟨_, Lib.hid rfl⟩
        obtain ⟨co, hco⟩ : ∃ co, Hid (48 - (20 + 4 * k) = co) := ⟨_, Lib.hid rfl⟩
        have hwk := hk.hw k
        have hcv : IntKind.u64.wrap (p.w k : Int) = (p.w k : Int) := by rw [IntKind.wrap_u64]; omega
        have HLEN := Lib.hid (show (pre20 p ++ wsL p k).length = 20 + 4 * k by rw [List.length_append, pre20_length, wsL_length])
        have HS := Lib.hid (wsL_succ p k)
        obtain ⟨x, hx, hix⟩ : ∃ x : Nat, Hid (p.w k = x) ∧ ∀ w : World, (Instr.index 26 (.agg #[.int .u32 (p.w 0 : Int), .int .u32 (p.w 1 : Int), .int .u32 (p.w 2 : Int), .int .u32 (p.w 3 : Int), .int .u32 (p.w 4 : Int), .int .u32 (p.w 5 : Int), .int .u32 (p.w 6 : Int)]) (.int .i64 (k : Int))).run Try.prog w = .ok (.int .u32 (x : Int)) w := ⟨_, Lib.hid rfl, wordsAt p k hlt⟩
        rw [hx.out] at hwk hcv
        go_wp2_with (first
          | (go_at_call 37; refine (wordOf_at (w.heap.size + 1) 0 48 48 k qo co (by omega) (by omega) (by rw [Nat.zero_add]; exact hqo.out) hco.out _).mono ?_; rintro e w' ⟨rfl, rfl⟩)
          | (go_at_call 36; refine (put_any (w.heap.size + 1) qo 4 co x (by omega) (by omega) (zr (pre20 p ++ wsL p k)) 5 _ HIb.out.hr (by rw [zr_length (by rw [HLEN.out]; omega)]; have := hqo.out; omega)).mono ?_; intro e Wn hP; obtain rfl := hP.1; have HIn := Lib.hid (HIb.out.put (by rw [HLEN.out]; exact hqo.out) (by have := hqo.out; omega) hP); clear hP))
        go_roundg (7 - (k + 1))
        case measure => omega
        case rel => exact ⟨k + 1, by omega, rfl, by go_num, Lib.hid (by rw [HS.out, ← List.append_assoc, hx.out]; exact HIn.out)⟩
      · obtain rfl : k = 7 := by omega
        go_wp2
        go_ret
        refine ⟨rfl, ?_, HIb.out.hb⟩
        rw [HIb.out.hr, ← hdr_parts, zr_full (hdr_length p)]
end Go.Proofs.Ytakejggofghblaa
