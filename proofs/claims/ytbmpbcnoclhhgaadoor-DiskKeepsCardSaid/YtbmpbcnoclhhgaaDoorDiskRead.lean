/-
  The reference's disk: Read.
-/
import Derived.Test.YtbmpbcnoclhhgaaDoorDiskRef
import Derived.Test.YtbmpbcnoclhhgaaDoorShaRows
import Derived.Laws.ResultCell
import Derived.Deep.AppendLies
import Derived.Laws.Rows
import Derived.Laws.Tables
import Derived.Laws.CopyOwn
namespace Go.Proofs.YtbmpbcnoclhhgaaDoor
open Go.RowKit Sh

/-- The last pending write to sector i. -/
def seen : List Int → List (List Value) → Int → Option (List Value)
  | a :: xs, p :: ys, i => match seen xs ys i with
    | some q => some q
    | none => if a = i then some p else none
  | _, _, _ => none
theorem seen_drop : ∀ (k : Nat) (xs : List Int) (ys : List (List Value)) (i : Int) (q : List Value), seen (xs.drop k) (ys.drop k) i = some q → seen xs ys i = some q
  | 0, _, _, _, _, h => h
  | k + 1, [], ys, i, q, h => by simp [seen] at h
  | k + 1, a :: xs, [], i, q, h => by
    simp only [List.drop_succ_cons, List.drop_nil] at h
    cases hd : xs.drop k <;> simp [hd, seen] at h
  | k + 1, a :: xs, p :: ys, i, q, h => by
    have := seen_drop k xs ys i q (by simpa using h)
    simp [seen, this]
theorem seen_cons {xs : List Int} {ys : List (List Value)} {i : Int} (k : Nat) (a : Int) (p : List Value) (ha : xs[k]? = some a) (hp : ys[k]? = some p) (h : seen (xs.drop (k + 1)) (ys.drop (k + 1)) i = none) :
    seen (xs.drop k) (ys.drop k) i = if a = i then some p else none := by
  have e1 : xs.drop k = a :: xs.drop (k + 1) := by
    obtain ⟨hk, rfl⟩ := List.getElem?_eq_some_iff.1 ha
    exact List.drop_eq_getElem_cons hk
  have e2 : ys.drop k = p :: ys.drop (k + 1) := by
    obtain ⟨hk, rfl⟩ := List.getElem?_eq_some_iff.1 hp
    exact List.drop_eq_getElem_cons hk
  rw [e1, e2]
  simp [seen, h]

def zeroPage : List Value := List.replicate 64 (.int .u8 0)
def zeros64 : Array Value := zeroPage.toArray
theorem zeroPage_ok : IsPage zeroPage := ⟨List.length_replicate, fun v hv => by rw [(List.mem_replicate.1 hv).2]; rfl⟩

/-- What Read answers. -/
def readS (firm : List (List Value)) (ats : List Int) (what : List (List Value)) (off : Bool) (i : Int) : List Value × Int :=
  if off = true then (zeroPage, 10) else if i < 0 ∨ (firm.length : Int) ≤ i then (zeroPage, 1) else
    match seen ats what i with
    | some p => (p, 0)
    | none => (firm.getD i.toNat zeroPage, 0)

theorem results_cell_row_tmp {P : Program} {fn : Func} {p u : Tmp} {ty : TypeId} (h : fn.results = #[.cell p ty, .tmp u]) (tmps : Array Value) (w : World) (g : Nat) (t : TypeId) (cs : Array Value) (fr : Nat × Nat) (d : TypeDesc)
    (hp : tmps.getD p undef = .pointer (some ⟨g, 0, none⟩)) (hg : w.heap[g]? = some (.cells cs t fr))
    (hu : P.underlying ty = some d) (hd : (match d with | .struct _ | .array _ _ => true | _ => false) = true) (hi : (P.info? ty).map (·.size) = some cs.size) (x : Value) (hx : tmps.getD u undef = x) :
    (results fn tmps).run P w = .ok (.tuple #[.agg cs, x]) w := by
  have hp' : tmps[p]?.getD undef = .pointer (some ⟨g, 0, none⟩) := by simpa using hp
  have hx' : tmps[u]?.getD undef = x := by simpa using hx
  simp [results, h, hp', hx', asAddr, run_loadVar_row w g t ty cs fr d hg hu hd hi]

theorem wpList_alloc_arr {P : Program} {ops : Array Oper} {rest : List Oper} {o : Oper} {a : Act} {w : World} {Q : Exit → Act → World → Prop} (hgd : o.guard = none) (ty : TypeId) (ho : o.op = .alloc ty) (cells : Array Value)
    (hal : ∀ w : World, (Instr.alloc ty true (.tuple #[])).run P w = .ok (.pointer (some ⟨w.heap.size, 0, none⟩)) (w.alloc (.cells cells ty)))
    (h : wpList P ops Q rest (a.put o.dst (.pointer (some ⟨w.heap.size, 0, none⟩))) (w.alloc (.cells cells ty))) : wpList P ops Q (o :: rest) a w :=
  wpList_plain hgd fun K hK => by
    unfold Oper.wp execOp
    simp only [ho, Sem.run_bind, hal w, Result.andThen_ok, Sem.run_pure]
    exact hK _ _ h
theorem wpList_build_to {P : Program} {ops : Array Oper} {rest : List Oper} {o : Oper} {a : Act} {w : World} {Q : Exit → Act → World → Prop} (hg : o.guard = none) (t : TypeId) (parts : Array (Nat × Operand)) (ho : o.op = .build t parts)
    (v : Array Value) (hf : P.built t (parts.map fun (i, x) => (i, a.eval x)).toList = some v) (h : wpList P ops Q rest (a.put o.dst (.agg v)) w) : wpList P ops Q (o :: rest) a w :=
  wpList_build hg t parts ho (by rw [hf]; rfl) (by rw [hf]; exact h)
set_option maxRecDepth 100000 in
theorem alloc64 (w : World) : (Instr.alloc 42 true (.tuple #[])).run Tryd.prog w = .ok (.pointer (some ⟨w.heap.size, 0, none⟩)) (w.alloc (.cells zeros64 42)) := by kernel_rfl
theorem info64 : (Tryd.prog.info? 42).map (·.size) = some 64 := by kernel_rfl
theorem page_size {p : List Value} (h : IsPage p) : Hid ((Tryd.prog.info? 42).map (·.size) = some p.toArray.size) := by
  have e : p.toArray.size = 64 := by rw [List.size_toArray]; exact h.1
  rw [e]; exact info64
theorem page_all {p : List Value} (h : IsPage p) : Hid (p.toArray.all (·.oneCell') = true) := all_oneCell_toArray h.2
theorem built64 : Tryd.prog.built 42 [] = some zeros64 := by kernel_rfl

def ReadPost (p : List Value) (e : Int) (w : World) (en : Ending) (w' : World) : Prop := en = .returned (.tuple #[.agg p.toArray, .int .i64 e]) ∧ Below w.heap.size w w'

section
variable {g : Nat} {vf va vw : Value} {firm what : List (List Value)} {ats : List Int} {fuel : Int} {off : Bool} {w : World}
theorem RefAt.below (h : RefAt g vf va vw firm ats what fuel off w) {w' : World} (hb : Below w.heap.size w w') : RefAt g vf va vw firm ats what fuel off w' := by
  have hg : w.grownBy w' none := ⟨hb.os, hb.tape, hb.output, hb.size, fun j hj _ => hb.block j hj⟩
  have ho : ∀ v : Value, v.ownBlock = none ∨ v.ownBlock ≠ none := fun v => by cases v.ownBlock <;> simp
  exact ⟨(hb.block g h.lt).trans h.at_, h.rowF.kept hg (ho _), h.rowA.kept hg (ho _), h.rowW.kept hg (ho _), h.firmOk, h.whatOk, h.apart⟩

set_option maxRecDepth 100000 in
set_option maxHeartbeats 4000000 in
theorem rread_any (h : RefAt g vf va vw firm ats what fuel off w) (hsame : what.length = ats.length) (hn : ats.length ≤ 140737488355328) (i : Int) :
    Calls Tryd.prog 18 #[.pointer (some ⟨g, 0, none⟩), .int .i64 i] w (ReadPost (readS firm ats what off i).1 (readS firm ats what off i).2 w) := by
  have hb1 := (Below.refl w.heap.size w).alloc (Nat.le_refl _) (.cells zeros64 42)
  have hnew : (w.alloc (.cells zeros64 42)).heap[w.heap.size]? = some (.cells zeros64 42 (0, 0)) := heap_alloc_new w _
  have c4 : w.cell? ⟨g, 4, none⟩ = some (.bool off) := h.cell 4
  cases off with
  | true =>
    obtain ⟨zv, Hz⟩ : ∃ zv : Array Value, Hid (zv = zeros64) := ⟨_, rfl⟩
    have hz1 : Hid ((Tryd.prog.info? 42).map (·.size) = some zv.size) := by rw [Hz.out]; exact page_size zeroPage_ok
    have hz2 : Hid (zv.all (·.oneCell') = true) := by rw [Hz.out]; exact page_all zeroPage_ok
    have hz3 : Hid (zeros64.size = zv.size) := by rw [Hz.out]; exact (rfl : zeros64.size = zeros64.size)
    show Calls _ _ _ _ (ReadPost zeroPage 10 w)
    have c4' := (hb1.cell (p := ⟨g, 4, none⟩) h.lt).trans c4
    go_enter Tryd.func18, Tryd.ntmps18
    go_wp2_with (first
      | (refine wpList_alloc_arr rfl 42 rfl _ alloc64 ?_)
      | (refine wpList_build_to rfl 42 _ rfl zv (by rw [Hz.out]; kernel_rfl) ?_)
      | (refine wpList_store_new rfl 42 _ _ rfl w.heap.size rfl zv rfl rfl 42 _ hz1.out hz3.out hz2.out ?_))
    refine bodyPost_ret (v := .tuple #[.agg zv, .int .i64 10]) ?_ rfl ⟨by rw [Hz.out]; rfl, (Below.refl _ _).alloc (Nat.le_refl _) _⟩
    exact results_cell_row_tmp (ty := 42) rfl _ _ w.heap.size 42 _ (0, 0) _ rfl (heap_alloc_new _ _) Tryd.underlying42 rfl hz1.out _ rfl
  | false =>
    have h1 := h.below hb1
    have c4' := (hb1.cell (p := ⟨g, 4, none⟩) h.lt).trans c4
    have hno := no_any h1 i
    by_cases hbad : i < 0 ∨ (firm.length : Int) ≤ i
    · have hrs : readS firm ats what false i = (zeroPage, 1) := by simp [readS, hbad]
      have hd : decide (i < 0 ∨ (firm.length : Int) ≤ i) = true := by simpa using hbad
      rw [hd] at hno
      rw [hrs]
      obtain ⟨zv, Hz⟩ : ∃ zv : Array Value, Hid (zv = zeros64) := ⟨_, rfl⟩
      have hz1 : Hid ((Tryd.prog.info? 42).map (·.size) = some zv.size) := by rw [Hz.out]; exact page_size zeroPage_ok
      have hz2 : Hid (zv.all (·.oneCell') = true) := by rw [Hz.out]; exact page_all zeroPage_ok
      have hz3 : Hid (zeros64.size = zv.size) := by rw [Hz.out]; exact (rfl : zeros64.size = zeros64.size)
      go_enter Tryd.func18, Tryd.ntmps18
      go_wp2_with (first
        | (refine wpList_alloc_arr rfl 42 rfl _ alloc64 ?_)
        | (go_at_call 30; refine hno.mono ?_; rintro e w' ⟨rfl, rfl⟩)
        | (refine wpList_build_to rfl 42 _ rfl zv (by rw [Hz.out]; kernel_rfl) ?_)
        | (refine wpList_store_new rfl 42 _ _ rfl w.heap.size rfl zv rfl rfl 42 _ hz1.out hz3.out hz2.out ?_))
      refine bodyPost_ret (v := .tuple #[.agg zv, .int .i64 1]) ?_ rfl ⟨by rw [Hz.out]; rfl, (Below.refl _ _).alloc (Nat.le_refl _) _⟩
      exact results_cell_row_tmp (ty := 42) rfl _ _ w.heap.size 42 _ (0, 0) _ rfl (heap_alloc_new _ _) Tryd.underlying42 rfl hz1.out _ rfl
    · have hd : decide (i < 0 ∨ (firm.length : Int) ≤ i) = false := by simpa using hbad
      rw [hd] at hno
      have hi0 : 0 ≤ i := by omega
      have hi1 : i < (firm.length : Int) := by omega
      obtain ⟨aa, ca, rfl⟩ : ∃ ao cap, va = .slice ao ats.length cap := by
        rcases h.rowA.2 with ⟨hv, h0⟩ | ⟨g, cap, cur, hv, _⟩
        · exact ⟨none, 0, by rw [hv, h0]⟩
        · exact ⟨_, _, hv⟩
      have c1 : (w.alloc (.cells zeros64 42)).cell? ⟨g, 1, none⟩ = some (.slice aa ats.length ca) := h1.cell 1
      have c2 : (w.alloc (.cells zeros64 42)).cell? ⟨g, 2, none⟩ = some vw := h1.cell 2
      have c0 : (w.alloc (.cells zeros64 42)).cell? ⟨g, 0, none⟩ = some vf := h1.cell 0
      obtain ⟨L, hL⟩ : ∃ L, ats.length = L := ⟨_, rfl⟩
      rw [hL] at c1 hn
      have hw1 : IntKind.i64.wrap ((L : Int) - 1) = (L : Int) - 1 := IntWalk.i64_in _ (by omega)
      go_enter Tryd.func18, Tryd.ntmps18
      go_wp2_with (first
        | (refine wpList_alloc_arr rfl 42 rfl _ alloc64 ?_)
        | (go_at_call 30; refine hno.mono ?_; rintro e w' ⟨rfl, rfl⟩))
      go_loopg [6] L (fun gg v wr => ∃ (k : Nat), k = gg ∧ k ≤ L ∧ v = .int .i64 ((k : Int) - 1) ∧ seen (ats.drop k) (what.drop k) i = none ∧ wr = w.alloc (.cells zeros64 42))
      case atStart =>
        refine ⟨L, rfl, by omega, by first | rfl | rw [hw1], ?_, rfl⟩
        rw [← hL, List.drop_length]
        simp [seen]
      case round =>
        obtain ⟨k, rfl, hk, rfl, hs, rfl⟩ := hrel
        rcases k with _ | k
        · rw [List.drop_zero, List.drop_zero] at hs
          obtain ⟨j, rfl⟩ : ∃ j : Nat, i = (j : Int) := ⟨i.toNat, by omega⟩
          have hjl : j < firm.length := by omega
          have hrs : readS firm ats what false (j : Int) = (firm[j], 0) := by
            have hb2 : ¬ ((j : Int) < 0 ∨ (firm.length : Int) ≤ (j : Int)) := hbad
            simp only [readS, Bool.false_eq_true, if_false, if_neg hb2, hs]
            simp [List.getD_eq_getElem?_getD, hjl]
          have hpg := List.getElem?_eq_getElem hjl
          obtain ⟨gf, cf, rfl, _, _⟩ := h1.rowF.form (by omega)
          have hrange := own_page h1.rowF h1.firmOk j firm[j] hpg rfl
          have hPg := h1.firmOk firm[j] (List.getElem_mem hjl)
          obtain ⟨F, hF⟩ : ∃ F, firm.length = F := ⟨_, rfl⟩
          rw [hF] at c0
          have hjF : (j : Int) < (F : Int) := by omega
          obtain ⟨pg, hpp⟩ : ∃ pg, firm[j] = pg := ⟨_, rfl⟩
          rw [hpp] at hrange hPg hrs
          have HR := Lib.hid hrs
          have hz1 := page_size hPg
          have hz2 := page_all hPg
          have hz3 : Hid (zeros64.size = pg.toArray.size) := by
            have : pg.toArray.size = 64 := by rw [List.size_toArray]; exact hPg.1
            rw [this]; exact (rfl : zeros64.size = 64)
          have hi64 : Hid ((Tryd.prog.info? 42).map (·.size) = some pg.length) := by rw [hPg.1]; exact info64
          have hge : ¬ ((0 : Int) ≤ ((0 : Nat) : Int) - 1) := by omega
          have HRg := Lib.hid hrange
          clear hrs hpg hs hbad hi0 hi1 hpp hrange
          go_wp2_with (first
            | (refine wpList_load_mid rfl 42 _ rfl gf (j * 64) rfl pg _ HRg.out Tryd.underlying42 rfl hi64.out ?_)
            | (refine wpList_store_new rfl 42 _ _ rfl w.heap.size rfl pg.toArray rfl rfl 42 _ hz1.out hz3.out hz2.out ?_))
          refine bodyPost_ret (v := .tuple #[.agg pg.toArray, .int .i64 0]) ?_ rfl ⟨by rw [HR.out], (Below.refl _ _).alloc (Nat.le_refl _) _⟩
          exact results_cell_row_tmp (ty := 42) rfl _ _ w.heap.size 42 _ (0, 0) _ rfl (heap_alloc_new _ _) Tryd.underlying42 rfl hz1.out _ rfl
        · have e1 : ((k + 1 : Nat) : Int) - 1 = (k : Int) := by omega
          rw [e1]
          have hge : (0 : Int) ≤ (k : Int) := by omega
          have hlt : (k : Int) < (L : Int) := by omega
          have hw2 : IntKind.i64.wrap ((k : Int) - 1) = (k : Int) - 1 := IntWalk.i64_in _ (by omega)
          have hka : k < ats.length := by omega
          have hkw : k < what.length := by rw [hsame]; exact hka
          have ha := List.getElem?_eq_getElem hka
          have hpw := List.getElem?_eq_getElem hkw
          obtain ⟨ga, ca', hva, _, _⟩ := h1.rowA.form (by omega)
          obtain ⟨rfl, rfl⟩ : aa = some ⟨ga, 0, none⟩ ∧ ca = ca' := by
            simp only [Value.slice.injEq] at hva
            exact ⟨hva.1, hva.2.2⟩
          obtain ⟨gw, cw, rfl, _, _⟩ := h1.rowW.form (by omega)
          have ck : (w.alloc (.cells zeros64 42)).cell? ⟨ga, k, none⟩ = some (.int .i64 ats[k]) := by
            rw [h1.rowA.cellAt k (by omega), List.getElem?_map, ha]; rfl
          have hrange := own_page h1.rowW h1.whatOk k what[k] hpw rfl
          have hPg := h1.whatOk what[k] (List.getElem_mem hkw)
          have hsc := seen_cons k ats[k] what[k] ha hpw hs
          obtain ⟨a, haa⟩ : ∃ a, ats[k] = a := ⟨_, rfl⟩
          obtain ⟨pg, hpp⟩ : ∃ pg, what[k] = pg := ⟨_, rfl⟩
          rw [haa] at ck hsc
          rw [hpp] at hrange hPg hsc
          obtain ⟨M, hM⟩ : ∃ M, what.length = M := ⟨_, rfl⟩
          have hkM : (k : Int) < (M : Int) := by omega
          rw [hM] at c2
          by_cases hai : a = i
          · rw [if_pos hai] at hsc
            have hrs : readS firm ats what false i = (pg, 0) := by
              simp only [readS, Bool.false_eq_true, if_false, if_neg hbad, seen_drop k ats what i pg hsc]
            have HR := Lib.hid hrs
            have HRg := Lib.hid hrange
            have hz1 := page_size hPg
            have hz2 := page_all hPg
            have hz3 : Hid (zeros64.size = pg.toArray.size) := by
              have : pg.toArray.size = 64 := by rw [List.size_toArray]; exact hPg.1
              rw [this]; exact (rfl : zeros64.size = 64)
            have hi64 : Hid ((Tryd.prog.info? 42).map (·.size) = some pg.length) := by rw [hPg.1]; exact info64
            subst hai
            clear hrs hrange hs hsc hbad hi0 hi1 hpp haa ha hpw hva
            go_wp2_with (first
              | (refine wpList_load_mid rfl 42 _ rfl gw (k * 64) rfl pg _ HRg.out Tryd.underlying42 rfl hi64.out ?_)
              | (refine wpList_store_new rfl 42 _ _ rfl w.heap.size rfl pg.toArray rfl rfl 42 _ hz1.out hz3.out hz2.out ?_))
            refine bodyPost_ret (v := .tuple #[.agg pg.toArray, .int .i64 0]) ?_ rfl ⟨by rw [HR.out], (Below.refl _ _).alloc (Nat.le_refl _) _⟩
            exact results_cell_row_tmp (ty := 42) rfl _ _ w.heap.size 42 _ (0, 0) _ rfl (heap_alloc_new _ _) Tryd.underlying42 rfl hz1.out _ rfl
          · rw [if_neg hai] at hsc
            have HS := Lib.hid hsc
            clear hrange hs hsc hbad hi0 hi1 hpp haa ha hpw hva
            go_wp2
            go_roundg k
            case measure => omega
            case rel => exact ⟨k, rfl, by omega, rfl, HS.out, rfl⟩
end
end Go.Proofs.YtbmpbcnoclhhgaaDoor
