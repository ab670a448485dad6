/-
  pdu.first: the first PDU of bytes.
-/
import Derived.Test.YtakejggofghblaaPdFields
set_option linter.unusedSimpArgs false
set_option linter.unusedVariables false
namespace Go.Proofs.Ytakejggofghblaa
open Go.RowKit Sh Cr Pd

theorem results_cell_row_tmp2 {P : Program} {fn : Func} {p u v : Tmp} {ty : TypeId} (h : fn.results = #[.cell p ty, .tmp u, .tmp v]) (tmps : Array Value) (w : World) (g : Nat) (t : TypeId) (cs : Array Value) (fr : Nat × Nat) (d : TypeDesc)
    (hp : tmps.getD p undef = .pointer (some ⟨g, 0, none⟩)) (hg : w.heap[g]? = some (.cells cs t fr))
    (hu : P.underlying ty = some d) (hd : (match d with | .struct _ | .array _ _ => true | _ => false) = true) (hi : (P.info? ty).map (·.size) = some cs.size) (x y : Value) (hx : tmps.getD u undef = x) (hy : tmps.getD v undef = y) :
    (results fn tmps).run P w = .ok (.tuple #[.agg cs, x, y]) w := by
  have hp' : tmps[p]?.getD undef = .pointer (some ⟨g, 0, none⟩) := by simpa using hp
  have hx' : tmps[u]?.getD undef = x := by simpa using hx
  have hy' : tmps[v]?.getD undef = y := by simpa using hy
  simp [results, h, hp', hx', hy', asAddr, run_loadVar_row w g t ty cs fr d hg hu hd hi]
/-- A PDU by value in a world. -/
def PduV (W : World) (p : P) (cs : Array Value) : Prop := ∃ ap ac dp dc, cs = p.cs (.slice ap p.ahs.length ac) (.slice dp p.data.length dc) ∧ Bytes W.heap.size W ap p.ahs.length ac p.ahs ∧ Bytes W.heap.size W dp p.data.length dc p.data
theorem PduV.zero (W : World) : PduV W {} zP := ⟨none, 0, none, 0, rfl, Bytes.nil _ _, Bytes.nil _ _⟩
theorem PduV.below {W W' : World} {p : P} {cs : Array Value} (h : PduV W p cs) (hb : Below W.heap.size W W') : PduV W' p cs := by
  obtain ⟨ap, ac, dp, dc, h1, h2, h3⟩ := h
  exact ⟨ap, ac, dp, dc, h1, (h2.below hb).mono hb.size, (h3.below hb).mono hb.size⟩
theorem PduV.size {W : World} {p : P} {cs : Array Value} (h : PduV W p cs) : Hid (cs.size = 16) := by
  obtain ⟨ap, ac, dp, dc, rfl, _⟩ := h; exact Lib.hid rfl
theorem Pd.P.cs_one (p : P) (a b c d e f) : (p.cs (.slice a b c) (.slice d e f)).all (·.oneCell') = true := by simp [P.cs, Value.oneCell']
theorem PduV.one {W : World} {p : P} {cs : Array Value} (h : PduV W p cs) : Hid (cs.all (·.oneCell') = true) := by
  obtain ⟨ap, ac, dp, dc, rfl, _⟩ := h; exact Lib.hid (p.cs_one _ _ _ _ _ _)
theorem own_other {B size n g : Nat} {e T : TypeId} {w : World} {v : Value} {xs : List Value} {cs : Array Value} (h : w.ownsRow B e size v n xs) (hg : w.heap[g]? = some (.cells cs T (0, 0))) (hne : e ≠ T) : some g ≠ v.ownBlock := by
  rcases h.2 with ⟨rfl, _⟩ | ⟨g', cap, cur, rfl, _, hh, _⟩
  · simp [Value.ownBlock]
  · intro he
    have : g = g' := by simpa [Value.ownBlock] using he
    subst this
    rw [hg] at hh
    injection hh with hh
    injection hh with _ ht
    exact hne ht.symm
/-- A row of the call's own holds these bytes. -/
def OwR (w W : World) (v : Value) (l : List UInt8) : Prop := W.ownsRow w.heap.size 5 1 v l.length (l.map cu8)
theorem OwR.next {w W W' : World} {v : Value} {l : List UInt8} (h : OwR w W v l) (hb : Below W.heap.size W W') : OwR w W' v l := World.ownsRow.kept h (grownBy_of_below (r := none) hb) (by cases hv : v.ownBlock <;> simp)
theorem OwR.grown {w W W' : World} {v : Value} {l : List UInt8} {g : Nat} {cs : Array Value} {T : TypeId} (h : OwR w W v l) (hg : W.heap[g]? = some (.cells cs T (0, 0))) (hT : (5 : TypeId) ≠ T) (hgr : W.grownBy W' (some g)) : OwR w W' v l :=
  World.ownsRow.kept h hgr (.inr (fun e => own_other h hg hT e.symm))
theorem OwR.bytes {w W : World} {v : Value} {l : List UInt8} (h : OwR w W v l) : ∃ bp cap, v = .slice bp l.length cap ∧ Bytes W.heap.size W bp l.length cap l := Bytes.of_own h
theorem OwR.bytesOf {w W : World} {p : Option Addr} {c : Nat} {l : List UInt8} (h : OwR w W (.slice p l.length c) l) : Bytes W.heap.size W p l.length c l := by
  obtain ⟨bp, cap, e, hB⟩ := h.bytes
  injection e with e1 _ e3
  subst e1 e3
  exact hB
theorem OwR.drew {w W : World} {v : Value} {l : List UInt8} (h : OwR w W v l) : OwR w W.drew v l := h
/-- A PDU by value whose bytes lie in rows of the call's own. -/
def PduO (w W : World) (p : P) (cs : Array Value) : Prop := ∃ av dv, cs = p.cs av dv ∧ OwR w W av p.ahs ∧ OwR w W dv p.data
theorem PduO.zero (w W : World) : PduO w W {} zP := ⟨_, _, zP_eq, World.ownsRow_nil _ _ _ _, World.ownsRow_nil _ _ _ _⟩
theorem PduO.next {w W W' : World} {p : P} {cs : Array Value} (h : PduO w W p cs) (hb : Below W.heap.size W W') : PduO w W' p cs := by
  obtain ⟨av, dv, h1, h2, h3⟩ := h; exact ⟨av, dv, h1, h2.next hb, h3.next hb⟩
theorem PduO.v {w W : World} {p : P} {cs : Array Value} (h : PduO w W p cs) : PduV W p cs := by
  obtain ⟨av, dv, h1, h2, h3⟩ := h
  obtain ⟨ap, ac, rfl, ha⟩ := h2.bytes
  obtain ⟨dp, dc, rfl, hd⟩ := h3.bytes
  exact ⟨ap, ac, dp, dc, h1, ha, hd⟩
/-- What first leaves. -/
def FirstP (w : World) (r : P × Nat × Nat) (e : Ending) (w' : World) : Prop := ∃ cs, e = .returned (.tuple #[.agg cs, .int .i64 (r.2.1 : Int), .int .i64 (r.2.2 : Int)]) ∧ PduO w w' r.1 cs ∧ Below w.heap.size w w'
theorem builtZ : Try.prog.built 28 [] = some zP := by kernel_rfl
theorem zP_size : zP.size = 16 := rfl
theorem zP_one : zP.all (·.oneCell') = true := by simp [zP, Value.oneCell']
section
variable {B : List UInt8} {h d : Bool}
theorem firstB_0 (h0 : B.length < 48) : firstB B h d = ({}, 0, 0) := by unfold firstB; rw [if_pos h0]
theorem firstB_1 (h0 : ¬ B.length < 48) (h1 : soundB B = false) : firstB B h d = ({}, 3, 0) := by unfold firstB; rw [if_neg h0, if_pos h1]
theorem firstB_2 (h0 : ¬ B.length < 48) (h1 : soundB B = true) (h2 : B.length < headE B h) : firstB B h d = ({}, 0, 0) := by unfold firstB; rw [if_neg h0, if_neg (by simp [h1]), if_pos h2]
theorem firstB_3 (h0 : ¬ B.length < 48) (h1 : soundB B = true) (h2 : ¬ B.length < headE B true) (h3 : fitsB (B.take (headE B true)) = false) : firstB B true d = ({}, 3, 0) := by unfold firstB; rw [if_neg h0, if_neg (by simp [h1]), if_neg h2, if_pos ⟨rfl, h3⟩]
def okH (B : List UInt8) (h : Bool) : Prop := h = false ∨ fitsB (B.take (headE B h)) = true
theorem firstB_4 (h0 : ¬ B.length < 48) (h1 : soundB B = true) (h2 : ¬ B.length < headE B h) (h3 : okH B h) (h4 : B.length < allE B h d) : firstB B h d = ({}, 0, 0) := by
  unfold firstB; rw [if_neg h0, if_neg (by simp [h1]), if_neg h2, if_neg (by rintro ⟨e1, e2⟩; rcases h3 with h3 | h3 <;> simp_all), if_pos h4]
theorem firstB_5 (h0 : ¬ B.length < 48) (h1 : soundB B = true) (h2 : ¬ B.length < headE B h) (h3 : okH B h) (h4 : ¬ B.length < allE B h d) (h5 : sumd B d = true) (h6 : fitsB ((B.drop (headE B h)).take (allE B h d - headE B h)) = false) :
    firstB B h d = ({ fieldsB B with ahs := (B.drop 48).take (ahsE B - 48) }, 2, allE B h d) := by
  unfold firstB; rw [if_neg h0, if_neg (by simp [h1]), if_neg h2, if_neg (by rintro ⟨e1, e2⟩; rcases h3 with h3 | h3 <;> simp_all), if_neg h4, if_pos ⟨h5, h6⟩]
theorem firstB_6 (h0 : ¬ B.length < 48) (h1 : soundB B = true) (h2 : ¬ B.length < headE B h) (h3 : okH B h) (h4 : ¬ B.length < allE B h d) (h5 : sumd B d = false ∨ fitsB ((B.drop (headE B h)).take (allE B h d - headE B h)) = true) :
    firstB B h d = ({ fieldsB B with ahs := (B.drop 48).take (ahsE B - 48), data := (B.drop (headE B h)).take (nOf B) }, 1, allE B h d) := by
  unfold firstB; rw [if_neg h0, if_neg (by simp [h1]), if_neg h2, if_neg (by rintro ⟨e1, e2⟩; rcases h3 with h3 | h3 <;> simp_all), if_neg h4, if_neg (by rintro ⟨e1, e2⟩; rcases h5 with h5 | h5 <;> simp_all)]
end
section
variable {w : World} {N len cap : Nat} {bp : Option Addr} {B : List UInt8} {h d : Bool}
set_option maxRecDepth 100000 in
set_option maxHeartbeats 2000000 in
theorem first_short (hB : Bytes N w bp len cap B) (h0 : len < 48) : Calls Try.prog 27 #[.slice bp len cap, .bool h, .bool d] w (FirstP w (firstB B h d)) := by
  have HP := Lib.hid (firstB_0 (h := h) (d := d) (by rw [hB.hlen]; exact h0))
  have h0' : (len : Int) < 48 := by omega
  have hz : Hid ((w.alloc (.cells zP 28)).heap[w.heap.size]? = some (.cells zP 28 (0, 0))) := Lib.hid (heap_alloc_new w _)
  have hb : Below w.heap.size w (w.alloc (.cells zP 28)) := (Below.refl _ w).alloc (Nat.le_refl _) _
  have HB := Lib.hid hb; clear hb hB h0
  go_enter Try.func27, Try.ntmps27
  go_wp2_with (first
    | (refine wpList_alloc_arr rfl 28 rfl _ allocPdu ?_)
    | (refine wpList_buildP 28 _ rfl zP builtZ (by rfl) ?_)
    | (refine wpList_store_row rfl 28 _ _ rfl w.heap.size zP rfl rfl 28 zP hz.out infoPdu rfl zP_one ?_))
  refine bodyPost_ret (v := .tuple #[.agg zP, .int .i64 0, .int .i64 0]) ?_ rfl ⟨zP, by rw [HP.out]; rfl, by rw [HP.out]; exact PduO.zero _ _, below_setRow HB.out (Nat.le_refl _) zP⟩
  exact results_cell_row_tmp2 (ty := 28) rfl _ _ w.heap.size 28 zP (0, 0) _ rfl (setRow_heap _ _ _ _ _ _ hz.out) Try.underlying28 rfl infoPdu _ _ rfl rfl
end
end Go.Proofs.Ytakejggofghblaa
