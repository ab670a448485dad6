/-
  Arrays of bytes held against one another; the walk of 'Fits'.
-/
import Derived.Test.YtakejggofghblaaCrcRef
import Derived.DeepKeys
import Derived.Laws.StructEq
import Derived.Deep.RegionHeld3
import Derived.Deep.MidRow
namespace Go.Proofs.Ytakejggofghblaa
open Go.RowKit Sh Cr

/-- '==' on two arrays of bytes. -/
theorem run_eql_bytes {P : Program} (T E : TypeId) (n : Nat) (hT : P.underlying T = some (.array n E)) (hE : P.underlying E = some (.int .u8)) (hs : (P.info? E).map (·.size) = some 1)
    (l1 l2 : List UInt8) (h1 : l1.length = n) (h2 : l2.length = n) (w : World) :
    (binOp .eql T (.agg (l1.map cu8).toArray) (.agg (l2.map cu8).toArray)).run P w = .ok (.bool (decide (l1 = l2))) w := by
  have hagg : (isAgg E).run P w = .ok false w := by
    unfold isAgg
    rw [Sem.run_bind, run_underlying hE w]
    rfl
  obtain ⟨i0, hi, hi1⟩ : ∃ i, P.info? E = some i ∧ i.size = 1 := by
    cases hq : P.info? E with
    | none => simp [hq] at hs
    | some i => exact ⟨i, rfl, by simpa [hq] using hs⟩
  have hp : ∀ (l : List UInt8), l.length = n → ∀ k, k < n → (part E (l.map cu8).toArray k).run P w = .ok (.int .u8 (bz (at8 l k))) w := fun l hl k hk => by
    have hk' : k < l.length := by omega
    have hv : (l.map cu8).toArray[k]? = some (.int .u8 (bz (at8 l k))) := by
      rw [List.getElem?_toArray, List.getElem?_map, List.getElem?_eq_getElem hk', at8, List.getD_eq_getElem?_getD, List.getElem?_eq_getElem hk']; rfl
    unfold part
    rw [Sem.run_bind, hagg]
    simp only [Result.andThen_ok, hv, Bool.false_eq_true, if_false]
    simp
  have hitems : ∀ (d : Nat) (is : List Nat), (∀ k ∈ is, k < n) → (Op.eqItems (d + 1) E 1 (l1.map cu8).toArray (l2.map cu8).toArray is).run P w = .ok (is.all fun k => bz (at8 l1 k) == bz (at8 l2 k)) w := fun d is => by
    induction is with
    | nil => intro _; simp [Op.eqItems]
    | cons k is ih =>
      intro h
      have hk := h k (by simp)
      have ih' := ih (fun j hj => h j (by simp [hj]))
      simp only [Op.eqItems, Nat.mul_one, Sem.run_bind, hp l1 h1 k hk, hp l2 h2 k hk, Result.andThen_ok, run_equalIn_int w d E .u8 .u8 (bz (at8 l1 k)) (bz (at8 l2 k)) hE]
      cases hb : bz (at8 l1 k) == bz (at8 l2 k)
      · simp [hb]
      · simpa [hb] using ih'
  have hc : P.cellsOf E = 1 := by simp [Program.cellsOf, hi, hi1]
  rw [run_eql_struct, run_equalIn_array w 9999 _ _ hT hi, hc, hitems 9998 _ (fun k hk => by simpa using hk)]
  have e : ((List.range n).all fun k => bz (at8 l1 k) == bz (at8 l2 k)) = decide (l1 = l2) := by
    rw [Bool.eq_iff_iff, List.all_eq_true, decide_eq_true_eq]
    constructor
    · intro h
      apply List.ext_getElem (by omega)
      intro j hj1 hj2
      have := h j (by simp; omega)
      have := bz_inj (by simpa using this)
      simpa [at8, List.getD_eq_getElem?_getD, List.getElem?_eq_getElem hj1, List.getElem?_eq_getElem hj2] using this
    · intro h; subst h; simp
  rw [e]; rfl

/-- None, or the table. -/
def TabOk (N : Nat) (w : World) (p : Option Addr) : Prop := p = none ∨ ∃ g, p = some ⟨g, 0, none⟩ ∧ g < N ∧ TableAt w g tab
theorem TabOk.below {N : Nat} {w w' : World} {p : Option Addr} (h : TabOk N w p) (hb : Below N w w') : TabOk N w' p :=
  h.imp id fun ⟨g, h1, h2, h3⟩ => ⟨g, h1, h2, h3.of_block (hb.block g h2)⟩
theorem TabOk.mono {N M : Nat} {w : World} {p : Option Addr} (h : TabOk N w p) (hb : N ≤ M) : TabOk M w p :=
  h.imp id fun ⟨g, h1, h2, h3⟩ => ⟨g, h1, Nat.lt_of_lt_of_le h2 hb, h3⟩
theorem TabOk.nil (N : Nat) (w : World) : TabOk N w none := .inl rfl
theorem sum_any (p : Option Addr) (bp : Option Addr) (len cap : Nat) (bs : List UInt8) (w : World) (hp : TabOk w.heap.size w p) (hB : Bytes w.heap.size w bp len cap bs) :
    Calls Try.prog 34 #[.pointer p, .slice bp len cap] w (NumPost w (Cr.sum bs)) := by
  rcases hp with rfl | ⟨g, rfl, _, hT⟩
  · exact sumNil_any bp len cap bs w hB
  · refine (sumT_any g tab bp len cap _ bs w hT hB).mono fun e w' h => ?_
    obtain ⟨rfl, rfl⟩ := h
    exact ⟨by rw [sumT_tab], Below.refl _ _⟩

/-- Whether bytes fit. -/
def fitsB (bs : List UInt8) : Bool := decide (4 ≤ bs.length) && decide (le4 (Cr.sum (bs.take (bs.length - 4))) = bs.drop (bs.length - 4))
/-- A call that tells 'b', and turns nothing that was there. -/
def SayPost (b : Bool) (w : World) (e : Ending) (w' : World) : Prop := e = .returned (.bool b) ∧ Below w.heap.size w w'

theorem cells4 (l : List UInt8) (h : l.length = 4) : ((l.map cu8).toArray : Array Value) = #[.int .u8 (bz (at8 l 0)), .int .u8 (bz (at8 l 1)), .int .u8 (bz (at8 l 2)), .int .u8 (bz (at8 l 3))] := by
  match l, h with
  | [a, b, c, d], _ => rfl

set_option maxHeartbeats 400000 in
theorem fits_short (p bp : Option Addr) (len cap N : Nat) (bs : List UInt8) (w : World) (hB : Bytes N w bp len cap bs) (h : len < 4) :
    Calls Try.prog 41 #[.pointer p, .slice bp len cap] w (SayPost (fitsB bs) w) := by
  have e : fitsB bs = false := by unfold fitsB; rw [hB.hlen, decide_eq_false (by omega)]; rfl
  rw [e]
  have h' : (len : Int) < 4 := by omega
  go_enter Try.func41, Try.ntmps41
  go_wp2
  go_ret
  exact ⟨rfl, Below.refl _ _⟩

/-- What is kept through the region of 'Fits'. -/
structure FtW (w : World) (b o : Nat) (l : List UInt8) (w' : World) : Prop where
  below : Below w.heap.size w w'
  rest : w'.rangeAt b o (l.map cu8)
theorem FtW.next {w w1 w2 : World} {b o : Nat} {l : List UInt8} (h : FtW w b o l w1) (hb : b < w.heap.size) (h2 : Below w1.heap.size w1 w2) : FtW w b o l w2 :=
  ⟨h.below.trans (h2.mono h.below.size), fun j v hv => by rw [h2.cell (p := ⟨b, o + j, none⟩) (Nat.lt_of_lt_of_le hb h.below.size)]; exact h.rest j v hv⟩
theorem wpAnyH_one {P : Program} {md : Region.Mode} {ops : Array Oper} {Q : Exit → Act → World → Prop} {S : World → Prop} {fuel : Nat} {listed : Array Bool} {a : Act} {w : World} (i : Nat) (o : Oper) (hi : ops[i]? = some o) (hr : Region.ready md ops listed = [i])
    (hw : Region.wanted o (yielded ops a.tmps) = true) (h : ∀ K : Act → World → Prop, (∀ a' w', S w' → wpAnyH P md ops Q S fuel (listed.setIfInBounds i true) a' w' → K a' w') → Oper.wp P o a w K Q) : wpAnyH P md ops Q S (fuel + 1) listed a w := by
  refine wpAnyH_all hr (by simp) (fun j hj => ?_)
  obtain rfl : j = i := by simpa using hj
  unfold wpOp
  simp only [hi, hw, if_true]
  exact .inl (h _ fun _ _ h1 h2 => ⟨h1, h2⟩)

theorem info4 : (Try.prog.info? 66).map (·.size) = some 4 := by kernel_rfl
theorem load4 {w : World} {b o : Nat} {l : List UInt8} (h : w.rangeAt b o (l.map cu8)) (hl : l.length = 4) : (Instr.loadAt 66 (.pointer (some ⟨b, o, none⟩))).run Try.prog w = .ok (.agg (l.map cu8).toArray) w :=
  run_loadAt_mid w b o 66 (l.map cu8) _ h Try.underlying66 rfl (by rw [List.length_map, hl]; exact info4)
theorem eql4 (l1 l2 : List UInt8) (h1 : l1.length = 4) (h2 : l2.length = 4) (w : World) : (binOp .eql 66 (.agg (l1.map cu8).toArray) (.agg (l2.map cu8).toArray)).run Try.prog w = .ok (.bool (decide (l1 = l2))) w :=
  run_eql_bytes (P := Try.prog) 66 5 4 Try.underlying66 Try.underlying5 (by kernel_rfl) l1 l2 h1 h2 w

set_option maxRecDepth 100000 in
set_option maxHeartbeats 1600000 in
theorem fits_long (p : Option Addr) (b o m cap : Nat) (bs : List UInt8) (w : World) (hp : TabOk w.heap.size w p) (hb : b < w.heap.size) (hB : Bytes w.heap.size w (some ⟨b, o, none⟩) (m + 4) cap bs) :
    Calls Try.prog 41 #[.pointer p, .slice (some ⟨b, o, none⟩) (m + 4 : Nat) cap] w (SayPost (fitsB bs) w) := by
  have hm := hB.hmax
  have hr := hB.hroom
  have hl := hB.hlen
  unfold maxLen at hm
  have E := Lib.hid (show fitsB bs = decide (le4 (Cr.sum (bs.take m)) = bs.drop m) by
    unfold fitsB
    rw [decide_eq_true (by omega), Bool.true_and, show bs.length - 4 = m by omega])
  have H1 := Lib.hid (hB.cut 0 m (Nat.zero_le _) (by omega))
  have s1 := run_slice_head (P := Try.prog) 23 5 Try.underlying23 (by kernel_rfl) (some ⟨b, o, none⟩) (m + 4) cap m (by omega)
  have s2 := run_slice_tail (P := Try.prog) 23 5 Try.underlying23 (by kernel_rfl) (some ⟨b, o, none⟩) (m + 4) cap m (by omega)
  have hcut : cutAt (some ⟨b, o, none⟩) cap m = some ⟨b, o + m, none⟩ := by
    unfold cutAt
    rw [if_neg (by omega), Option.map_some]
    unfold Addr.add; split <;> simp_all
  rw [hcut, Nat.add_sub_cancel_left] at s2
  have hd : (bs.drop m).length = 4 := by rw [List.length_drop]; omega
  have hS0 : FtW w b (o + m) (bs.drop m) w := ⟨Below.refl _ _, fun j v hv => by
    rw [List.getElem?_map, List.getElem?_drop] at hv
    rcases hB.lies with h | ⟨b', o', hbo, _, hc⟩
    · omega
    · simp only [Option.some.injEq, Addr.mk.injEq, and_true] at hbo
      obtain ⟨rfl, rfl⟩ := hbo
      have hj : m + j < bs.length := by
        rcases Nat.lt_or_ge (m + j) bs.length with h | h
        · exact h
        · rw [List.getElem?_eq_none h] at hv; cases hv
      rw [Nat.add_assoc, hc (m + j) (by omega), ← hv, List.getElem?_eq_getElem hj, at8, List.getD_eq_getElem?_getD, List.getElem?_eq_getElem hj]; rfl⟩
  have hlen4 : IntKind.i64.wrap (((m + 4 : Nat) : Int) - 4) = (m : Int) := by rw [IntWalk.i64_in _ (by omega)]; omega
  have hsub : ((m + 4 : Nat) : Int) - 4 = (m : Int) := by omega
  have hge : ¬ (((m + 4 : Nat) : Int) < 4) := by omega
  obtain ⟨p1, l1, c1, hp1, hl1, hc1⟩ : ∃ p1 l1 c1, Hid (cutAt (some ⟨b, o, none⟩) cap 0 = p1) ∧ Hid (m - 0 = l1) ∧ Hid (cap - 0 = c1) := ⟨_, _, _, rfl, rfl, rfl⟩
  rw [hp1.out, hl1.out, hc1.out] at s1
  have hB1 := H1.out
  rw [hp1.out, hl1.out, hc1.out] at hB1
  have hB1' : Bytes w.heap.size w p1 l1 c1 (bs.take m) := by
    have e : (bs.drop 0).take l1 = bs.take m := by rw [← hl1.out]; rfl
    rw [e] at hB1; exact hB1
  clear hB1 H1 hcut hl hp1 hl1 hc1
  generalize bs.drop m = tl at hd hS0 E
  generalize bs.take m = hd1 at hB1' E
  generalize hc4 : cap - m = c4 at s2
  have hq : (4 : Nat) ≤ 4 := Nat.le_refl _
  have s3 : ∀ w : World, (Instr.arrayAt 66 (.slice (some ⟨b, o + m, none⟩) 4 c4)).run Try.prog w = .ok (.pointer (some ⟨b, o + m, none⟩)) w := fun w => by kernel_rfl
  have HB := Lib.hid hB; have HC := Lib.hid hc4; have HD := Lib.hid hd; clear hB hc4 hd
  go_enter Try.func41, Try.ntmps41
  go_wp2
  refine wp_region_held (S := FtW w b (o + m) tl) (by kernel_rfl) ?_
  change wpAnyH _ _ _ _ _ _ _ _ (World.drew _)
  have hSd : FtW w b (o + m) tl w.drew := ⟨hS0.below.trans ⟨rfl, rfl, rfl, Nat.le_refl _, fun _ _ => rfl⟩, hS0.rest⟩
  generalize w.drew = w0 at hSd ⊢
  clear hS0
  refine wpAnyH_take (i := 0) (v := .pointer p) rfl (by kernel_rfl) (by kernel_rfl) (by kernel_rfl) (fun _ _ _ h => h) (Or.inl ⟨by rfl, ?_⟩) hSd ?_
  · intro w _; go_simp
  try simp only [List.getElem_toArray, List.getElem_cons_zero, Act.put, List.setIfInBounds_toArray, List.set]
  refine wpAnyH_take (i := 1) (v := .slice (some ⟨b, o, none⟩) (m + 4 : Nat) cap) rfl (by kernel_rfl) (by kernel_rfl) (by kernel_rfl) (fun _ _ _ h => h) (Or.inl ⟨by rfl, ?_⟩) hSd ?_
  · intro w _; go_simp
  try simp only [List.getElem_toArray, List.getElem_cons_succ, List.getElem_cons_zero, Act.put, List.setIfInBounds_toArray, List.set]
  refine wpAnyH_take (i := 2) (v := .int .i64 m) rfl (by kernel_rfl) (by kernel_rfl) (by kernel_rfl) (fun _ _ _ h => h) (Or.inl ⟨by rfl, ?_⟩) hSd ?_
  · intro w _; go_simp
  try simp only [List.getElem_toArray, List.getElem_cons_succ, List.getElem_cons_zero, Act.put, List.setIfInBounds_toArray, List.set]
  refine wpAnyH_take (i := 3) (v := .slice p1 l1 c1) rfl (by kernel_rfl) (by kernel_rfl) (by kernel_rfl) (fun _ _ _ h => h) (Or.inl ⟨by rfl, ?_⟩) hSd ?_
  · intro w _; go_simp
  try simp only [List.getElem_toArray, List.getElem_cons_succ, List.getElem_cons_zero, Act.put, List.setIfInBounds_toArray, List.set]
  refine wpAnyH_take (i := 6) (v := .slice (some ⟨b, o, none⟩) (m + 4 : Nat) cap) rfl (by kernel_rfl) (by kernel_rfl) (by kernel_rfl) (fun _ _ _ h => h) (Or.inl ⟨by rfl, ?_⟩) hSd ?_
  · intro w _; go_simp
  try simp only [List.getElem_toArray, List.getElem_cons_succ, List.getElem_cons_zero, Act.put, List.setIfInBounds_toArray, List.set]
  refine wpAnyH_take (i := 7) (v := .int .i64 m) rfl (by kernel_rfl) (by kernel_rfl) (by kernel_rfl) (fun _ _ _ h => h) (Or.inl ⟨by rfl, ?_⟩) hSd ?_
  · intro w _; go_simp
  try simp only [List.getElem_toArray, List.getElem_cons_succ, List.getElem_cons_zero, Act.put, List.setIfInBounds_toArray, List.set]
  refine wpAnyH_take (i := 8) (v := .slice (some ⟨b, o + m, none⟩) 4 c4) rfl (by kernel_rfl) (by kernel_rfl) (by kernel_rfl) (fun _ _ _ h => h) (Or.inl ⟨by rfl, ?_⟩) hSd ?_
  · intro w _; go_simp
  try simp only [List.getElem_toArray, List.getElem_cons_succ, List.getElem_cons_zero, Act.put, List.setIfInBounds_toArray, List.set]
  refine wpAnyH_take (i := 9) (v := .pointer (some ⟨b, o + m, none⟩)) rfl (by kernel_rfl) (by kernel_rfl) (by kernel_rfl) (fun _ _ _ h => h) (Or.inl ⟨by rfl, ?_⟩) hSd ?_
  · intro w _; go_simp
  try simp only [List.getElem_toArray, List.getElem_cons_succ, List.getElem_cons_zero, Act.put, List.setIfInBounds_toArray, List.set]
  refine wpAnyH_take (i := 10) (v := .agg (tl.map cu8).toArray) rfl (by kernel_rfl) (by kernel_rfl) (by kernel_rfl) (fun _ _ _ h => h) (Or.inl ⟨by rfl, fun w hw => exec_load _ _ 66 _ rfl b (o + m) rfl _ (load4 hw.rest HD.out)⟩) hSd ?_
  try simp only [List.getElem_toArray, List.getElem_cons_succ, List.getElem_cons_zero, Act.put, List.setIfInBounds_toArray, List.set]
  refine wpAnyH_one 4 _ rfl (by kernel_rfl) (by rfl) (fun K hK => ?_)
  go_simp
  refine (sum_any p p1 l1 c1 hd1 w0 ((hp.below hSd.below).mono hSd.below.size) ((hB1'.below hSd.below).mono hSd.below.size)).mono ?_
  rintro e w1 ⟨rfl, hb1⟩
  have hS1 := hSd.next hb hb1
  refine hK _ _ hS1 ?_
  clear hK K
  try simp only [List.getElem_toArray, List.getElem_cons_succ, List.getElem_cons_zero, Act.put, List.setIfInBounds_toArray, List.set]
  refine wpAnyH_one 5 _ rfl (by kernel_rfl) (by rfl) (fun K hK => ?_)
  go_simp
  refine (bytes_any _ w1).mono ?_
  rintro e w2 ⟨rv, Hrv, rfl, hb2⟩
  have hS2 := hS1.next hb hb2
  have heq : ∀ w : World, (binOp .eql 66 (.agg rv) (.agg (tl.map cu8).toArray)).run Try.prog w = .ok (.bool (decide (le4 (Cr.sum hd1) = tl))) w := fun w => by rw [Hrv.out]; exact eql4 _ _ rfl HD.out w
  refine hK _ _ hS2 ?_
  clear hK K
  try simp only [List.getElem_toArray, List.getElem_cons_succ, List.getElem_cons_zero, Act.put, List.setIfInBounds_toArray, List.set]
  refine wpAnyH_take (i := 11) (v := .bool (decide (le4 (Cr.sum hd1) = tl))) rfl (by kernel_rfl) (by kernel_rfl) (by kernel_rfl) (fun _ _ _ h => h) (Or.inl ⟨by rfl, ?_⟩) hS2 ?_
  · intro w _; go_simp
  try simp only [List.getElem_toArray, List.getElem_cons_succ, List.getElem_cons_zero, Act.put, List.setIfInBounds_toArray, List.set]
  refine wpAnyH_take (i := 12) (v := .bool (decide (le4 (Cr.sum hd1) = tl))) rfl (by kernel_rfl) (by kernel_rfl) (by kernel_rfl) (fun _ _ _ h => h) (Or.inl ⟨by rfl, ?_⟩) hS2 ?_
  · intro w _; go_simp
  try simp only [List.getElem_toArray, List.getElem_cons_succ, List.getElem_cons_zero, Act.put, List.setIfInBounds_toArray, List.set]
  refine wpAnyH_done (by kernel_rfl) ?_ _
  go_wp2
  go_ret
  exact ⟨by rw [E.out]; rfl, hS2.below⟩

theorem fits_any (p bp : Option Addr) (len cap : Nat) (bs : List UInt8) (w : World) (hp : TabOk w.heap.size w p) (hB : Bytes w.heap.size w bp len cap bs) :
    Calls Try.prog 41 #[.pointer p, .slice bp len cap] w (SayPost (fitsB bs) w) := by
  by_cases h : len < 4
  · exact fits_short p bp len cap _ bs w hB h
  · obtain ⟨m, rfl⟩ : ∃ m, len = m + 4 := ⟨len - 4, by omega⟩
    obtain ⟨b, o, rfl, hb⟩ : ∃ b o, bp = some ⟨b, o, none⟩ ∧ b < w.heap.size := by
      rcases hB.lies with h1 | ⟨b, o, h1, h2, _⟩
      · omega
      · exact ⟨b, o, h1, h2⟩
    exact fits_long p b o m cap bs w hp hb hB

/-- 'Fits', by what comes of all bytes. -/
theorem fitsB_append (a tl : List UInt8) (h : tl.length = 4) : fitsB (a ++ tl) = decide (le4 (Cr.sum a) = tl) := by
  unfold fitsB
  have e : (a ++ tl).length - 4 = a.length := by rw [List.length_append, h]; omega
  rw [e, List.take_left', List.drop_left', decide_eq_true (by rw [List.length_append]; omega), Bool.true_and]
  · rfl
  · rfl
end Go.Proofs.Ytakejggofghblaa
