/-
  slices.DeleteFunc at ints: all that are a number are gone.
-/
import Derived.Test.YtkpogmigfjmacaaPeSlices
set_option linter.unusedSimpArgs false
set_option linter.unusedVariables false
namespace Go.Proofs.Ytkpogmigfjmacaa
open Go.RowKit

/-- What is left of ints where n is gone. -/
def keepN (n : Int) (l : List Int) : List Int := l.filter fun q => !eqN n q
/-- The list while it is rewritten: i of the first j are kept. -/
def DelInv (n : Int) (l M : List Int) (i j : Nat) : Prop := M.length = l.length ∧ M.take i = keepN n (l.take j) ∧ (∀ t, j ≤ t → M[t]? = l[t]?) ∧ i < j
theorem keepN_take {n : Int} {l : List Int} {j : Nat} {q : Int} (hq : l[j]? = some q) : keepN n (l.take (j + 1)) = keepN n (l.take j) ++ (if eqN n q = true then [] else [q]) := by
  unfold keepN
  rw [List.take_add_one, hq]
  cases h : eqN n q <;> simp [h]
theorem DelInv.skip {n : Int} {l M : List Int} {i j : Nat} {q : Int} (h : DelInv n l M i j) (hq : l[j]? = some q) (he : eqN n q = true) : DelInv n l M i (j + 1) :=
  ⟨h.1, by rw [keepN_take hq, if_pos he, List.append_nil]; exact h.2.1, fun t ht => h.2.2.1 t (by omega), by have := h.2.2.2; omega⟩
theorem DelInv.keep {n : Int} {l M : List Int} {i j : Nat} {q : Int} (h : DelInv n l M i j) (hq : l[j]? = some q) (he : eqN n q = false) : DelInv n l (M.set i q) (i + 1) (j + 1) := by
  obtain ⟨h1, h2, h3, h4⟩ := h
  have hj : j < l.length := (List.getElem?_eq_some_iff.1 hq).1
  refine ⟨by simpa using h1, ?_, fun t ht => ?_, by omega⟩
  · rw [keepN_take hq, if_neg (by simp [he]), ← h2, List.take_add_one]
    congr 1
    · rw [List.take_set_of_le (by omega)]
    · rw [List.getElem?_set_self (by omega)]; rfl
  · rw [List.getElem?_set_ne (by omega)]; exact h3 t (by omega)

theorem heap_setCells (g : Nat) (e : TypeId) : ∀ (vs : List Value) (o : Nat) (w : World) (cur : Array Value), w.heap[g]? = some (.cells cur e (0, 0)) → ∃ cur' : Array Value, (w.setCells g o vs).heap[g]? = some (.cells cur' e (0, 0)) ∧ cur'.size = cur.size ∧ ∀ t, t < o → cur'[t]? = cur[t]?
  | [], _, _, cur, h => ⟨cur, h, rfl, fun _ _ => rfl⟩
  | v :: r, o, w, cur, h => by
    obtain ⟨c, h1, h2, h3⟩ := heap_setCells g e r (o + 1) (w.setCell ⟨g, o, none⟩ v) (cur.setIfInBounds o v) (heap_setCell_same w g o cur e v h)
    refine ⟨c, h1, by simpa using h2, fun t ht => ?_⟩
    rw [h3 t (by omega), Array.getElem?_setIfInBounds_ne (by omega)]
theorem own_cut {B g len cap : Nat} {w : World} {M : List Int} (h : OwnI B w (.slice (some ⟨g, 0, none⟩) len cap) M) (i : Nat) (hi : i ≤ M.length) (vs : List Value) :
    OwnI B (w.setCells g i vs) (.slice (some ⟨g, 0, none⟩) i cap) (M.take i) := by
  rcases h.2 with ⟨h', _⟩ | ⟨g', cap', cur, h', hb, hg, hnc, hcm, hcs, htake⟩
  · simp at h'
  · cases h'
    obtain ⟨c, h1, h2, h3⟩ := heap_setCells g 3 vs i w cur hg
    have hlen : (M.take i).length = i := by rw [List.length_take]; omega
    refine ⟨by simp [intsV], .inr ⟨g, cap, c, by rw [hlen], hb, h1, by omega, hcm, by omega, ?_⟩⟩
    apply List.ext_getElem?
    intro t
    by_cases ht : t < i
    · have e1 : (intsV M)[t]? = cur.toList[t]? := by rw [← htake, List.getElem?_take_of_lt (by omega)]
      have e2 : (intsV (M.take i))[t]? = (intsV M)[t]? := by unfold intsV; rw [List.getElem?_map, List.getElem?_map, List.getElem?_take_of_lt ht]
      rw [List.getElem?_take_of_lt (by omega), e2, e1, Array.getElem?_toList, Array.getElem?_toList]
      exact h3 t ht
    · rw [List.getElem?_eq_none (by rw [List.length_take]; omega), List.getElem?_eq_none (by unfold intsV; rw [List.length_map]; omega)]
theorem grown_setCells (g : Nat) : ∀ (vs : List Value) (o : Nat) (w : World), w.grownBy (w.setCells g o vs) (some g)
  | [], _, w => World.grownBy.refl w _
  | v :: r, o, w => by
    have h1 : w.grownBy (w.setCell ⟨g, o, none⟩ v) (some g) := ⟨rfl, rfl, rfl, by simp, fun k _ hk => heap_setCell_other w ⟨g, o, none⟩ k v (fun e => hk (by simp [e]))⟩
    have h2 := grown_setCells g r (o + 1) (w.setCell ⟨g, o, none⟩ v)
    exact ⟨h2.os.trans h1.os, h2.tape.trans h1.tape, h2.output.trans h1.output, Nat.le_trans h1.size h2.size, fun k hk hne => (h2.block k (Nat.lt_of_lt_of_le hk h1.size) hne).trans (h1.block k hk hne)⟩
theorem grown_trans {w w1 w2 : World} {r : Option Nat} (h1 : w.grownBy w1 r) (h2 : w1.grownBy w2 r) : w.grownBy w2 r :=
  ⟨h2.os.trans h1.os, h2.tape.trans h1.tape, h2.output.trans h1.output, Nat.le_trans h1.size h2.size, fun k hk hne => (h2.block k (Nat.lt_of_lt_of_le hk h1.size) hne).trans (h1.block k hk hne)⟩
theorem own_store {B g len cap : Nat} {w : World} {M : List Int} (h : OwnI B w (.slice (some ⟨g, 0, none⟩) len cap) M) (hl : M.length = len) (i : Nat) (q : Int) :
    OwnI B (w.setCell ⟨g, i, none⟩ (.int .i64 q)) (.slice (some ⟨g, 0, none⟩) len cap) (M.set i q) ∧ w.grownBy (w.setCell ⟨g, i, none⟩ (.int .i64 q)) (some g) := by
  have h' : w.ownsRow B 3 1 (.slice (some ⟨g, 0, none⟩) len cap) len (intsV M) := by rw [← hl]; unfold OwnI at h; rw [← hl] at h; exact h
  obtain ⟨h1, h2⟩ := h'.stored i (.int .i64 q)
  refine ⟨?_, h2⟩
  unfold OwnI
  rw [List.length_set, hl, intsV, List.map_set]
  exact h1
theorem own_cell {B g len cap : Nat} {w : World} {M : List Int} (h : OwnI B w (.slice (some ⟨g, 0, none⟩) len cap) M) (hl : M.length = len) {i : Nat} {q : Int} (hq : M[i]? = some q) :
    w.cell? ⟨g, i, none⟩ = some (.int .i64 q) ∧ w.frozen? ⟨g, i, none⟩ = false := by
  have h' : w.ownsRow B 3 1 (.slice (some ⟨g, 0, none⟩) len cap) len (intsV M) := by rw [← hl]; unfold OwnI at h; rw [← hl] at h; exact h
  have hi : i < len := by rw [← hl]; exact (List.getElem?_eq_some_iff.1 hq).1
  refine ⟨by rw [h'.cellAt i (by omega)]; unfold intsV; rw [List.getElem?_map, hq]; rfl, h'.frozenAt i⟩
theorem zeroInt (w : World) : (zeroValue 3).run Try.prog w = .ok (.int .i64 0) w := by kernel_rfl

def DelP (B : Nat) (w : World) (g : Option Nat) (l : List Int) (e : Ending) (w' : World) : Prop :=
  ∃ v, e = .returned v ∧ OwnI B w' v l ∧ w.grownBy w' g

set_option maxHeartbeats 2000000 in
set_option maxRecDepth 100000 in
theorem del_any (v : Value) (l : List Int) (w : World) (B0 : Nat) (hO : OwnI B0 w v l) (hm : l.length ≤ 6) (n : Int) (B : Nat) (hc : w.cell? ⟨B, 0, none⟩ = some (.int .i64 n)) (hB : B < B0) :
    Calls Try.prog 31 #[v, .func (.func 32) #[] #[.pointer (some ⟨B, 0, none⟩)]] w (DelP B0 w v.ownBlock (keepN n l)) := by
  have hidx : Hid (∀ A cap, v = .slice A l.length cap → Calls Try.prog 48 #[v, .func (.func 32) #[] #[.pointer (some ⟨B, 0, none⟩)]] w (fun e w' => e = .returned (.int .i64 (idxB (eqN n) l)) ∧ w = w')) :=
    Lib.hid fun A cap hv => by
      obtain ⟨A', cap', hv', hR⟩ := hO.form
      rw [hv'] at hv ⊢
      exact indexI_any A' l.length cap' l w rfl hm hR n B hc
  rcases idxB_cases (eqN n) l with ⟨hi, hk⟩ | ⟨k0, hk0, hi, hk1, hk2⟩
  · obtain ⟨A, cap, rfl, hR⟩ := hO.form
    have hix := hidx.out A cap rfl
    rw [hi] at hix
    have Hix := Lib.hid hix; have HO := Lib.hid hO; have HK : Hid (keepN n l = l) := Lib.hid hk
    clear hix hO hR hk hi hc hidx
    go_enter Try.func31, Try.ntmps31
    go_wp2_with (go_at_call 48; refine Hix.out.mono ?_; rintro e w3 ⟨rfl, rfl⟩)
    go_ret
    exact ⟨_, rfl, by rw [HK.out]; exact HO.out, World.grownBy.refl w _⟩
  · rcases hO.2 with ⟨rfl, h0⟩ | ⟨g, cap, cur, rfl, hB0, hg, hlc, hcm, _, _⟩
    · omega
    have hix := hidx.out _ cap rfl
    rw [hi] at hix
    have Hix := Lib.hid hix; have HO := Lib.hid hO
    have hne : B ≠ g := by omega
    have HI : Hid (DelInv n l l k0 (k0 + 1)) := Lib.hid ⟨rfl, hk2.symm, fun _ _ => rfl, by omega⟩
    have hne1 : ((k0 : Int) == -1) = false := by simp
    obtain ⟨L, HL⟩ : ∃ L, Hid (l.length = L) := ⟨_, Lib.hid rfl⟩
    rw [HL.out] at hm hk0 hlc
    have Hc := Lib.hid hc
    have hix2 := Hix.out; rw [HL.out] at hix2
    have HO2 := HO.out; rw [HL.out] at HO2
    have Hix2 := Lib.hid hix2; have HO3 := Lib.hid HO2
    clear hix hO hk1 hk2 hi hc hidx hg Hix HO hix2 HO2
    rw [HL.out]
    have hgl : g < w.heap.size := (HO3.out.lt g rfl).2
    go_enter Try.func31, Try.ntmps31
    go_wp2_with (go_at_call 48; refine Hix2.out.mono ?_; rintro e w3 ⟨rfl, rfl⟩)
    go_loopg [5, 6, 7] 6 (fun m s5 s6 _ wr => ∃ (i j : Nat) (M : List Int), L - j ≤ m ∧ j ≤ L ∧ s5 = .int .i64 i ∧ s6 = .int .i64 j ∧ OwnI B0 wr (.slice (some ⟨g, 0, none⟩) L cap) M ∧ w.grownBy wr (some g) ∧ Hid (DelInv n l M i j))
    case atStart => exact ⟨k0, k0 + 1, l, by omega, by omega, rfl, by go_num, HO3.out, World.grownBy.refl w _, HI⟩
    case round =>
      obtain ⟨i, j, M, hmj, hj, rfl, rfl, hM, hgr, hI⟩ := hrel
      have hMl : M.length = L := by rw [← HL.out]; exact hI.out.1
      have hij := hI.out.2.2.2
      have hcB : wr.cell? ⟨B, 0, none⟩ = some (.int .i64 n) := hgr.cell Hc.out (by simp; omega)
      by_cases hlt : j < L
      · have hltz : (j : Int) < (L : Int) := by omega
        obtain ⟨q, hq⟩ : ∃ q, l[j]? = some q := ⟨_, List.getElem?_eq_getElem (by rw [HL.out]; exact hlt)⟩
        have hMj : M[j]? = some q := by rw [hI.out.2.2.1 j (Nat.le_refl _)]; exact hq
        obtain ⟨cj, _⟩ := own_cell hM hMl hMj
        obtain ⟨r, hr⟩ : ∃ r, M[i]? = some r := ⟨_, List.getElem?_eq_getElem (by omega)⟩
        obtain ⟨ci, fi⟩ := own_cell hM hMl hr
        obtain ⟨hM2, hg2⟩ := own_store hM hMl i q
        have hg3 := grown_trans hgr hg2
        have hcall := cloAct_any q n B wr hcB
        have HQ := Lib.hid hq; have HM := Lib.hid hM; have HM2 := Lib.hid hM2; have HG := Lib.hid hgr; have HG3 := Lib.hid hg3
        clear hq hMj hM hM2 hgr hg2 hg3 hr hcB hMl
        cases hp : q == n with
        | true =>
          rw [hp] at hcall
          have HCall := Lib.hid hcall
          have HP : Hid (eqN n q = true) := Lib.hid hp
          clear hcall hp
          go_wp2_with (first
            | (go_at_call 32; refine HCall.out.mono ?_; rintro e w3 ⟨rfl, rfl⟩))
          go_roundg (L - (j + 1))
          case measure => omega
          case rel => exact ⟨i, j + 1, M, Nat.le_refl _, by omega, rfl, by go_num, HM.out, HG.out, Lib.hid (hI.out.skip HQ.out HP.out)⟩
        | false =>
          rw [hp] at hcall
          have HCall := Lib.hid hcall
          have HP : Hid (eqN n q = false) := Lib.hid hp
          clear hcall hp
          go_wp2_with (first
            | (go_at_call 32; refine HCall.out.mono ?_; rintro e w3 ⟨rfl, rfl⟩))
          go_roundg (L - (j + 1))
          case measure => omega
          case rel => exact ⟨i + 1, j + 1, M.set i q, Nat.le_refl _, by omega, by go_num, by go_num, HM2.out, HG3.out, Lib.hid (hI.out.keep HQ.out HP.out)⟩
      · obtain rfl : j = L := by omega
        have hltz : ¬ ((j : Int) < (j : Int)) := by omega
        have hci : ¬ cap = i := by omega
        have hcl : ∀ ty, (Builtin.clear_ #[31] ty #[.slice (some ⟨g, i, none⟩) (j - i) (cap - i)]).run Try.prog wr = .ok (.tuple #[]) (wr.setCells g i (List.replicate (j - i) (.int .i64 0))) :=
          fun ty => Lib.run_clear_slice wr 31 3 ty _ Try.underlying31 zeroInt rfl rfl g i _ _ (by omega)
            (fun t ht => by
              obtain ⟨r, hr⟩ : ∃ r, M[i + t]? = some r := ⟨_, List.getElem?_eq_getElem (by omega)⟩
              rw [(own_cell hM hMl hr).1]; rfl)
            (fun t ht => by
              obtain ⟨r, hr⟩ : ∃ r, M[i + t]? = some r := ⟨_, List.getElem?_eq_getElem (by omega)⟩
              exact (own_cell hM hMl hr).2)
        have hcut := own_cut hM i (by omega) (List.replicate (j - i) (.int .i64 0))
        have hgc := grown_trans hgr (grown_setCells g (List.replicate (j - i) (.int .i64 0)) i wr)
        have htk : M.take i = keepN n l := by rw [hI.out.2.1, List.take_of_length_le (by rw [HL.out]; exact Nat.le_refl _)]
        rw [htk] at hcut
        have HCut := Lib.hid hcut; have HGc := Lib.hid hgc
        clear hM hgr hcut hgc htk hcB hMl hI
        go_wp2
        go_ret
        exact ⟨_, rfl, HCut.out, HGc.out⟩
end Go.Proofs.Ytkpogmigfjmacaa
