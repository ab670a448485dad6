/-
  slices.SortFunc at changes: a row of changes with unlike numbers ends rising.
-/
import Derived.Test.YtjkkbceddbkejaaGreatDoorBkShelf
import Derived.Test.YtjkkbceddbkejaaGreatDoorBkMath
import Derived.Test.YtjkkbceddbkejaaGreatDoorJPrb
set_option linter.unusedSimpArgs false
set_option linter.unusedVariables false
namespace Go.Proofs.YtjkkbceddbkejaaGreatDoor
open Go.RowKit Sh Go.Sort Go.Lib

instance : Inhabited Chg := ⟨⟨0, []⟩⟩
/-- What the sort's words speak of: numbers below 2^40, 64 bytes. -/
def encC (c : Chg) : List Value := .int .i64 (min c.at_ 1099511627776 : Nat) :: ((c.what ++ List.replicate 64 0).take 64).map cu8
def cfC (x y : Chg) : Int := (min x.at_ 1099511627776 : Nat) - (min y.at_ 1099511627776 : Nat)
theorem encC_len (c : Chg) : (encC c).length = 65 := by simp [encC]
theorem encC_one (c : Chg) : ∀ v ∈ encC c, v.oneCell' = true := fun v hv => by
  simp only [encC, List.mem_cons, List.mem_map] at hv
  rcases hv with rfl | ⟨x, _, rfl⟩ <;> rfl
theorem encC_eq {c : Chg} (h : c.what.length = 64) (ha : c.at_ ≤ 1099511627776) : encC c = chgC c := by
  unfold encC chgC
  rw [Nat.min_eq_left ha, List.take_left' h]
theorem ltC (x y : Chg) : ltOf cfC x y = decide (min x.at_ 1099511627776 < min y.at_ 1099511627776) := by
  unfold ltOf cfC
  by_cases h : min x.at_ 1099511627776 < min y.at_ 1099511627776
  · rw [decide_eq_true h]; exact decide_eq_true (by omega)
  · rw [decide_eq_false h]; exact decide_eq_false (by omega)
theorem swoC : SWO (ltOf cfC) where
  irrefl x := by rw [ltC]; simp
  trans x y z h1 h2 := by rw [ltC] at *; simp at *; omega
  ntrans x y z h1 h2 := by rw [ltC] at *; simp at *; omega
set_option maxRecDepth 100000 in
/-- The closure: x.At - y.At. -/
theorem cmp_any (x y : Chg) (W : World) : Calls Tryz.prog 123 #[.agg (encC x).toArray, .agg (encC y).toArray] W fun e w' => e = .returned (.int .i64 (cfC x y)) ∧ ∃ q os', w' = grow (W.drewN q) os' := by
  obtain ⟨a, Ha⟩ : ∃ a : Array Value, Hid (a = (encC x).toArray) := ⟨_, rfl⟩
  obtain ⟨b, Hb⟩ : ∃ b : Array Value, Hid (b = (encC y).toArray) := ⟨_, rfl⟩
  obtain ⟨u, hu⟩ : ∃ u : Nat, min x.at_ 1099511627776 = u := ⟨_, rfl⟩
  obtain ⟨v, hv⟩ : ∃ v : Nat, min y.at_ 1099511627776 = v := ⟨_, rfl⟩
  have hc : cfC x y = (u : Int) - (v : Int) := by unfold cfC; rw [hu, hv]
  have hu2 : u ≤ 1099511627776 := by rw [← hu]; exact Nat.min_le_right _ _
  have hv2 : v ≤ 1099511627776 := by rw [← hv]; exact Nat.min_le_right _ _
  have hw : IntKind.i64.wrap ((u : Int) - (v : Int)) = (u : Int) - (v : Int) := IntWalk.i64_in _ (by omega)
  have c1 : ((W.alloc (.cells a 194)).alloc (.cells b 194)).cell? ⟨W.heap.size, 0, none⟩ = some (.int .i64 (u : Nat)) := by
    have h1 : ((W.alloc (.cells a 194)).alloc (.cells b 194)).heap[W.heap.size]? = some (.cells a 194 (0, 0)) := by
      rw [Below.heap_alloc _ _ _ (by simp)]; exact heap_alloc_new _ _
    rw [cell_of_row _ W.heap.size 0 _ _ _ h1, Ha.out]
    simp [encC, hu]
  have c2 : ((W.alloc (.cells a 194)).alloc (.cells b 194)).cell? ⟨W.heap.size + 1, 0, none⟩ = some (.int .i64 (v : Nat)) := by
    have h1 : ((W.alloc (.cells a 194)).alloc (.cells b 194)).heap[W.heap.size + 1]? = some (.cells b 194 (0, 0)) := by
      have := heap_alloc_new (W.alloc (.cells a 194)) (.cells b 194)
      simpa using this
    rw [cell_of_row _ (W.heap.size + 1) 0 _ _ _ h1, Hb.out]
    simp [encC, hv]
  rw [hc, ← Ha.out, ← Hb.out]
  clear hu hv hc
  go_enter Tryz.func123, Tryz.ntmps123
  go_wp2
  go_ret
  exact ⟨rfl, 0, _, by rw [alloc_eq_grow, alloc_eq_grow, grow_grow]; rfl⟩
def SortP (b : Nat) (l : List Chg) (w : World) (e : Ending) (w' : World) : Prop := ∃ l' : List Chg, e = .returned (.tuple #[]) ∧ l'.Perm l ∧ Rising l' ∧ Chgs w'.heap.size w' (some ⟨b, 0, none⟩) l' ∧ w.grownBy w' (some b)
theorem grow_grownBy (enc : Chg → List Value) (w : World) (blk off n : Nat) (d : Array Chg) (os : Array Obj) : w.grownBy (sortWorldK enc 65 w blk off n d os) (some blk) := by
  refine ⟨rfl, rfl, rfl, size_sortWorldK_c _ _ _ _ _ _ _ _, fun i hi hne => ?_⟩
  have hib : i ≠ blk := fun e => hne (by rw [e])
  have h1 : (putRowK enc 65 (Sort.ahead w n) blk off d).heap[i]? = w.heap[i]? := by
    show (mapBlock (Sort.ahead w n) blk _).heap[i]? = _
    simp only [mapBlock, Array.getElem?_modify]
    rw [if_neg (fun e => hib e.symm)]
    rfl
  have hs : i < (putRowK enc 65 (Sort.ahead w n) blk off d).heap.size := by
    rcases Nat.lt_or_ge i (putRowK enc 65 (Sort.ahead w n) blk off d).heap.size with h | h
    · exact h
    · rw [Array.getElem?_eq_none h] at h1
      rw [Array.getElem?_eq_getElem hi] at h1
      cases h1
  show (_ ++ os)[i]? = _
  rw [Array.getElem?_append_left hs]
  exact h1
/-- The sort. -/
theorem sort_any (b cap : Nat) (l : List Chg) (w : World) (hb : b < w.heap.size) (hl : ∀ c ∈ l, c.what.length = 64 ∧ c.at_ ≤ 1099511627776) (hn : l.length ≤ 4096) (hd : l.Pairwise fun x y => x.at_ ≠ y.at_)
    (hH : ∀ i c, l[i]? = some c → w.rangeAt b (i * 65) (chgC c)) (hf : ∀ j, w.frozen? ⟨b, j, none⟩ = false) :
    Calls Tryz.prog 122 #[.slice (some ⟨b, 0, none⟩) l.length cap, .func (.func 123) #[] #[]] w (SortP b l w) := by
  have eg : ∀ args w, (callFunc 123 args).run Tryz.prog w = .ok (.enter 123 args) w := enters_of Tryz.func123 (by kernel_rfl) rfl
  have hcmp : CmpLays Tryz.prog 123 #[] encC 65 cfC b 0 l.toArray.size w := fun m os dk _ x y => cmp_any x y _
  have hK : HoldsK encC 65 w b 0 l.toArray := fun j hj => by
    rw [size_flatK, List.size_toArray] at hj
    refine ⟨?_, by rw [Nat.zero_add]; exact hf j⟩
    have hi : j / 65 < l.length := by omega
    rw [get_flatK _ _ _ _ (by simpa using hj), Nat.zero_add]
    have hc := hH (j / 65) l[j / 65] (List.getElem?_eq_getElem hi)
    have hm := hl l[j / 65] (List.getElem_mem hi)
    have hlt : j % 65 < (chgC l[j / 65]).length := by rw [chgC_len hm.1]; exact Nat.mod_lt _ (by omega)
    have h1 := hc (j % 65) ((chgC l[j / 65])[j % 65]) (List.getElem?_eq_getElem hlt)
    rw [show j / 65 * 65 + j % 65 = j by omega] at h1
    rw [h1]
    have e : l.toArray[j / 65]! = l[j / 65] := by simp [hi]
    rw [e, encC_eq hm.1 hm.2]
    simp [hlt]
  have hcon := AnyQ.slices_SortFunc Tryz.sortChg 65 (fun w => by kernel_rfl) (fun w => by kernel_rfl) encC encC_len encC_one cfC swoC 123 #[] b 0 cap l.toArray w eg hcmp hK hb (by rw [List.size_toArray]; omega)
  rw [List.size_toArray] at hcon
  refine hcon.mono ?_
  rintro e w' ⟨rfl, d', n, os, hp, hs, rfl⟩
  have hsz : d'.size = l.length := by rw [hp.1, List.size_toArray]
  have hperm : d'.toList.Perm l := by
    have := hp.2.2
    rw [← hsz, Array.extract_size] at this
    rw [show (l.toArray.extract 0 d'.size) = l.toArray by rw [hsz, ← List.size_toArray, Array.extract_size]] at this
    simpa using this
  have hmem : ∀ c ∈ d'.toList, c.what.length = 64 ∧ c.at_ ≤ 1099511627776 := fun c hc => hl c (hperm.mem_iff.1 hc)
  have hHold := holdsK_sortWorldK encC 65 w b 0 n l.toArray d' os hb hK (by rw [hsz, List.size_toArray])
  refine ⟨d'.toList, rfl, hperm, ?_, .inr ⟨b, rfl, lt_sortWorldK encC 65 w b 0 n d' os hb, fun i c hi j v hj => ?_⟩, grow_grownBy encC w b 0 n d' os⟩
  · refine List.pairwise_iff_getElem.2 fun i j hi hj hij => ?_
    have hij' : j < d'.size := by simpa using hj
    have h1 := hs i j (Nat.zero_le _) hij (by omega)
    rw [getElem!_pos d' j hij', getElem!_pos d' i (by omega), ltC] at h1
    have m1 := hmem _ (List.getElem_mem hi); have m2 := hmem _ (List.getElem_mem hj)
    have hne : (d'.toList[i]).at_ ≠ (d'.toList[j]).at_ := by
      have hdp := (hperm.pairwise_iff (R := fun x y : Chg => x.at_ ≠ y.at_) (fun h e => h e.symm)).2 hd
      exact List.pairwise_iff_getElem.1 hdp i j hi hj hij
    simp only [Array.getElem_toList] at hne m1 m2 ⊢
    simp only [decide_eq_false_iff_not] at h1
    omega
  · have hi' : i < d'.size := by
      have := (List.getElem?_eq_some_iff.1 hi).1; simpa using this
    obtain rfl : d'[i] = c := by
      have := (List.getElem?_eq_some_iff.1 hi).2; simpa using this
    have hm := hmem d'[i] (by simp)
    have hj65 : j < 65 := by
      rcases Nat.lt_or_ge j 65 with h7 | h7
      · exact h7
      · rw [List.getElem?_eq_none (by rw [chgC_len hm.1]; exact h7)] at hj; cases hj
    have h2 := (hHold (i * 65 + j) (by rw [size_flatK]; omega)).1
    rw [Nat.zero_add, get_flatK _ _ _ _ (by omega), show (i * 65 + j) / 65 = i by omega, show (i * 65 + j) % 65 = j by omega, getElem!_pos d' i hi', encC_eq hm.1 hm.2] at h2
    rw [h2]
    have := List.getElem?_eq_some_iff.1 hj
    obtain ⟨hjl, rfl⟩ := this
    simp [hjl]
end Go.Proofs.YtjkkbceddbkejaaGreatDoor
