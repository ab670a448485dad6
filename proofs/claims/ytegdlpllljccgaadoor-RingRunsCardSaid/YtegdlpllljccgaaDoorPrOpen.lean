/-
  The program's ring: Open, what is found.
-/
import Derived.Test.YtegdlpllljccgaaDoorPrBad
set_option linter.unusedSimpArgs false
set_option linter.unusedVariables false
namespace Go.Proofs.YtegdlpllljccgaaDoor
open Go.RowKit Sh Go.Extern.Stop Go.Stop Go.Extern

theorem row_base {w : World} {B C : Nat} {e : TypeId} {s n : Nat} {v : Value} {xs : List Value} (h : w.ownsRow B e s v n xs) (hC : C ≤ B) : w.ownsRow C e s v n xs :=
  ⟨h.1, h.2.imp id fun ⟨g, cap, cur, e, hb, r⟩ => ⟨g, cap, cur, e, Nat.le_trans hC hb, r⟩⟩
section
variable {g gd first n used : Nat} {m : Mk} {S : St} {F : Nat → Prop} {w w' : World}
def ringAgg (gd first n : Nat) (m : Mk) : Array Value := ringCells gd first n m 0
theorem fill_ring (cells : Array Value) (hc : cells.size = 38) (hc37 : cells[37]? = some (.int .i64 0)) (a b c : Value) (ha : a.cells = #[a]) (hb : b.cells = #[b]) (hcc : c.cells = #[c]) (p : List Value) (hp : p.length = 34) (places : Nat → Option (Nat × Nat)) (h0 : places 0 = some (0, 1)) (h1 : places 1 = some (1, 1)) (h2 : places 2 = some (2, 1)) (h3 : places 3 = some (3, 34)) :
    Instr.fill places cells [(0, a), (1, b), (2, c), (3, .agg p.toArray)] = some (a :: b :: c :: (p ++ [.int .i64 0])).toArray := by
  have e1 : (Value.agg p.toArray).cells = p.toArray := rfl
  simp only [Instr.fill, h0, h1, h2, h3, ha, hb, hcc, e1]
  have s1 : ∀ (x : Value) (k : Nat) (cs : Array Value), (#[x] : Array Value).zipIdx.foldl (fun cs x => match x with | (c, j) => cs.setIfInBounds (k + j) c) cs = cs.setIfInBounds k x := fun x k cs => by
    show cs.setIfInBounds (k + 0) x = _
    rw [Nat.add_zero]
  rw [if_neg (by simp [hc]), s1, if_neg (by simp [hc]), s1, if_neg (by simp [hc]), s1, if_neg (by simp [hc, hp])]
  congr 1
  rw [← Array.foldl_toList, Array.toList_zipIdx]
  obtain ⟨hs, hk⟩ := Great.foldl_set 3 p 0 (((cells.setIfInBounds 0 a).setIfInBounds 1 b).setIfInBounds 2 c)
  apply Array.ext_getElem?
  intro k
  refine (hk k).trans ?_
  rw [Array.size_setIfInBounds, Array.size_setIfInBounds, Array.size_setIfInBounds, hc]
  by_cases hk0 : k = 0
  · subst hk0
    rw [if_neg (by omega), Array.getElem?_setIfInBounds, Array.getElem?_setIfInBounds, Array.getElem?_setIfInBounds]
    simp [hc]
  · by_cases hk1 : k = 1
    · subst hk1
      rw [if_neg (by omega), Array.getElem?_setIfInBounds, Array.getElem?_setIfInBounds]
      simp [hc]
    · by_cases hk2 : k = 2
      · subst hk2
        rw [if_neg (by omega), Array.getElem?_setIfInBounds]
        simp [hc]
      · obtain ⟨j, rfl⟩ : ∃ j, k = j + 3 := ⟨k - 3, by omega⟩
        by_cases hlt : j + 3 < 37
        · rw [if_pos (by omega), show j + 3 - (3 + 0) = j by omega]
          simp [List.getElem?_append_left (show j < p.length by omega)]
        · rw [if_neg (by omega)]
          by_cases h37 : j + 3 = 37
          · obtain rfl : j = 34 := by omega
            have e : (p ++ [Value.int .i64 0])[34]? = some (.int .i64 0) := by rw [List.getElem?_append_right (by omega), hp]; rfl
            rw [Array.getElem?_setIfInBounds, Array.getElem?_setIfInBounds, Array.getElem?_setIfInBounds, if_neg (by omega), if_neg (by omega), if_neg (by omega), hc37, List.getElem?_toArray]
            exact e.symm
          · rw [Array.getElem?_eq_none (by simp [hc]; omega), Array.getElem?_eq_none (by simp [hp]; omega)]
theorem built_ring (gd first n : Nat) (m : Mk) (h : m.last.length = 32) : Tryd.prog.built 98 [(0, .pointer (some ⟨gd, 0, none⟩)), (1, .int .i64 first), (2, .int .i64 n), (3, .agg (markCells m).toArray)] = some (ringCells gd first n m 0) := by
  have hu : (Tryd.prog.underlying 98).bind (fun d => match d with | .struct fs => fs.toList.mapM (fun f => (Tryd.prog.info? f.type).map fun i => (f.offset, i.size)) | _ => none) = some [(0, 1), (1, 1), (2, 1), (3, 34), (37, 1)] := by kernel_rfl
  have hin : (Tryd.prog.info? 98).map (fun i => (i.zero, i.size)) = some (some (.agg (Value.pointer none :: .int .i64 0 :: .int .i64 0 :: (zMark ++ [.int .i64 0])).toArray), 38) := by kernel_rfl
  obtain ⟨ti, hti, hz⟩ := Option.map_eq_some_iff.1 hin
  simp only [Prod.mk.injEq] at hz
  unfold Program.built
  rw [hti, Tryd.underlying98]
  rw [Tryd.underlying98] at hu
  simp only [Option.bind_some] at hu
  simp only [hz.1, hu]
  exact fill_ring _ (by simp [Value.cells, zMark, markCells]) (by rfl) (.pointer (some ⟨gd, 0, none⟩)) (.int .i64 first) (.int .i64 n) rfl rfl rfl (markCells m) (by simp [markCells, h]) _ rfl rfl rfl rfl
def OpenP (gd first n : Nat) (r : List (List Chg) × Mk × Nat) (w : World) (e : Ending) (w' : World) : Prop :=
  ∃ g v vs used, e = .returned (.tuple #[.pointer (some ⟨g, 0, none⟩), v, .nilIface]) ∧ w.heap.size ≤ g ∧ PrAt g gd first n r.2.1 used w' ∧ RingOk first n r.2.1 used ∧ n - used = r.2.2 ∧ w'.ownsRow w.heap.size 50 1 v r.1.length vs ∧ RecsOk w.heap.size w' vs r.1 ∧ Below w.heap.size w w'
set_option maxRecDepth 100000 in
set_option maxHeartbeats 4000000 in
/-- Open: what is found. -/
theorem open_any (hD : PD S F gd w) (hG : Good S) (hB : Byt S) (ho : S.off = false) (hin : first + n ≤ S.firm.length) (hn0 : 96 ≤ n) (hn1 : n ≤ 4096) (hpl : m.place < n) (hnum : m.num < 18446744073709551616) (hlast : m.last.length = 32) :
    Calls Tryd.prog 14 #[.pointer (some ⟨gd, 0, none⟩), .int .i64 first, .int .i64 n, .agg (markCells m).toArray] w (OpenP gd first n (openAll n (pgOf (imgB S) first n) n n m) w) := by
  have hD4 := hG.le
  have hO : RingOk first n m 0 := ⟨hn0, hn1, by omega, hpl, hnum, by omega⟩
  obtain ⟨mv, Hmv⟩ : ∃ mv : List Value, Hid (mv = markCells m) := ⟨_, rfl⟩
  rw [← Hmv.out]
  have hmvl : mv.length = 34 := by rw [Hmv.out]; simp [markCells, hlast]
  have hb1 := (Below.refl w.heap.size w).alloc (Nat.le_refl _) (.cells mv.toArray 25)
  have hbox : (w.alloc (.cells mv.toArray 25)).heap[w.heap.size]? = some (.cells mv.toArray 25 (0, 0)) := heap_alloc_new w _
  have c0 : (w.alloc (.cells mv.toArray 25)).cell? ⟨w.heap.size, 0, none⟩ = some (.int .i64 (m.place : Nat)) := by
    rw [cell_of_row _ w.heap.size 0 _ _ _ hbox, Hmv.out]; rfl
  have hs := pd_size (hD.below hb1)
  obtain ⟨D, hDl⟩ : ∃ D, S.firm.length = D := ⟨_, rfl⟩
  rw [hDl] at hs hD4
  have hin2 : first + n ≤ D := by rw [← hDl]; exact hin
  have w1 : IntKind.i64.wrap ((D : Int) - n) = (D : Int) - n := IntWalk.i64_in _ (by omega)
  have h4 : ¬ (D : Int) - n < first := by omega
  have HB := Lib.hid (built_ring gd first n m hlast)
  rw [← Hmv.out] at HB
  obtain ⟨rc, Hrc⟩ : ∃ rc : Array Value, Hid (rc = ringCells gd first n m 0) := ⟨_, rfl⟩
  rw [← Hrc.out] at HB
  have hmi : Hid ((Tryd.prog.info? 25).map (·.size) = some mv.toArray.size) := by rw [List.size_toArray, hmvl]; exact infoPMark
  have Hbox := Lib.hid hbox
  clear hbox hDl hmvl
  go_enter Tryd.func14, Tryd.ntmps14
  go_upto_region 4 with (first
    | (go_at_call 39; refine hs.mono ?_; rintro e w' ⟨rfl, rfl⟩)
    | (refine wpList_load_row rfl 25 _ rfl w.heap.size rfl 25 mv.toArray (0, 0) _ Hbox.out Tryd.underlying25 rfl hmi.out ?_)
    | (refine wpList_build_to rfl 98 _ rfl rc (Eq.trans (congrArg (Program.built _ _) (by simp [Act.eval, Act.put])) HB.out) ?_))
  have hb2 := hb1.alloc hb1.size (.cells rc 98)
  have hgA : ((w.alloc (.cells mv.toArray 25)).alloc (.cells rc 98)).heap[w.heap.size + 1]? = some (.cells rc 98 (0, 0)) := by
    have := heap_alloc_new (w.alloc (.cells mv.toArray 25)) (.cells rc 98)
    simpa using this
  generalize (w.alloc (.cells mv.toArray 25)).alloc (.cells rc 98) = wa at hb2 hgA ⊢
  rw [Hrc.out] at hgA
  obtain ⟨g, hge⟩ : ∃ g, w.heap.size + 1 = g := ⟨_, rfl⟩
  rw [hge] at hgA ⊢
  have hring : PrAt g gd first n m 0 wa := ⟨hgA, hlast⟩
  have hgF : ¬ F g := fun hf => by have := hD.lt hf; omega
  have hfd := find_any hring hO (hD.below hb2) hgF hB ho hin
  rw [Nat.sub_zero] at hfd
  have hgl := hring.lt
  clear hs HB Hbox hmi c0 hgA hb1
  go_wp2_with (first
    | (go_at_call 40; refine hfd.mono ?_))
  rintro e w3 ⟨v, vs, used, rfl, hring3, hok3, hfr3, hown3, hrecs3, ho3⟩
  have hbel3 : Below w.heap.size w w3 := hb2.trans (ho3.base hb2.size (fun k hk => by omega))
  have hown3' := row_base hown3 hb2.size
  have hrecs3' : RecsOk w.heap.size w3 vs (openAll n (pgOf (imgB S) first n) n n m).1 := ⟨hrecs3.1, fun i l hi => by obtain ⟨b, h1, h2, h3⟩ := hrecs3.2 i l hi; exact ⟨b, Nat.le_trans hb2.size h1, h2, h3⟩⟩
  obtain ⟨r, Hr⟩ : ∃ r, Hid (r = openAll n (pgOf (imgB S) first n) n n m) := ⟨_, rfl⟩
  rw [← Hr.out] at hring3 hok3 hfr3 hown3' hrecs3' ⊢
  have Hfin := Lib.hid (show OpenP gd first n r w (.returned (.tuple #[.pointer (some ⟨g, 0, none⟩), v, .nilIface])) w3 from ⟨g, v, vs, used, rfl, by omega, hring3, hok3, hfr3, hown3', hrecs3', hbel3⟩)
  obtain ⟨ap, cp, hv⟩ := row_form hown3'
  obtain ⟨K, hK⟩ : ∃ K, r.1.length = K := ⟨_, rfl⟩
  rw [hK] at hv
  subst hv
  clear hfd hring3 hok3 hfr3 hown3 hown3' hrecs3 hrecs3' hbel3 ho3 hK
  go_wp2
  refine bodyPost_ret (v := .tuple #[.pointer (some ⟨g, 0, none⟩), .slice ap K cp, .nilIface]) (by simp [results, Tryd.results14, go_sem]) rfl ?_
  rw [← Hr.out]
  exact Hfin.out
end
end Go.Proofs.YtegdlpllljccgaaDoor
