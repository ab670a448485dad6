/-
  What stands in a row of changes while it is filled, number by number and page by page.
-/
import Derived.Test.YtegdlpllljccgaaDoorRrRows
set_option linter.unusedSimpArgs false
set_option linter.unusedVariables false
namespace Go.Proofs.YtegdlpllljccgaaDoor
open Go.RowKit Sh

theorem flatten_set {α : Type} (s : Nat) : ∀ (L : List (List α)) (i j : Nat) (v : α), (∀ c ∈ L, c.length = s) → i < L.length → j < s → L.flatten.set (i * s + j) v = (L.set i ((L.getD i []).set j v)).flatten
  | [], i, _, _, _, h, _ => by simp at h
  | c :: L, 0, j, v, hc, _, hj => by
    have := hc c (by simp)
    rw [Nat.zero_mul, Nat.zero_add, List.flatten_cons, List.set_append_left _ _ (by omega)]
    rfl
  | c :: L, i + 1, j, v, hc, hi, hj => by
    have hcl := hc c (by simp)
    rw [List.flatten_cons, List.set_append_right _ _ (by rw [hcl, Nat.add_mul]; omega), hcl, show (i + 1) * s + j - s = i * s + j from by rw [Nat.add_mul]; omega, flatten_set s L i j v (fun d hd => hc d (by simp [hd])) (by simpa using hi) hj]
    rfl
theorem flat_lenS {α : Type} (s : Nat) : ∀ (L : List (List α)), (∀ c ∈ L, c.length = s) → L.flatten.length = L.length * s
  | [], _ => by simp
  | c :: L, h => by
    rw [List.flatten_cons, List.length_append, h c (by simp), flat_lenS s L (fun d hd => h d (by simp [hd])), List.length_cons, Nat.add_mul]; omega
theorem splice_left {α : Type} (a b cs : List α) (o : Nat) (h : o + cs.length ≤ a.length) : splice (a ++ b) o cs = splice a o cs ++ b := by
  unfold splice
  rw [List.take_append_of_le_length (by omega), List.drop_append_of_le_length h]
  simp [List.append_assoc]
theorem splice_right {α : Type} (a b cs : List α) (o : Nat) : splice (a ++ b) (a.length + o) cs = a ++ splice b o cs := by
  unfold splice
  rw [List.take_length_add_append, Nat.add_assoc, List.drop_length_add_append]
  simp [List.append_assoc]
theorem flatten_splice {α : Type} (s : Nat) : ∀ (L : List (List α)) (i o : Nat) (cs : List α), (∀ c ∈ L, c.length = s) → i < L.length → o + cs.length ≤ s → splice L.flatten (i * s + o) cs = (L.set i (splice (L.getD i []) o cs)).flatten
  | [], i, _, _, _, h, _ => by simp at h
  | c :: L, 0, o, cs, hc, _, ho => by
    have := hc c (by simp)
    rw [Nat.zero_mul, Nat.zero_add, List.flatten_cons, splice_left _ _ _ _ (by omega)]
    rfl
  | c :: L, i + 1, o, cs, hc, hi, ho => by
    have hcl := hc c (by simp)
    rw [List.flatten_cons, show (i + 1) * s + o = c.length + (i * s + o) from by rw [hcl, Nat.add_mul]; omega, splice_right, flatten_splice s L i o cs (fun d hd => hc d (by simp [hd])) (by simpa using hi) ho]
    rfl
def partR (A : Nat → Nat) (W : Nat → List UInt8) (k a b : Nat) : List (List Value) := (List.range k).map fun c => chgC ⟨if c < a then A c else 0, if c < b then W c else z64⟩
section
variable {A : Nat → Nat} {W : Nat → List UInt8} {k : Nat}
theorem partR_length (a b : Nat) : (partR A W k a b).length = k := by simp [partR]
theorem partR_rows (hW : ∀ c, c < k → (W c).length = 64) (a b : Nat) : ∀ r ∈ partR A W k a b, r.length = 65 := fun r hr => by
  obtain ⟨c, hc, rfl⟩ := List.mem_map.1 hr
  have hc := List.mem_range.1 hc
  refine chgC_len ?_
  show (if c < b then W c else z64).length = 64
  split
  · exact hW c hc
  · rfl
theorem partR_get {a b c : Nat} (hc : c < k) : (partR A W k a b).getD c [] = chgC ⟨if c < a then A c else 0, if c < b then W c else z64⟩ := by
  unfold partR
  rw [List.getD_eq_getElem?_getD, List.getElem?_map, List.getElem?_range hc]; rfl
theorem partR_zero : partR A W k 0 0 = List.replicate k zChg := by
  apply List.ext_getElem (by simp [partR])
  intro i h1 h2
  rw [List.getElem_replicate]
  simp only [partR, List.getElem_map, List.getElem_range, Nat.not_lt_zero, if_false]
  unfold chgC zChg z64 zeroPage
  rw [List.map_replicate]; rfl
theorem partR_num (hW : ∀ c, c < k → (W c).length = 64) {a b : Nat} (ha : a < k) : (partR A W k a b).flatten.set (a * 65) (.int .i64 (A a : Nat)) = (partR A W k (a + 1) b).flatten := by
  have := flatten_set 65 (partR A W k a b) a 0 (.int .i64 (A a : Nat)) (partR_rows hW a b) (by rw [partR_length]; exact ha) (by omega)
  rw [Nat.add_zero] at this
  rw [this, partR_get ha]
  congr 1
  apply List.ext_getElem (by simp [partR])
  intro i h1 h2
  rw [List.getElem_set]
  by_cases e : a = i
  · subst e
    rw [if_pos rfl]
    simp only [partR, List.getElem_map, List.getElem_range, Nat.lt_irrefl, if_false, if_pos (Nat.lt_succ_self a)]
    rfl
  · rw [if_neg e]
    simp only [partR, List.getElem_map, List.getElem_range]
    by_cases h : i < a
    · rw [if_pos h, if_pos (show i < a + 1 by omega)]
    · rw [if_neg h, if_neg (show ¬ i < a + 1 by omega)]
theorem partR_page (hW : ∀ c, c < k → (W c).length = 64) {a b : Nat} (hb : b < k) : splice (partR A W k a b).flatten (b * 65 + 1) ((W b).map cu8) = (partR A W k a (b + 1)).flatten := by
  have hwl := hW b hb
  rw [flatten_splice 65 (partR A W k a b) b 1 _ (partR_rows hW a b) (by rw [partR_length]; exact hb) (by rw [List.length_map, hwl]; omega), partR_get hb]
  congr 1
  apply List.ext_getElem (by simp [partR])
  intro i h1 h2
  rw [List.getElem_set]
  by_cases e : b = i
  · subst e
    rw [if_pos rfl]
    simp only [partR, List.getElem_map, List.getElem_range, Nat.lt_irrefl, if_false, if_pos (Nat.lt_succ_self b)]
    unfold splice chgC
    rw [List.drop_of_length_le (by simp [hwl, z64])]
    simp
  · rw [if_neg e]
    simp only [partR, List.getElem_map, List.getElem_range]
    by_cases h : i < b
    · rw [if_pos h, if_pos (show i < b + 1 by omega)]
    · rw [if_neg h, if_neg (show ¬ i < b + 1 by omega)]
end
theorem partR_all (rs : List (List UInt8)) (k : Nat) : partR (fun c => num4 (rs.getD (c / 16) []) (4 * (c % 16))) (fun c => rs.getD ((k + 15) / 16 + c) []) k k k = (decode rs k).map chgC := by
  unfold partR decode
  rw [List.map_map]
  apply List.map_congr_left
  intro c hc
  have := List.mem_range.1 hc
  simp [this]
theorem make_rchgs (n : Nat) (hn : n ≤ 4096) (w : World) :
    (Instr.makeSlice 58 (.int .i64 (n : Int)) (.int .i64 (n : Int))).run Tryd.prog w = .ok (.slice (some ⟨w.heap.size, 0, none⟩) n n) (w.alloc (.cells (List.replicate n zChg).flatten.toArray 106)) := by
  obtain ⟨i, hi, hzz⟩ := Option.map_eq_some_iff.1 infoRChg
  simp only [Prod.mk.injEq] at hzz
  obtain ⟨hz, hs, hb⟩ := hzz
  have h := run_make (P := Tryd.prog) w 58 106 i (.agg zChg.toArray) Tryd.underlying58 hi hz .i64 .i64 n n (by omega) (Int.le_refl _) (by rw [hb]; omega) (by omega)
  rw [hs] at h
  have e : madeCells (Value.agg zChg.toArray).cells (n * 65) = (List.replicate n zChg).flatten.toArray := made_rows zChg 65 zChg_len (by omega) n
  rw [h, Int.toNat_natCast, e]
end Go.Proofs.YtegdlpllljccgaaDoor
