/-
  A forest's pages: roots and leaves, plain.
-/
import Derived.Test.YtjkkbceddbkejaaGreatDoorBkMath
set_option linter.unusedSimpArgs false
set_option linter.unusedVariables false
namespace Go.Proofs.YtjkkbceddbkejaaGreatDoor
open Go.RowKit Sh

/-! Roots. -/
def cntR (R : List UInt8) (lun : Nat) : Nat → Nat
  | 0 => 0
  | k + 1 => cntR R lun k + if at8 R (lun * 16 + k) = 0 then 0 else 1
def takenR (R : List UInt8) : Nat → Nat
  | 0 => 0
  | k + 1 => takenR R k + if cntR R k 16 = 0 then 0 else 1 + cntR R k 16
def nzR (R : List UInt8) : Nat → Nat
  | 0 => 0
  | k + 1 => nzR R k + if at8 R k = 0 then 0 else 1
theorem cnt_le (R : List UInt8) (a : Nat) : ∀ k, cntR R a k ≤ k
  | 0 => Nat.le_refl _
  | k + 1 => by have := cnt_le R a k; simp only [cntR]; split <;> omega
theorem takenR_le (R : List UInt8) : ∀ k, takenR R k ≤ 17 * k
  | 0 => Nat.le_refl _
  | k + 1 => by have := takenR_le R k; have := cnt_le R k 16; simp only [takenR]; split <;> omega
theorem nz_cnt (R : List UInt8) (a : Nat) : ∀ k, nzR R (a * 16 + k) = nzR R (a * 16) + cntR R a k
  | 0 => rfl
  | k + 1 => by
    show nzR R (a * 16 + k) + (if at8 R (a * 16 + k) = 0 then 0 else 1) = nzR R (a * 16) + (cntR R a k + if at8 R (a * 16 + k) = 0 then 0 else 1)
    rw [nz_cnt R a k]
    omega
theorem taken_nz (R : List UInt8) : ∀ k, 0 < nzR R (k * 16) → nzR R (k * 16) + 1 ≤ takenR R k
  | 0 => by simp [nzR]
  | k + 1 => by
    have ih := taken_nz R k
    have e : nzR R ((k + 1) * 16) = nzR R (k * 16) + cntR R k 16 := by rw [Nat.succ_mul]; exact nz_cnt R k 16
    rw [e]; simp only [takenR]
    intro h
    split
    · omega
    · rcases Nat.eq_zero_or_pos (nzR R (k * 16)) with h0 | h0
      · rw [h0]; omega
      · have := ih h0; omega
theorem at8_take_list {R : List UInt8} {k : Nat} (h : k < R.length) : R[k]? = some (at8 R k) := by
  rw [at8, List.getD_eq_getElem?_getD, List.getElem?_eq_getElem h]; rfl
theorem nz_filter (R : List UInt8) : ∀ k, k ≤ R.length → nzR R k = ((R.take k).filter (fun x => x != 0)).length
  | 0, _ => rfl
  | k + 1, h => by
    simp only [nzR]
    rw [List.take_add_one, at8_take_list (by omega), List.filter_append, List.length_append, nz_filter R k (by omega)]
    by_cases e : at8 R k = 0 <;> simp [e]
theorem pigeon : ∀ (k : Nat) (l : List UInt8), k < 256 → (∀ j, 1 ≤ j → j ≤ k → UInt8.ofNat j ∈ l) → k ≤ (l.filter (fun x => x != 0)).length
  | 0, _, _, _ => Nat.zero_le _
  | k + 1, l, hk, h => by
    have hm := h (k + 1) (by omega) (by omega)
    have hp := List.perm_cons_erase hm
    have inj : ∀ a b : Nat, a < 256 → b < 256 → UInt8.ofNat a = UInt8.ofNat b → a = b := fun a b ha hb e => by
      have := congrArg UInt8.toNat e
      rw [UInt8.toNat_ofNat', UInt8.toNat_ofNat'] at this
      omega
    have hne : UInt8.ofNat (k + 1) ≠ 0 := fun e => by have := inj (k + 1) 0 hk (by omega) e; omega
    have e : (l.filter (fun x => x != 0)).length = ((l.erase (UInt8.ofNat (k + 1))).filter (fun x => x != 0)).length + 1 := by
      rw [(hp.filter _).length_eq, List.filter_cons_of_pos (by simpa using hne), List.length_cons]
    have ih := pigeon k (l.erase (UInt8.ofNat (k + 1))) (by omega) (fun j h1 h2 => (List.mem_erase_of_ne (fun e => by have := inj _ _ (by omega) (by omega) e; omega)).2 (h j h1 (by omega)))
    omega
/-- The lowest number that no root tells. -/
structure FreeP (R : List UInt8) (f : Nat) : Prop where
  pos : 1 ≤ f
  lt : f < 256
  out : UInt8.ofNat f ∉ R
  low : ∀ j, 1 ≤ j → j < f → UInt8.ofNat j ∈ R
theorem pigeon64 {R : List UInt8} (hl : R.length = 64) {k : Nat} (hk : k < 256) (h : ∀ j, 1 ≤ j → j ≤ k → UInt8.ofNat j ∈ R) : k ≤ 64 ∧ k ≤ nzR R 64 := by
  have h1 := pigeon k R hk h
  have h2 := nz_filter R 64 (by omega)
  rw [List.take_of_length_le (by omega)] at h2
  have h3 := List.length_filter_le (fun x => x != 0) R
  omega
theorem FreeP.le {R : List UInt8} {f : Nat} (h : FreeP R f) (hl : R.length = 64) : f ≤ nzR R 64 + 1 := by
  have h1 := h.lt; have h0 := h.pos
  have := pigeon64 hl (k := f - 1) (by omega) (fun j h1 h2 => h.low j h1 (by omega))
  omega

/-! Leaves. -/
def num3 (p : List UInt8) (o : Nat) : Nat := (at8 p o).toNat + 256 * (at8 p (o + 1)).toNat + 65536 * (at8 p (o + 2)).toNat
def toldL (p : List UInt8) : List Nat := (List.range 16).map fun i => num3 p (3 * i)
def pageL (l : List Nat) : List UInt8 := (List.range 64).map fun b => if b < 48 then UInt8.ofNat (l.getD (b / 3) 0 / 256 ^ (b % 3)) else 0
theorem toldL_len (p : List UInt8) : (toldL p).length = 16 := by simp [toldL]
theorem pageL_len (l : List Nat) : (pageL l).length = 64 := by simp [pageL]
theorem num3_lt (p : List UInt8) (o : Nat) : num3 p o < 16777216 := by
  have := (at8 p o).toNat_lt; have := (at8 p (o + 1)).toNat_lt; have := (at8 p (o + 2)).toNat_lt
  unfold num3; omega
theorem at8_pageL (l : List Nat) {b : Nat} (h : b < 48) : at8 (pageL l) b = UInt8.ofNat (l.getD (b / 3) 0 / 256 ^ (b % 3)) := by
  unfold at8 pageL
  rw [List.getD_eq_getElem?_getD, List.getElem?_map, List.getElem?_range (by omega)]
  simp [h]
theorem told_pageL {l : List Nat} (hl : l.length = 16) (h : ∀ x ∈ l, x < 16777216) : toldL (pageL l) = l := by
  apply List.ext_getElem (by rw [toldL_len, hl])
  intro i h1 h2
  have hi : i < 16 := by omega
  have hx := h l[i] (List.getElem_mem h2)
  have hg : ∀ c, c < 3 → at8 (pageL l) (3 * i + c) = UInt8.ofNat (l[i] / 256 ^ c) := fun c hc => by
    rw [at8_pageL l (by omega), show (3 * i + c) / 3 = i by omega, show (3 * i + c) % 3 = c by omega, List.getD_eq_getElem?_getD, List.getElem?_eq_getElem h2]
    rfl
  have e0 := hg 0 (by omega); have e1 := hg 1 (by omega); have e2 := hg 2 (by omega)
  simp only [toldL, List.getElem_map, List.getElem_range, num3]
  rw [Nat.add_zero] at e0
  rw [e0, e1, e2, UInt8.toNat_ofNat', UInt8.toNat_ofNat', UInt8.toNat_ofNat']
  omega
/-! What a forest has. -/
def setV (v : Nat → Nat) (x y : Nat) : Nat → Nat := fun z => if z = x then y else v z
def occ (v : Nat → Nat) (j : Nat) : Bool := (List.range 16).any fun i => v (16 * j + i) != 0
def cntO (v : Nat → Nat) (lun : Nat) : Nat → Nat
  | 0 => 0
  | k + 1 => cntO v lun k + if occ v (lun * 16 + k) then 1 else 0
def takenO (v : Nat → Nat) : Nat → Nat
  | 0 => 0
  | k + 1 => takenO v k + if cntO v k 16 = 0 then 0 else 1 + cntO v k 16
def sixteen (v : Nat → Nat) (j : Nat) : List Nat := (List.range 16).map fun i => v (16 * j + i)
def noneL : List Nat := List.replicate 16 0
theorem sixteen_len (v : Nat → Nat) (j : Nat) : (sixteen v j).length = 16 := by simp [sixteen]
theorem occ_false {v : Nat → Nat} {j : Nat} : occ v j = false ↔ sixteen v j = noneL := by
  unfold occ sixteen noneL
  rw [List.any_eq_false]
  constructor
  · intro h
    apply List.ext_getElem (by simp)
    intro i h1 h2
    have := h i (List.mem_range.2 (by simpa using h2))
    rw [List.getElem_map, List.getElem_range, List.getElem_replicate]
    simpa using this
  · intro h i hi
    have hi' : i < 16 := List.mem_range.1 hi
    have := congrArg (fun l => l[i]?) h
    simp only [List.getElem?_map, List.getElem?_range hi', List.getElem?_replicate, hi', if_true, Option.map_some, Option.some.injEq] at this
    simp [this]
theorem sixteen_set {v : Nat → Nat} {x y j : Nat} : sixteen (setV v x y) j = if j = x / 16 then (sixteen v j).set (x % 16) y else sixteen v j := by
  apply List.ext_getElem
  · split <;> simp [sixteen]
  · intro i h1 h2
    have hi : i < 16 := by simpa [sixteen] using h1
    split
    · rename_i e
      simp only [sixteen, List.getElem_map, List.getElem_range, setV, List.getElem_set]
      by_cases h : x % 16 = i
      · rw [if_pos h, if_pos (by omega)]
      · rw [if_neg h, if_neg (by omega)]
    · rename_i e
      simp only [sixteen, List.getElem_map, List.getElem_range, setV]
      rw [if_neg (by omega)]
theorem sixteen_at (v : Nat → Nat) (x : Nat) : (sixteen v (x / 16))[x % 16]? = some (v x) := by
  unfold sixteen
  rw [List.getElem?_map, List.getElem?_range (by omega)]
  simp only [Option.map_some, Option.some.injEq]
  congr 1
  omega
theorem sixteen_lt {v : Nat → Nat} (h : ∀ x, v x < 16777216) (j : Nat) : ∀ x ∈ sixteen v j, x < 16777216 := fun x hx => by
  obtain ⟨i, _, rfl⟩ := List.mem_map.1 hx
  exact h _
theorem setV_lt {v : Nat → Nat} (h : ∀ x, v x < 16777216) {x y : Nat} (hy : y < 16777216) : ∀ z, setV v x y z < 16777216 := fun z => by
  unfold setV; split
  · exact hy
  · exact h z
theorem cnt_occ {R : List UInt8} {v : Nat → Nat} (h : ∀ j, j < 64 → (at8 R j = 0 ↔ occ v j = false)) {a : Nat} (ha : a < 4) : ∀ k, k ≤ 16 → cntR R a k = cntO v a k
  | 0, _ => rfl
  | k + 1, hk => by
    simp only [cntR, cntO]
    rw [cnt_occ h ha k (by omega)]
    have := h (a * 16 + k) (by omega)
    by_cases e : at8 R (a * 16 + k) = 0
    · rw [if_pos e, if_neg (by rw [this.1 e]; simp)]
    · have e2 : occ v (a * 16 + k) = true := by
        cases ho : occ v (a * 16 + k) with
        | true => rfl
        | false => exact absurd (this.2 ho) e
      rw [if_neg e, if_pos e2]
theorem taken_occ {R : List UInt8} {v : Nat → Nat} (h : ∀ j, j < 64 → (at8 R j = 0 ↔ occ v j = false)) : ∀ k, k ≤ 4 → takenR R k = takenO v k
  | 0, _ => rfl
  | k + 1, hk => by
    simp only [takenR, takenO]
    rw [taken_occ h k (by omega), cnt_occ h (by omega) 16 (by omega)]
def upd (pg : Nat → List UInt8) (i : Nat) (p : List UInt8) : Nat → List UInt8 := fun k => if k = i then p else pg k
/-- Pages from first on that are a forest of n nodes, and what it has. -/
structure Rep (pg : Nat → List UInt8) (first n : Nat) (v : Nat → Nat) : Prop where
  rl : (pg first).length = 64
  le : ∀ j, j < 64 → (at8 (pg first) j).toNat ≤ n
  inj : ∀ j k, j < 64 → k < 64 → at8 (pg first) j = at8 (pg first) k → at8 (pg first) j ≠ 0 → j = k
  off : ∀ j, j < 64 → (at8 (pg first) j = 0 ↔ occ v j = false)
  on : ∀ j, j < 64 → at8 (pg first) j ≠ 0 → toldL (pg (first + (at8 (pg first) j).toNat)) = sixteen v j
  cap : takenO v 4 ≤ n
  small : ∀ x, v x < 16777216
theorem at8_set {R : List UInt8} {i j : Nat} {c : UInt8} (hi : i < R.length) : at8 (R.set i c) j = if j = i then c else at8 R j := by
  unfold at8
  rw [List.getD_eq_getElem?_getD, List.getElem?_set]
  by_cases e : i = j
  · subst e; simp [hi]
  · rw [if_neg e, if_neg (fun h => e h.symm), List.getD_eq_getElem?_getD]
section
variable {pg : Nat → List UInt8} {first n : Nat} {v : Nat → Nat}
theorem rep_zero (h : ∀ i, i ≤ n → pg (first + i) = List.replicate 64 0) : Rep pg first n (fun _ => 0) := by
  have h0 : pg first = List.replicate 64 0 := h 0 (Nat.zero_le _)
  have hz : ∀ j, at8 (pg first) j = 0 := fun j => by
    rw [h0]; unfold at8
    rw [List.getD_eq_getElem?_getD, List.getElem?_replicate]
    split <;> rfl
  have ho : ∀ j, occ (fun _ => 0) j = false := fun j => by simp [occ]
  have hc : ∀ a k, cntO (fun _ => 0) a k = 0 := fun a k => by
    induction k with
    | zero => rfl
    | succ k ih => simp only [cntO]; rw [ih, ho]; rfl
  refine ⟨by rw [h0]; simp, fun j _ => by rw [hz]; exact Nat.zero_le _, fun j k _ _ _ hne => absurd (hz j) hne, fun j _ => ⟨fun _ => ho j, fun _ => hz j⟩, fun j _ hne => absurd (hz j) hne, ?_, fun _ => by omega⟩
  simp only [takenO]
  rw [hc, hc, hc, hc]
  exact Nat.zero_le _
theorem Rep.congr {pg' : Nat → List UInt8} (h : Rep pg first n v) (e : ∀ i, i ≤ n → pg' (first + i) = pg (first + i)) : Rep pg' first n v := by
  have e0 : pg' first = pg first := e 0 (Nat.zero_le _)
  exact ⟨by rw [e0]; exact h.rl, by rw [e0]; exact h.le, by rw [e0]; exact h.inj, by rw [e0]; exact h.off, fun j hj hne => by rw [e0] at hne ⊢; rw [e _ (h.le j hj)]; exact h.on j hj hne, h.cap, h.small⟩
theorem Rep.congrV {v' : Nat → Nat} (h : Rep pg first n v) (e : v = v') : Rep pg first n v' := e ▸ h
/-- The roots, clipped, are the roots. -/
theorem Rep.clip (h : Rep pg first n v) : (pg first).map (fun x => if n < x.toNat then 0 else x) = pg first := by
  apply List.ext_getElem (by simp)
  intro i h1 h2
  have hi : i < 64 := by rw [h.rl] at h2; exact h2
  have := h.le i hi
  rw [at8, List.getD_eq_getElem?_getD, List.getElem?_eq_getElem h2] at this
  simp only [Option.getD_some] at this
  rw [List.getElem_map, if_neg (by omega)]
def leafOf (pg : Nat → List UInt8) (first : Nat) (c : UInt8) : List Nat := if c = 0 then noneL else toldL (pg (first + c.toNat))
theorem Rep.leaf (h : Rep pg first n v) {j : Nat} (hj : j < 64) : leafOf pg first (at8 (pg first) j) = sixteen v j := by
  unfold leafOf
  split
  · rename_i e
    exact (occ_false.1 ((h.off j hj).1 e)).symm
  · rename_i e
    exact h.on j hj e
theorem Rep.taken (h : Rep pg first n v) : takenR (pg first) 4 = takenO v 4 := taken_occ h.off 4 (Nat.le_refl _)
theorem cntO_set {v : Nat → Nat} {x y a : Nat} (h : ∀ j, occ (setV v x y) j = true → occ v j = true) : ∀ k, cntO (setV v x y) a k ≤ cntO v a k
  | 0 => Nat.le_refl _
  | k + 1 => by
    have ih := cntO_set (a := a) h k
    simp only [cntO]
    by_cases e : occ (setV v x y) (a * 16 + k) = true
    · rw [if_pos e, if_pos (h _ e)]; omega
    · rw [if_neg e]; split <;> omega
theorem takenO_set {v : Nat → Nat} {x y : Nat} (h : ∀ j, occ (setV v x y) j = true → occ v j = true) : ∀ k, takenO (setV v x y) k ≤ takenO v k
  | 0 => Nat.le_refl _
  | k + 1 => by
    have ih := takenO_set h k
    have h1 := cntO_set (a := k) h 16
    simp only [takenO]
    by_cases e : cntO (setV v x y) k 16 = 0
    · rw [if_pos e]; omega
    · rw [if_neg e, if_neg (by omega)]; omega
theorem occ_set_ne {x y j : Nat} (h : j ≠ x / 16) : occ (setV v x y) j = occ v j := by
  have e : ∀ b : Bool, (occ (setV v x y) j = false ↔ occ v j = false) := fun _ => by rw [occ_false, occ_false, sixteen_set, if_neg h]
  have := e true
  cases h1 : occ (setV v x y) j <;> cases h2 : occ v j <;> simp_all
theorem occ_set_eq {x y : Nat} : occ (setV v x y) (x / 16) = false ↔ (sixteen v (x / 16)).set (x % 16) y = noneL := by
  rw [occ_false, sixteen_set, if_pos rfl]
/-- A leaf is left. -/
theorem Rep.left (h : Rep pg first n v) {x y : Nat} (hx : x < 1024) (hy : y < 16777216) (hz : (sixteen v (x / 16)).set (x % 16) y = noneL) : Rep (upd pg first ((pg first).set (x / 16) 0)) first n (setV v x y) := by
  have hj : x / 16 < 64 := by omega
  have hR : (upd pg first ((pg first).set (x / 16) 0)) first = (pg first).set (x / 16) 0 := if_pos rfl
  have ha : ∀ k, at8 ((pg first).set (x / 16) 0) k = if k = x / 16 then 0 else at8 (pg first) k := fun k => at8_set (by rw [h.rl]; exact hj)
  have hoff : occ (setV v x y) (x / 16) = false := occ_set_eq.2 hz
  refine ⟨by rw [hR, List.length_set]; exact h.rl, fun k hk => ?_, fun k l hk hl => ?_, fun k hk => ?_, fun k hk => ?_, ?_, setV_lt h.small hy⟩
  · rw [hR, ha]; split
    · exact Nat.zero_le _
    · exact h.le k hk
  · rw [hR, ha, ha]
    intro e hne
    by_cases e1 : k = x / 16
    · rw [if_pos e1] at hne; exact absurd rfl hne
    · rw [if_neg e1] at hne e
      by_cases e2 : l = x / 16
      · rw [if_pos e2] at e; exact absurd e hne
      · rw [if_neg e2] at e; exact h.inj k l hk hl e hne
  · rw [hR, ha]
    by_cases e : k = x / 16
    · rw [if_pos e, e]; exact ⟨fun _ => hoff, fun _ => rfl⟩
    · rw [if_neg e, occ_set_ne e]; exact h.off k hk
  · rw [hR, ha]
    by_cases e : k = x / 16
    · rw [if_pos e]; intro hne; exact absurd rfl hne
    · rw [if_neg e]
      intro hne
      have h0 : (at8 (pg first) k).toNat ≠ 0 := fun h0 => hne (UInt8.toNat_inj.1 h0)
      rw [upd, if_neg (by omega), h.on k hk hne, sixteen_set, if_neg e]
  · refine Nat.le_trans (takenO_set (fun j hj => ?_) 4) h.cap
    by_cases e : j = x / 16
    · rw [e, hoff] at hj; cases hj
    · rw [occ_set_ne e] at hj; exact hj
/-- A leaf that a sixteen has is turned. -/
theorem Rep.turn (h : Rep pg first n v) {x y : Nat} (hx : x < 1024) (hy : y < 16777216) (hr : at8 (pg first) (x / 16) ≠ 0) (hz : (sixteen v (x / 16)).set (x % 16) y ≠ noneL) :
    Rep (upd pg (first + (at8 (pg first) (x / 16)).toNat) (pageL ((sixteen v (x / 16)).set (x % 16) y))) first n (setV v x y) := by
  have hj : x / 16 < 64 := by omega
  have h0 : (at8 (pg first) (x / 16)).toNat ≠ 0 := fun h0 => hr (UInt8.toNat_inj.1 h0)
  have hR : (upd pg (first + (at8 (pg first) (x / 16)).toNat) (pageL ((sixteen v (x / 16)).set (x % 16) y))) first = pg first := if_neg (by omega)
  have hocc : ∀ j, occ (setV v x y) j = false ↔ occ v j = false := fun j => by
    by_cases e : j = x / 16
    · subst e
      rw [occ_set_eq]
      exact ⟨fun h => absurd h hz, fun ho => absurd ((h.off _ hj).2 ho) hr⟩
    · rw [occ_set_ne e]
  refine ⟨by rw [hR]; exact h.rl, by rw [hR]; exact h.le, by rw [hR]; exact h.inj, fun k hk => by rw [hR, hocc]; exact h.off k hk, fun k hk => ?_, ?_, setV_lt h.small hy⟩
  · rw [hR]
    intro hne
    have hk0 : (at8 (pg first) k).toNat ≠ 0 := fun h0 => hne (UInt8.toNat_inj.1 h0)
    by_cases e : k = x / 16
    · subst e
      rw [upd, if_pos rfl, sixteen_set, if_pos rfl]
      refine told_pageL (by rw [List.length_set, sixteen_len]) (fun z hz => ?_)
      have hm := List.mem_or_eq_of_mem_set hz
      rcases hm with hm | hm
      · exact sixteen_lt h.small _ z hm
      · rw [hm]; exact hy
    · rw [upd, if_neg ?_, h.on k hk hne, sixteen_set, if_neg e]
      intro e2
      exact e (h.inj k _ hk hj (UInt8.toNat_inj.1 (by omega)) hne)
  · refine Nat.le_trans (takenO_set (fun j hj => ?_) 4) h.cap
    cases ho : occ v j with
    | true => rfl
    | false => rw [(hocc j).2 ho] at hj; cases hj
/-- A sixteen gets a leaf. -/
theorem Rep.grow (h : Rep pg first n v) {x y f : Nat} (hx : x < 1024) (hy : y < 16777216) (hr : at8 (pg first) (x / 16) = 0) (hz : (sixteen v (x / 16)).set (x % 16) y ≠ noneL) (hf : FreeP (pg first) f) (hcap : takenR ((pg first).set (x / 16) (UInt8.ofNat f)) 4 ≤ n) :
    f ≤ n ∧ takenO (setV v x y) 4 ≤ n ∧ Rep (upd (upd pg (first + f) (pageL ((sixteen v (x / 16)).set (x % 16) y))) first ((pg first).set (x / 16) (UInt8.ofNat f))) first n (setV v x y) := by
  have hj : x / 16 < 64 := by omega
  have f1 := hf.pos; have f2 := hf.lt
  have fne : UInt8.ofNat f ≠ 0 := fun e => by
    have := congrArg UInt8.toNat e
    rw [UInt8.toNat_ofNat'] at this
    have h00 : (0 : UInt8).toNat = 0 := rfl
    omega
  have ft : (UInt8.ofNat f).toNat = f := by rw [UInt8.toNat_ofNat']; omega
  obtain ⟨R', hR'⟩ : ∃ R', (pg first).set (x / 16) (UInt8.ofNat f) = R' := ⟨_, rfl⟩
  have ha : ∀ k, at8 R' k = if k = x / 16 then UInt8.ofNat f else at8 (pg first) k := fun k => by rw [← hR']; exact at8_set (by rw [h.rl]; exact hj)
  have hl' : R'.length = 64 := by rw [← hR', List.length_set]; exact h.rl
  rw [hR'] at hcap ⊢
  have hR : (upd (upd pg (first + f) (pageL ((sixteen v (x / 16)).set (x % 16) y))) first R') first = R' := if_pos rfl
  have hout : ∀ k, k < 64 → at8 (pg first) k ≠ UInt8.ofNat f := fun k hk e => hf.out (by
    rw [← e, at8, List.getD_eq_getElem?_getD, List.getElem?_eq_getElem (by rw [h.rl]; exact hk)]
    exact List.getElem_mem _)
  have hocc : ∀ k, k < 64 → (at8 R' k = 0 ↔ occ (setV v x y) k = false) := fun k hk => by
    rw [ha]
    by_cases e : k = x / 16
    · subst e
      rw [if_pos rfl, occ_set_eq]
      exact ⟨fun e => absurd e fne, fun e => absurd e hz⟩
    · rw [if_neg e, occ_set_ne e]; exact h.off k hk
  have hnz : ∀ k, nzR R' k = nzR (pg first) k + if x / 16 < k then 1 else 0 := fun k => by
    induction k with
    | zero => rfl
    | succ k ih =>
      show nzR R' k + (if at8 R' k = 0 then 0 else 1) = (nzR (pg first) k + (if at8 (pg first) k = 0 then 0 else 1)) + (if x / 16 < k + 1 then 1 else 0)
      rw [ih]
      by_cases e : k = x / 16
      · have h1 : at8 R' k = UInt8.ofNat f := by rw [ha, if_pos e]
        have h2 : at8 (pg first) k = 0 := by rw [e]; exact hr
        rw [h1, h2, if_neg fne, if_pos rfl, if_neg (show ¬ x / 16 < k by omega), if_pos (show x / 16 < k + 1 by omega)]
      · have h1 : at8 R' k = at8 (pg first) k := by rw [ha, if_neg e]
        rw [h1]
        by_cases e2 : x / 16 < k
        · rw [if_pos e2, if_pos (show x / 16 < k + 1 by omega)]; omega
        · rw [if_neg e2, if_neg (show ¬ x / 16 < k + 1 by omega)]; omega
  have hle := hf.le h.rl
  have h64 := hnz 64
  rw [if_pos hj] at h64
  have htn := taken_nz R' 4 (by show 0 < nzR R' 64; omega)
  have htn' : nzR R' 64 + 1 ≤ takenR R' 4 := htn
  have hfn : f ≤ n := by omega
  refine ⟨hfn, by rw [← taken_occ hocc 4 (Nat.le_refl _)]; exact hcap, ⟨by rw [hR]; exact hl', fun k hk => ?_, fun k l hk hl => ?_, fun k hk => by rw [hR]; exact hocc k hk, fun k hk => ?_, by rw [← taken_occ hocc 4 (Nat.le_refl _)]; exact hcap, setV_lt h.small hy⟩⟩
  · rw [hR, ha]; split
    · rw [ft]; exact hfn
    · exact h.le k hk
  · rw [hR, ha, ha]
    intro e hne
    by_cases e1 : k = x / 16
    · by_cases e2 : l = x / 16
      · rw [e1, e2]
      · rw [if_pos e1, if_neg e2] at e
        exact absurd e.symm (hout l hl)
    · rw [if_neg e1] at hne e
      by_cases e2 : l = x / 16
      · rw [if_pos e2] at e; exact absurd e (hout k hk)
      · rw [if_neg e2] at e; exact h.inj k l hk hl e hne
  · rw [hR, ha]
    by_cases e : k = x / 16
    · subst e
      rw [if_pos rfl, ft]
      intro _
      rw [upd, if_neg (by omega), upd, if_pos rfl, sixteen_set, if_pos rfl]
      refine told_pageL (by rw [List.length_set, sixteen_len]) (fun z hz => ?_)
      rcases List.mem_or_eq_of_mem_set hz with hm | hm
      · exact sixteen_lt h.small _ z hm
      · rw [hm]; exact hy
    · rw [if_neg e]
      intro hne
      have h0 : (at8 (pg first) k).toNat ≠ 0 := fun h0 => hne (UInt8.toNat_inj.1 h0)
      have hne2 : (at8 (pg first) k).toNat ≠ f := fun e2 => hout k hk (UInt8.toNat_inj.1 (by rw [ft]; exact e2))
      rw [upd, if_neg (by omega), upd, if_neg (by omega), h.on k hk hne, sixteen_set, if_neg e]
/-- .. or can't. -/
theorem Rep.full (h : Rep pg first n v) {x y f : Nat} (hx : x < 1024) (hr : at8 (pg first) (x / 16) = 0) (hz : (sixteen v (x / 16)).set (x % 16) y ≠ noneL) (hf : FreeP (pg first) f) : takenR ((pg first).set (x / 16) (UInt8.ofNat f)) 4 = takenO (setV v x y) 4 := by
  have hj : x / 16 < 64 := by omega
  have f1 := hf.pos; have f2 := hf.lt
  have fne : UInt8.ofNat f ≠ 0 := fun e => by
    have := congrArg UInt8.toNat e
    rw [UInt8.toNat_ofNat'] at this
    have h00 : (0 : UInt8).toNat = 0 := rfl
    omega
  refine taken_occ (fun k hk => ?_) 4 (Nat.le_refl _)
  rw [at8_set (by rw [h.rl]; exact hj)]
  by_cases e : k = x / 16
  · subst e
    rw [if_pos rfl, occ_set_eq]
    exact ⟨fun e => absurd e fne, fun e => absurd e hz⟩
  · rw [if_neg e, occ_set_ne e]; exact h.off k hk
end
end Go.Proofs.YtjkkbceddbkejaaGreatDoor
