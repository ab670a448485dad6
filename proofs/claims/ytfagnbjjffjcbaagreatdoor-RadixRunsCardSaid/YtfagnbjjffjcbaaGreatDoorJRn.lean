import Derived.Test.YtfagnbjjffjcbaaGreatDoorRxMath
import Derived.Test.YtfagnbjjffjcbaaGreatDoorRxSetAt
import Derived.Maps.RangeWalk
import Derived.WideKeyPair
import Derived.DeepKeys4
import Derived.Test.YtfagnbjjffjcbaaGreatDoorRxLaw
import Derived.Test.YtfagnbjjffjcbaaGreatDoorRxNone
set_option linter.unusedSimpArgs false
set_option linter.unusedVariables false
/-
  The nodes that a map takes, plain: what one more entry adds.
-/
set_option linter.unusedSimpArgs false
set_option linter.unusedVariables false
namespace Go.Proofs.YtfagnbjjffjcbaaGreatDoor
open Go.RowKit Sh

section
variable {v : Nat → Nat}
theorem occ_set_true {x y : Nat} (hy : y ≠ 0) : occ (setV v x y) (x / 16) = true := by
  cases ho : occ (setV v x y) (x / 16) with
  | true => rfl
  | false =>
    have := occ_set_eq.1 ho
    have h2 := congrArg (fun l => l[x % 16]?) this
    have hr : x % 16 < 16 := Nat.mod_lt _ (by omega)
    simp only [List.getElem?_set, sixteen_len, hr, if_true, noneL, List.getElem?_replicate] at h2
    simp at h2
    exact absurd h2 hy
theorem cntO_add {x y : Nat} (hy : y ≠ 0) (a : Nat) : ∀ k, k ≤ 16 → cntO (setV v x y) a k = cntO v a k + if a = x / 256 ∧ x / 16 % 16 < k ∧ occ v (x / 16) = false then 1 else 0
  | 0, _ => by simp [cntO]
  | k + 1, hk => by
    simp only [cntO]
    rw [cntO_add hy a k (by omega)]
    by_cases e : a * 16 + k = x / 16
    · have h1 : occ (setV v x y) (a * 16 + k) = true := by rw [e]; exact occ_set_true hy
      have h2 : x / 16 % 16 = k := by omega
      have h3 : a = x / 256 := by omega
      rw [h1, h2, e, if_neg (show ¬ (a = x / 256 ∧ k < k ∧ occ v (x / 16) = false) from fun h => absurd h.2.1 (Nat.lt_irrefl _))]
      cases ho : occ v (x / 16) <;> simp [h3]
    · rw [occ_set_ne e]
      by_cases h : a = x / 256 ∧ x / 16 % 16 < k ∧ occ v (x / 16) = false
      · rw [if_pos h, if_pos (show a = x / 256 ∧ x / 16 % 16 < k + 1 ∧ occ v (x / 16) = false from ⟨h.1, by omega, h.2.2⟩)]; omega
      · rw [if_neg h, if_neg (show ¬ (a = x / 256 ∧ x / 16 % 16 < k + 1 ∧ occ v (x / 16) = false) from fun h2 => h ⟨h2.1, by
          have h3 := h2.2.1
          have : x / 16 % 16 ≠ k := fun e2 => e (by have := h2.1; omega)
          omega, h2.2.2⟩)]; omega
/-- A sixteen that has something is counted. -/
theorem cntO_occ {j : Nat} (h : occ v j = true) : ∀ k, j % 16 < k → 1 ≤ cntO v (j / 16) k
  | k + 1, hk => by
    simp only [cntO]
    by_cases e : j % 16 = k
    · rw [show j / 16 * 16 + k = j by omega, h]; simp
    · have := cntO_occ h k (by omega); omega
theorem takenO_add {x y : Nat} (hy : y ≠ 0) : ∀ k, takenO (setV v x y) k = takenO v k + if x / 256 < k ∧ occ v (x / 16) = false then (if cntO v (x / 256) 16 = 0 then 2 else 1) else 0
  | 0 => by simp [takenO]
  | k + 1 => by
    simp only [takenO]
    rw [takenO_add hy k, cntO_add hy k 16 (Nat.le_refl _)]
    have hm : x / 16 % 16 < 16 := Nat.mod_lt _ (by omega)
    by_cases e : k = x / 256
    · subst e
      cases ho : occ v (x / 16) with
      | true => simp
      | false =>
        rw [if_pos (show x / 256 = x / 256 ∧ x / 16 % 16 < 16 ∧ false = false from ⟨rfl, hm, rfl⟩), if_neg (show ¬ (x / 256 < x / 256 ∧ false = false) from fun h => absurd h.1 (Nat.lt_irrefl _)), if_pos (show x / 256 < x / 256 + 1 ∧ false = false from ⟨Nat.lt_succ_self _, rfl⟩)]
        by_cases h0 : cntO v (x / 256) 16 = 0
        · rw [h0, if_pos rfl, if_pos rfl]; simp
        · rw [if_neg h0, if_neg h0, if_neg (by omega)]; omega
    · rw [if_neg (show ¬ (k = x / 256 ∧ x / 16 % 16 < 16 ∧ occ v (x / 16) = false) from fun h => e h.1), Nat.add_zero]
      by_cases h : x / 256 < k ∧ occ v (x / 16) = false
      · rw [if_pos h, if_pos (show x / 256 < k + 1 ∧ occ v (x / 16) = false from ⟨Nat.lt_succ_of_lt h.1, h.2⟩)]; omega
      · rw [if_neg h, if_neg (show ¬ (x / 256 < k + 1 ∧ occ v (x / 16) = false) from fun h2 => h ⟨by have := h2.1; omega, h2.2⟩)]; omega
end
/-- Just so many are taken as by any numbers in the same places. -/
theorem takenO_same {v u : Nat → Nat} (h : ∀ x, x < 1024 → (v x = 0 ↔ u x = 0)) : takenO v 4 = takenO u 4 := by
  have ho : ∀ j, j < 64 → occ v j = occ u j := fun j hj => by
    have : occ v j = false ↔ occ u j = false := by
      unfold occ
      simp only [List.any_eq_false, List.mem_range]
      constructor
      · intro h1 i hi; have := h1 i hi; have h2 := h (16 * j + i) (by omega); simp at this ⊢; exact h2.1 this
      · intro h1 i hi; have := h1 i hi; have h2 := h (16 * j + i) (by omega); simp at this ⊢; exact h2.2 this
    cases h1 : occ v j <;> cases h2 : occ u j <;> simp_all
  have hc : ∀ a, a < 4 → ∀ k, k ≤ 16 → cntO v a k = cntO u a k := fun a ha k => by
    induction k with
    | zero => intro _; rfl
    | succ k ih =>
      intro hk
      simp only [cntO]
      rw [ih (by omega), ho _ (by omega)]
  simp only [takenO]
  rw [hc 0 (by omega) 16 (Nat.le_refl _), hc 1 (by omega) 16 (Nat.le_refl _), hc 2 (by omega) 16 (Nat.le_refl _), hc 3 (by omega) 16 (Nat.le_refl _)]
end Go.Proofs.YtfagnbjjffjcbaaGreatDoor

/-
  Maps by pairs, beside a book: from pairs to numbers (what a forest has), and from pairs to true (what 'need' has seen).
-/
set_option linter.unusedSimpArgs false
set_option linter.unusedVariables false
namespace Go.Proofs.YtfagnbjjffjcbaaGreatDoor
open Go.RowKit Sh Go.Maps Go.ChangeMaps Go.MapKept Go.Extern.Stop Go.Stop Go.Extern

def pairV (a b : Int) : Value := .agg #[.int .i64 a, .int .i64 b]
theorem Tryz.pairKey : WideMaps.ArrKey Tryz.prog 82 3 2 := ⟨Tryz.underlying82, by kernel_rfl, by kernel_rfl, by kernel_rfl⟩
theorem keyedPair : Keyed Tryz.prog 82 :=
  Keyed.of_law (deep_law_laid (m := 20) (by kernel_rfl) (by omega) (of_decide_eq_true (by kernel_rfl)) (by kernel_rfl) (by kernel_rfl))
/-- A pair as a map's key reads. -/
def pairL (a b : Int) : Go.Lit := .string (keyBytes [.int .i64 a, .int .i64 b])
def InR (a : Int) : Prop := -9223372036854775808 ≤ a ∧ a ≤ 9223372036854775807
theorem wf64 {a : Int} (h : InR a) : (Lit.int .i64 a).wf = true := by
  have := h.1; have := h.2
  simp [Lit.wf, IntKind.min, IntKind.max, IntKind.bits, IntKind.signed]; omega
theorem key_pair {a b : Int} (ha : InR a) (hb : InR b) : keyOf Tryz.prog 82 (pairV a b) = some (pairL a b) :=
  WideMaps.keyOf_pair Tryz.pairKey Tryz.underlying3 ⟨Tryz.prog.types.size - 1, by
    have : 1 < Tryz.prog.types.size := of_decide_eq_true (by kernel_rfl)
    omega⟩ (wf64 ha) (wf64 hb)
theorem pairL_inj {a b c d : Int} (ha : InR a) (hb : InR b) (hc : InR c) (hd : InR d) (h : pairL a b = pairL c d) : a = c ∧ b = d := by
  have h1 := key_pair ha hb
  rw [h] at h1
  have := keyedPair.inj h1 (key_pair hc hd)
  simpa [pairV] using this
theorem pairL_key {a b : Int} (ha : InR a) (hb : InR b) : WideAt.IsKeyLit (pairL a b) := keyedPair.key (key_pair ha hb)
theorem inR_nat {a : Nat} (h : a ≤ 100000) : InR (a : Int) := ⟨by omega, by omega⟩
theorem inR_nat' {a : Nat} (h : a < 16777216) : InR (a : Int) := ⟨by omega, by omega⟩
def insS' (g : Nat) (S : Nat → Bool) : Nat → Bool := fun j => j == g || S j
theorem zero_int (w : World) : (zeroValue 3).run Tryz.prog w = .ok (.int .i64 0) w := by kernel_rfl

/-! What a forest has. -/
/-- Block m is a map that has these numbers, of those that aren't 0. -/
structure NumD (D : DataW Unit) (v : Nat → Nat) : Prop where
  has_ : ∀ l b : Nat, l < 4 → b < 256 → Maps.has D (pairL l b) = (v (l * 256 + b) != 0)
  at_ : ∀ l b : Nat, l < 4 → b < 256 → D.atKey (pairL l b) (.lit (.int .i64 0)) = .lit (.int .i64 (v (l * 256 + b) : Nat))
  only : ∀ kl, Maps.has D kl = true → ∃ l b : Nat, l < 4 ∧ b < 256 ∧ kl = pairL l b
def NumAt (m : Nat) (v : Nat → Nat) (c : Nat) (w : World) : Prop := ∃ (D : DataW Unit), w.ownsMap Tryz.prog 82 (plainElem Tryz.prog 3) m c D ∧ NumD D v
/-- .. with 0 stored at one of them. -/
def NumX (m : Nat) (v : Nat → Nat) (l b c : Nat) (w : World) : Prop := ∃ (D : DataW Unit), w.ownsMap Tryz.prog 82 (plainElem Tryz.prog 3) m c (D.put (pairL l b) (.lit (.int .i64 0))) ∧ NumD D v
theorem numD_empty : NumD (.map []) (fun _ => 0) := ⟨fun _ _ _ _ => rfl, fun _ _ _ _ => rfl, fun kl h => by simp [Maps.has] at h⟩
section
variable {m : Nat} {v : Nat → Nat} {w w' : World} {D : DataW Unit}
theorem NumD.put (h : NumD D v) (hI : IsMap D) {l b y : Nat} (hl : l < 4) (hb : b < 256) (hy : y ≠ 0) : NumD (D.put (pairL l b) (.lit (.int .i64 (y : Nat)))) (setV v (l * 256 + b) y) := by
  have rl := inR_nat (show l ≤ 100000 by omega); have rb := inR_nat (show b ≤ 100000 by omega)
  have hne : ∀ l' b' : Nat, l' < 4 → b' < 256 → l' * 256 + b' ≠ l * 256 + b → pairL l' b' ≠ pairL l b := fun l' b' h1 h2 h3 e => by
    obtain ⟨e1, e2⟩ := pairL_inj (inR_nat (by omega)) (inR_nat (by omega)) rl rb e
    exact h3 (by omega)
  refine ⟨fun l' b' h1 h2 => ?_, fun l' b' h1 h2 => ?_, fun kl hk => ?_⟩
  · by_cases e : l' * 256 + b' = l * 256 + b
    · obtain ⟨rfl, rfl⟩ : l' = l ∧ b' = b := by omega
      rw [Maps.has_put_same hI (pairL_key rl rb)]
      simp [setV, hy]
    · rw [Maps.has_put_other (hne l' b' h1 h2 e), h.has_ l' b' h1 h2]
      simp [setV, e]
  · by_cases e : l' * 256 + b' = l * 256 + b
    · obtain ⟨rfl, rfl⟩ : l' = l ∧ b' = b := by omega
      rw [Maps.atKey_put_same hI (pairL_key rl rb)]
      simp [setV]
    · rw [Maps.atKey_put_other (hne l' b' h1 h2 e), h.at_ l' b' h1 h2]
      simp [setV, e]
  · by_cases e : kl = pairL l b
    · exact ⟨l, b, hl, hb, e⟩
    · rw [Maps.has_put_other e] at hk
      exact h.only kl hk
theorem NumD.del (h : NumD D v) {l b : Nat} (hl : l < 4) (hb : b < 256) : NumD (D.del (pairL l b)) (setV v (l * 256 + b) 0) := by
  have rl := inR_nat (show l ≤ 100000 by omega); have rb := inR_nat (show b ≤ 100000 by omega)
  have hne : ∀ l' b' : Nat, l' < 4 → b' < 256 → l' * 256 + b' ≠ l * 256 + b → pairL l' b' ≠ pairL l b := fun l' b' h1 h2 h3 e => by
    obtain ⟨e1, e2⟩ := pairL_inj (inR_nat (by omega)) (inR_nat (by omega)) rl rb e
    exact h3 (by omega)
  refine ⟨fun l' b' h1 h2 => ?_, fun l' b' h1 h2 => ?_, fun kl hk => ?_⟩
  · by_cases e : l' * 256 + b' = l * 256 + b
    · obtain ⟨rfl, rfl⟩ : l' = l ∧ b' = b := by omega
      rw [Maps.has_del_same]
      simp [setV]
    · rw [Maps.has_del_other (hne l' b' h1 h2 e), h.has_ l' b' h1 h2]
      simp [setV, e]
  · by_cases e : l' * 256 + b' = l * 256 + b
    · obtain ⟨rfl, rfl⟩ : l' = l ∧ b' = b := by omega
      rw [Maps.atKey_del_same]
      simp [setV]
    · rw [Maps.atKey_del_other (hne l' b' h1 h2 e), h.at_ l' b' h1 h2]
      simp [setV, e]
  · by_cases e : kl = pairL l b
    · subst e; rw [Maps.has_del_same] at hk; cases hk
    · rw [Maps.has_del_other e] at hk
      exact h.only kl hk
theorem tight_any {k : TypeId} {R : Value → Option (DataW Unit × List MemPlace)} {P : Program} {n : Nat} (h : w.ownsMap P k R m n D) : w.ownsMap P k R m (Maps.size D) D := by
  obtain ⟨es, clock, hb, F, hs, rfl⟩ := h
  refine ⟨es, clock, hb, F, ?_, rfl⟩
  simp [Maps.size, length_sorted]
theorem NumD.putdel (h : NumD D v) {l b : Nat} (hl : l < 4) (hb : b < 256) (d : DataW Unit) : NumD ((D.put (pairL l b) d).del (pairL l b)) (setV v (l * 256 + b) 0) := by
  have rl := inR_nat (show l ≤ 100000 by omega); have rb := inR_nat (show b ≤ 100000 by omega)
  have hne : ∀ l' b' : Nat, l' < 4 → b' < 256 → l' * 256 + b' ≠ l * 256 + b → pairL l' b' ≠ pairL l b := fun l' b' h1 h2 h3 e => by
    obtain ⟨e1, e2⟩ := pairL_inj (inR_nat (by omega)) (inR_nat (by omega)) rl rb e
    exact h3 (by omega)
  refine ⟨fun l' b' h1 h2 => ?_, fun l' b' h1 h2 => ?_, fun kl hk => ?_⟩
  · by_cases e : l' * 256 + b' = l * 256 + b
    · obtain ⟨rfl, rfl⟩ : l' = l ∧ b' = b := by omega
      rw [Maps.has_del_same]
      simp [setV]
    · rw [Maps.has_del_other (hne l' b' h1 h2 e), Maps.has_put_other (hne l' b' h1 h2 e), h.has_ l' b' h1 h2]
      simp [setV, e]
  · by_cases e : l' * 256 + b' = l * 256 + b
    · obtain ⟨rfl, rfl⟩ : l' = l ∧ b' = b := by omega
      rw [Maps.atKey_del_same]
      simp [setV]
    · rw [Maps.atKey_del_other (hne l' b' h1 h2 e), Maps.atKey_put_other (hne l' b' h1 h2 e), h.at_ l' b' h1 h2]
      simp [setV, e]
  · by_cases e : kl = pairL l b
    · subst e; rw [Maps.has_del_same] at hk; cases hk
    · rw [Maps.has_del_other e, Maps.has_put_other e] at hk
      exact h.only kl hk
variable {c : Nat}
theorem NumAt.of_block (h : NumAt m v c w) (e : w'.heap[m]? = w.heap[m]?) : NumAt m v c w' := by
  obtain ⟨D, ⟨es, clock, h1, h2⟩, h3⟩ := h
  exact ⟨D, ⟨es, clock, e.trans h1, h2⟩, h3⟩
theorem NumAt.mono (h : NumAt m v c w) {c' : Nat} (hc : c ≤ c') : NumAt m v c' w := by
  obtain ⟨D, ho, h3⟩ := h
  exact ⟨D, ho.mono hc, h3⟩
theorem NumAt.made (w : World) : NumAt w.heap.size (fun _ => 0) 0 (w.alloc (.map #[] 0)) := ⟨_, World.ownsMap_made w _ _ _, numD_empty⟩
theorem NumAt.look (h : NumAt m v c w) {l b : Nat} (hl : l < 4) (hb : b < 256) : (Instr.lookup 28 (.map (some m)) (pairV l b) false).run Tryz.prog w = .ok (.int .i64 (v (l * 256 + b) : Nat)) w := by
  obtain ⟨D, ho, hD⟩ := h
  obtain ⟨c, hrun, hat, _⟩ := World.ownsMap.lookup_int ho keyedPair Tryz.underlying28 Tryz.underlying3 (zero_int w) (key_pair (inR_nat (show l ≤ 100000 by omega)) (inR_nat (show b ≤ 100000 by omega)))
  rw [hD.at_ l b hl hb] at hat
  have : ((v (l * 256 + b) : Nat) : Int) = c := by simpa using hat
  rw [hrun, this]
theorem NumAt.look_ok (h : NumAt m v c w) {l b : Nat} (hl : l < 4) (hb : b < 256) : (Instr.lookup 28 (.map (some m)) (pairV l b) true).run Tryz.prog w = .ok (.tuple #[.int .i64 (v (l * 256 + b) : Nat), .bool (v (l * 256 + b) != 0)]) w := by
  obtain ⟨D, ho, hD⟩ := h
  obtain ⟨u, ps, hrun, hv⟩ := World.ownsMap.look_ok ho keyedPair Tryz.underlying28 (zero_int w) (plainElem_int Tryz.underlying3 (by decide)) (key_pair (inR_nat (show l ≤ 100000 by omega)) (inR_nat (show b ≤ 100000 by omega)))
  rw [hD.at_ l b hl hb] at hv
  obtain ⟨c, rfl, hz, _⟩ := plainElem_int_inv Tryz.underlying3 hv
  have : ((v (l * 256 + b) : Nat) : Int) = c := by
    have hz' : ((v (l * 256 + b) : Nat) : Int) = c ∧ ps = [] := by simpa using hz
    exact hz'.1
  rw [hrun, hD.has_ l b hl hb, this]
theorem max_big : (100000 : Nat) < maxLen := by unfold maxLen; omega
theorem NumAt.store (h : NumAt m v c w) (hc : c ≤ 10000) {l b y : Nat} (hl : l < 4) (hb : b < 256) (hy : y ≠ 0) (hy2 : y < 16777216) :
    ∃ w', (Instr.mapUpdate 28 (.map (some m)) (pairV l b) (.int .i64 (y : Nat))).run Tryz.prog w = .ok () w' ∧ NumAt m (setV v (l * 256 + b) y) (c + 1) w' ∧ w.grownBy w' (some m) := by
  obtain ⟨D, ho, hD⟩ := h
  have hm := max_big
  obtain ⟨w', hrun, hown, ht⟩ := World.ownsMap.store ho keyedPair Tryz.underlying28 (show c < maxLen by omega) (key_pair (inR_nat (show l ≤ 100000 by omega)) (inR_nat (show b ≤ 100000 by omega))) (plainElem_int Tryz.underlying3 (a := (y : Int)) (wf64 (inR_nat' hy2)))
  exact ⟨w', hrun, ⟨_, hown, hD.put (World.ownsMap.isMap ho) hl hb hy⟩, ht.grown⟩
theorem NumAt.store0 (h : NumAt m v c w) (hc : c ≤ 10000) {l b : Nat} (hl : l < 4) (hb : b < 256) :
    ∃ w', (Instr.mapUpdate 28 (.map (some m)) (pairV l b) (.int .i64 0)).run Tryz.prog w = .ok () w' ∧ NumX m v l b (c + 1) w' ∧ w.grownBy w' (some m) := by
  obtain ⟨D, ho, hD⟩ := h
  have hm := max_big
  obtain ⟨w', hrun, hown, ht⟩ := World.ownsMap.store ho keyedPair Tryz.underlying28 (show c < maxLen by omega) (key_pair (inR_nat (show l ≤ 100000 by omega)) (inR_nat (show b ≤ 100000 by omega))) (plainElem_int Tryz.underlying3 (a := 0) (by decide))
  exact ⟨w', hrun, ⟨D, hown, hD⟩, ht.grown⟩
theorem NumX.drop {l b : Nat} (h : NumX m v l b c w) (hl : l < 4) (hb : b < 256) (ty : TypeId) :
    ∃ w', (Builtin.delete_ #[28, 82] ty #[.map (some m), pairV l b]).run Tryz.prog w = .ok (.tuple #[]) w' ∧ NumAt m (setV v (l * 256 + b) 0) c w' ∧ w.grownBy w' (some m) := by
  obtain ⟨D, ho, hD⟩ := h
  obtain ⟨w', hrun, hown, ht⟩ := World.ownsMap.drop ho keyedPair Tryz.underlying28 (key_pair (inR_nat (show l ≤ 100000 by omega)) (inR_nat (show b ≤ 100000 by omega))) ty
  exact ⟨w', hrun, ⟨_, hown, hD.putdel hl hb _⟩, ht.grown⟩
end
/-! What 'need' has seen. -/
structure SeenD (D : DataW Unit) (A B : Nat → Bool) : Prop where
  unit : ∀ l : Nat, l < 4 → Maps.has D (pairL l (-1)) = A l
  group : ∀ l g : Nat, l < 4 → g < 16 → Maps.has D (pairL l g) = B (l * 16 + g)
def SeenAt (m : Nat) (A B : Nat → Bool) (c : Nat) (w : World) : Prop := ∃ (D : DataW Unit) (n : Nat), w.ownsMap Tryz.prog 82 (plainElem Tryz.prog 4) m n D ∧ Maps.size D = c ∧ SeenD D A B
section
variable {m c : Nat} {A B : Nat → Bool} {w w' : World} {D : DataW Unit}
theorem inR_neg : InR (-1) := ⟨by omega, by omega⟩
theorem SeenD.putUnit (h : SeenD D A B) (hI : IsMap D) (d : DataW Unit) {l : Nat} (hl : l < 4) : SeenD (D.put (pairL l (-1)) d) (insS' l A) B := by
  have rl := inR_nat (show l ≤ 100000 by omega)
  refine ⟨fun l' h1 => ?_, fun l' g h1 h2 => ?_⟩
  · by_cases e : l' = l
    · subst e; rw [Maps.has_put_same hI (pairL_key rl inR_neg)]; simp [insS']
    · rw [Maps.has_put_other (fun he => e (by have := (pairL_inj (inR_nat (by omega)) inR_neg rl inR_neg he).1; omega)), h.unit l' h1]; simp [insS', e]
  · rw [Maps.has_put_other (fun he => by have := (pairL_inj (inR_nat (by omega)) (inR_nat (by omega)) rl inR_neg he).2; omega), h.group l' g h1 h2]
theorem SeenD.putGroup (h : SeenD D A B) (hI : IsMap D) (d : DataW Unit) {l g : Nat} (hl : l < 4) (hg : g < 16) : SeenD (D.put (pairL l g) d) A (insS' (l * 16 + g) B) := by
  have rl := inR_nat (show l ≤ 100000 by omega); have rg := inR_nat (show g ≤ 100000 by omega)
  refine ⟨fun l' h1 => ?_, fun l' g' h1 h2 => ?_⟩
  · rw [Maps.has_put_other (fun he => by have := (pairL_inj (inR_nat (by omega)) inR_neg rl rg he).2; omega), h.unit l' h1]
  · by_cases e : l' * 16 + g' = l * 16 + g
    · obtain ⟨rfl, rfl⟩ : l' = l ∧ g' = g := by omega
      rw [Maps.has_put_same hI (pairL_key rl rg)]; simp [insS']
    · rw [Maps.has_put_other (fun he => e (by obtain ⟨e1, e2⟩ := pairL_inj (inR_nat (by omega)) (inR_nat (by omega)) rl rg he; omega)), h.group l' g' h1 h2]; simp [insS', e]
theorem SeenAt.of_block (h : SeenAt m A B c w) (e : w'.heap[m]? = w.heap[m]?) : SeenAt m A B c w' := by
  obtain ⟨D, n, ⟨es, clock, h1, h2⟩, h3⟩ := h
  exact ⟨D, n, ⟨es, clock, e.trans h1, h2⟩, h3⟩
theorem SeenAt.made (w : World) : SeenAt w.heap.size (fun _ => false) (fun _ => false) 0 (w.alloc (.map #[] 0)) := ⟨_, 0, World.ownsMap_made w _ _ _, rfl, fun _ _ => rfl, fun _ _ _ _ => rfl⟩
theorem SeenAt.len (h : SeenAt m A B c w) (ty : TypeId) : (Builtin.len_ #[90] ty #[.map (some m)]).run Tryz.prog w = .ok (.int .i64 c) w := by
  obtain ⟨D, n, ho, hs, _⟩ := h
  rw [World.ownsMap.len ho Tryz.underlying90 ty, hs]
theorem SeenAt.storeUnit (h : SeenAt m A B c w) (hc : c ≤ 1000) {l : Nat} (hl : l < 4) : ∃ w', (Instr.mapUpdate 90 (.map (some m)) (pairV l (-1)) (.bool true)).run Tryz.prog w = .ok () w' ∧ SeenAt m (insS' l A) B (if A l then c else c + 1) w' ∧ w.grownBy w' (some m) := by
  obtain ⟨D, n, ho, hs, hD⟩ := h
  have hb := max_big
  obtain ⟨w', hrun, hown, ht⟩ := World.ownsMap.store (tight_any ho) keyedPair Tryz.underlying90 (show Maps.size D < maxLen by omega) (key_pair (inR_nat (show l ≤ 100000 by omega)) inR_neg) (plainElem_bool Tryz.underlying4 true)
  exact ⟨w', hrun, ⟨_, _, hown, by rw [Maps.size_put (World.ownsMap.tidy ho keyedPair), hD.unit l hl, hs], hD.putUnit (World.ownsMap.isMap ho) _ hl⟩, ht.grown⟩
theorem SeenAt.storeGroup (h : SeenAt m A B c w) (hc : c ≤ 1000) {l g : Nat} (hl : l < 4) (hg : g < 16) : ∃ w', (Instr.mapUpdate 90 (.map (some m)) (pairV l g) (.bool true)).run Tryz.prog w = .ok () w' ∧ SeenAt m A (insS' (l * 16 + g) B) (if B (l * 16 + g) then c else c + 1) w' ∧ w.grownBy w' (some m) := by
  obtain ⟨D, n, ho, hs, hD⟩ := h
  have hb := max_big
  obtain ⟨w', hrun, hown, ht⟩ := World.ownsMap.store (tight_any ho) keyedPair Tryz.underlying90 (show Maps.size D < maxLen by omega) (key_pair (inR_nat (show l ≤ 100000 by omega)) (inR_nat (show g ≤ 100000 by omega))) (plainElem_bool Tryz.underlying4 true)
  exact ⟨w', hrun, ⟨_, _, hown, by rw [Maps.size_put (World.ownsMap.tidy ho keyedPair), hD.group l g hl hg, hs], hD.putGroup (World.ownsMap.isMap ho) _ hl hg⟩, ht.grown⟩
end
end Go.Proofs.YtfagnbjjffjcbaaGreatDoor

/-
  Law 09's need: the nodes that a map takes.
-/
set_option linter.unusedSimpArgs false
set_option linter.unusedVariables false
namespace Go.Proofs.YtfagnbjjffjcbaaGreatDoor
open Go.RowKit Sh Go.Maps Go.ChangeMaps Go.MapKept Go.Extern.Stop Go.Stop Go.Extern

theorem sixHas {D : DataW Unit} {kl : Go.Lit} {d : DataW Unit} (h : ∀ zd, D.atKey kl zd = d) : Maps.has D kl = true := by
  exact Maps.has_true_of_atKey h
theorem pairsRanges {w w' : World} {b r n cnt : Nat} {D : DataW Unit} {left : Go.Lit → Bool} (h : w.ranges Tryz.prog 82 (plainElem Tryz.prog 3) b r n D left cnt) (hb : w'.heap[b]? = w.heap[b]?) (hr : w'.heap[r]? = w.heap[r]?) : w'.ranges Tryz.prog 82 (plainElem Tryz.prog 3) b r n D left cnt := by
  obtain ⟨es, clock, since, seen, c0, h1, h2, h3, h4, h5, h6⟩ := h
  exact ⟨es, clock, since, seen, c0, hb.trans h1, h2, h3, h4, hr.trans h5, h6⟩
theorem invPair (key : Value) (kl : Go.Lit) (h : keyOf Tryz.prog 82 key = some kl) : ∃ p : Value, key = p := ⟨key, rfl⟩
/-- The step of a range over what a forest has. -/
theorem wpList_next_num {w : World} {v : Nat → Nat} {ops : Array Oper} {rest : List Oper} {o : Oper} {a : Act} {Q : Exit → Act → World → Prop} (hg : o.guard = none) (it : Operand) (hop : o.op = Op.next it false) (b r n : Nat) (D : DataW Unit) (hD : NumD D v) (left : Go.Lit → Bool) (cnt : Nat)
    (hit : a.eval it = .pointer (some ⟨r, 0, none⟩)) (h : w.ranges Tryz.prog 82 (plainElem Tryz.prog 3) b r n D left cnt)
    (hDone : Later ((∀ kl, left kl = false) → wpList Tryz.prog ops Q rest (a.put o.dst (.tuple #[.bool false])) w))
    (hMore : Later (∀ (l bl : Nat) (e : Value) (w' : World) (cnt' : Nat), l < 4 → bl < 256 → v (l * 256 + bl) ≠ 0 → w'.ranges Tryz.prog 82 (plainElem Tryz.prog 3) b r n D (fun z => left z && !z.sameKey (pairL l bl)) cnt' → cnt' < cnt →
      w.grownBy w' (some r) → w'.heap.size = w.heap.size → (Instr.entry (.pointer (some ⟨r, 0, none⟩))).run Tryz.prog w' = .ok (.tuple #[pairV l bl, e]) w' → wpList Tryz.prog ops Q rest (a.put o.dst (.tuple #[.bool true, pairV l bl, e])) w')) :
    wpList Tryz.prog ops Q (o :: rest) a w := by
  refine wpList_next_ranges _ hg it hop 82 keyedPair (plainElem Tryz.prog 3) (fun p : Value => p) (fun p : Value => p) (fun key kl _ => ⟨key, rfl⟩) (fun u y _ => ⟨u, rfl⟩) b r n D left cnt hit h (fun _ hl => hDone hl) ?_
  intro x p kl y w3 cnt1 hkey hlk hv hat hrg1 hlt hg1 hs1 hen
  have hh := sixHas hat
  obtain ⟨l, bl, hl, hbl, rfl⟩ := hD.only kl hh
  have hx : x = pairV l bl := keyedPair.inj hkey (key_pair (inR_nat (show l ≤ 100000 by omega)) (inR_nat (show bl ≤ 100000 by omega)))
  subst hx
  rw [hD.has_ l bl hl hbl] at hh
  exact hMore l bl p w3 cnt1 hl hbl (by simpa using hh) hrg1 hlt hg1 hs1 hen
/-- What has been seen. -/
structure SeenOf (v vP : Nat → Nat) (left : Go.Lit → Bool) : Prop where
  is : ∀ l b : Nat, l < 4 → b < 256 → (vP (l * 256 + b) ≠ 0 ↔ (v (l * 256 + b) ≠ 0 ∧ left (pairL l b) = false))
theorem SeenOf.next {v vP : Nat → Nat} {left : Go.Lit → Bool} (h : SeenOf v vP left) {l b : Nat} (hl : l < 4) (hb : b < 256) (hv : v (l * 256 + b) ≠ 0) : SeenOf v (setV vP (l * 256 + b) 1) (fun z => left z && !z.sameKey (pairL l b)) := by
  refine ⟨fun l' b' h1 h2 => ?_⟩
  by_cases e : l' * 256 + b' = l * 256 + b
  · obtain ⟨rfl, rfl⟩ : l' = l ∧ b' = b := by omega
    have hs : Lit.sameKey (pairL l' b') (pairL l' b') = true := WideAt.sameKey_self (pairL_key (inR_nat (by omega)) (inR_nat (by omega)))
    simp [setV, hs, hv]
  · have hne : pairL l' b' ≠ pairL l b := fun he => by
      obtain ⟨e1, e2⟩ := pairL_inj (inR_nat (by omega)) (inR_nat (by omega)) (inR_nat (by omega)) (inR_nat (by omega)) he
      exact e (by omega)
    have hs : Lit.sameKey (pairL l' b') (pairL l b) = false := by
      cases hs : Lit.sameKey (pairL l' b') (pairL l b) with
      | false => rfl
      | true => exact absurd (WideAt.sameKey_eq hs) hne
    have := h.is l' b' h1 h2
    simp [setV, e, hs, this]
theorem SeenOf.done {v vP : Nat → Nat} {left : Go.Lit → Bool} (h : SeenOf v vP left) (hl : ∀ kl, left kl = false) : takenO vP 4 = takenO v 4 := by
  refine takenO_same fun x hx => ?_
  have := h.is (x / 256) (x % 256) (by omega) (by omega)
  rw [show x / 256 * 256 + x % 256 = x by omega] at this
  simp only [hl, and_true] at this
  omega
theorem allocPr (w : World) : (Instr.alloc 82 true (.tuple #[])).run Tryz.prog w = .ok (.pointer (some ⟨w.heap.size, 0, none⟩)) (w.alloc (.cells #[.int .i64 0, .int .i64 0] 82)) := by kernel_rfl
theorem infoPr : (Tryz.prog.info? 82).map (·.size) = some 2 := by kernel_rfl
theorem builtPr (a b : Int) : Tryz.prog.built 82 [(0, .int .i64 a), (1, .int .i64 b)] = some #[.int .i64 a, .int .i64 b] := by kernel_rfl
theorem wpList_buildPr {ops : Array Oper} {Q : Exit → Act → World → Prop} {a : Act} {w : World} {o : Oper} {rest : List Oper} (x y : Operand) (ho : o.op = .build 82 #[(0, x), (1, y)]) (v u : Int) (hx : a.eval x = .int .i64 v) (hy : a.eval y = .int .i64 u)
    (hw : Region.wanted o (yielded ops a.tmps) = true) (h : wpList Tryz.prog ops Q rest (a.put o.dst (pairV v u)) w) : wpList Tryz.prog ops Q (o :: rest) a w := by
  refine wpList_val hw (exec_build w ho ?_) h
  have e : ((#[(0, x), (1, y)] : Array (Nat × Operand)).map fun (i, x) => (i, a.eval x)).toList = [(0, .int .i64 v), (1, .int .i64 u)] := by simp [hx, hy]
  rw [e]; exact builtPr v u
theorem wpList_store_unit {m c : Nat} {A B : Nat → Bool} {w : World} {ops : Array Oper} {rest : List Oper} {o : Oper} {a : Act} {Q : Exit → Act → World → Prop} (hg : o.guard = none) (p x y : Operand) (hop : o.op = .mapUpdate 90 p x y) (h : SeenAt m A B c w) (hc : c ≤ 1000) (l : Nat) (hl : l < 4) (c' : Nat) (hc' : Hid (c' = if A l then c else c + 1))
    (hm : a.eval p = .map (some m)) (hx : a.eval x = pairV l (-1)) (hy : a.eval y = .bool true)
    (hK : ∀ w', Hid (SeenAt m (insS' l A) B c' w') → Hid (w.grownBy w' (some m)) → wpList Tryz.prog ops Q rest (a.put o.dst undef) w') :
    wpList Tryz.prog ops Q (o :: rest) a w := by
  refine wpList_plain hg fun K' hK' => ?_
  obtain ⟨w', hrun, hown, ht⟩ := h.storeUnit hc hl
  rw [← hc'.out] at hown
  unfold Oper.wp
  simp only [execOp, hop, hm, hx, hy, Sem.run_bind, hrun, Result.andThen, Sem.run_pure]
  exact hK' _ _ (hK w' (Lib.hid hown) (Lib.hid ht))
theorem wpList_store_group {m c : Nat} {A B : Nat → Bool} {w : World} {ops : Array Oper} {rest : List Oper} {o : Oper} {a : Act} {Q : Exit → Act → World → Prop} (hg : o.guard = none) (p x y : Operand) (hop : o.op = .mapUpdate 90 p x y) (h : SeenAt m A B c w) (hc : c ≤ 1000) (l g : Nat) (hl : l < 4) (hgg : g < 16) (c' : Nat) (hc' : Hid (c' = if B (l * 16 + g) then c else c + 1))
    (hm : a.eval p = .map (some m)) (hx : a.eval x = pairV l g) (hy : a.eval y = .bool true)
    (hK : ∀ w', Hid (SeenAt m A (insS' (l * 16 + g) B) c' w') → Hid (w.grownBy w' (some m)) → wpList Tryz.prog ops Q rest (a.put o.dst undef) w') :
    wpList Tryz.prog ops Q (o :: rest) a w := by
  refine wpList_plain hg fun K' hK' => ?_
  obtain ⟨w', hrun, hown, ht⟩ := h.storeGroup hc hl hgg
  rw [← hc'.out] at hown
  unfold Oper.wp
  simp only [execOp, hop, hm, hx, hy, Sem.run_bind, hrun, Result.andThen, Sem.run_pure]
  exact hK' _ _ (hK w' (Lib.hid hown) (Lib.hid ht))
/-- Two stores make of what was seen what is seen with one entry more. -/
theorem seen_two {vP : Nat → Nat} {l b : Nat} (hl : l < 4) (hb : b < 256) (m : Nat) (w : World)
    (h : SeenAt m (insS' l fun l => cntO vP l 16 != 0) (insS' (l * 16 + b / 16) fun j => occ vP j) (if occ vP (l * 16 + b / 16) then (if (cntO vP l 16 != 0) then takenO vP 4 else takenO vP 4 + 1) else (if (cntO vP l 16 != 0) then takenO vP 4 else takenO vP 4 + 1) + 1) w) :
    SeenAt m (fun l' => cntO (setV vP (l * 256 + b) 1) l' 16 != 0) (fun j => occ (setV vP (l * 256 + b) 1) j) (takenO (setV vP (l * 256 + b) 1) 4) w := by
  have hx : (l * 256 + b) / 16 = l * 16 + b / 16 := by omega
  have hx2 : (l * 256 + b) / 256 = l := by omega
  have hx3 : (l * 256 + b) / 16 % 16 < 16 := Nat.mod_lt _ (by omega)
  have hocc : occ vP (l * 16 + b / 16) = true → cntO vP l 16 ≠ 0 := fun ho => by
    have := cntO_occ ho 16 (Nat.mod_lt _ (by omega))
    rw [show (l * 16 + b / 16) / 16 = l by omega] at this
    omega
  obtain ⟨D, n, ho, hs, hD⟩ := h
  refine ⟨D, n, ho, ?_, fun l' h1 => ?_, fun l' g h1 h2 => ?_⟩
  · rw [hs, takenO_add (x := l * 256 + b) (y := 1) (by omega) 4, hx, hx2]
    cases hoc : occ vP (l * 16 + b / 16) with
    | true =>
      have := hocc hoc
      simp [this]
    | false =>
      by_cases h0 : cntO vP l 16 = 0
      · simp [h0, hl]
      · simp [h0, hl]
  · rw [hD.unit l' h1, cntO_add (x := l * 256 + b) (y := 1) (by omega) l' 16 (Nat.le_refl _), hx2, hx]
    unfold insS'
    by_cases e : l' = l
    · subst e
      have h4 : (l' * 16 + b / 16) % 16 < 16 := Nat.mod_lt _ (by omega)
      cases hoc : occ vP (l' * 16 + b / 16) with
      | true => have := hocc hoc; simp [this]
      | false =>
        rw [if_pos (show l' = l' ∧ (l' * 16 + b / 16) % 16 < 16 ∧ false = false from ⟨rfl, h4, rfl⟩)]
        simp
    · simp [e]
  · rw [hD.group l' g h1 h2]
    unfold insS'
    by_cases e : l' * 16 + g = l * 16 + b / 16
    · rw [e, ← hx, occ_set_true (by omega)]; simp
    · rw [occ_set_ne (by rw [hx]; exact e)]; simp [e]
section
variable {v : Nat → Nat} {mb c : Nat} {w : World}
set_option maxRecDepth 100000 in
set_option maxHeartbeats 8000000 in
theorem need_any (h : NumAt mb v c w) : Calls Tryz.prog 17 #[.map (some mb)] w (RetQ (.int .i64 (takenO v 4 : Nat)) w) := by
  obtain ⟨D, ho, hD⟩ := h
  have hmlt := World.ownsMap.lt ho
  have hsz := World.ownsMap.size_le ho
  have ho1 := ho.alloc (.map #[] 0)
  have hS1 := SeenAt.made w
  have hb1 : Below w.heap.size w (w.alloc (.map #[] 0)) := (Below.refl _ _).alloc (Nat.le_refl _) _
  have hsz1 : (w.alloc (.map #[] 0)).heap.size = w.heap.size + 1 := by simp
  have hmm := @run_makeMap Tryz.prog
  have Ho1 := Lib.hid ho1; have HS1 := Lib.hid hS1; have Hb1 := Lib.hid hb1; have Hsz1 := Lib.hid hsz1; have HD := Lib.hid hD; have Hmlt := Lib.hid hmlt
  clear ho ho1 hS1 hb1 hsz1 hD hmlt
  go_enter Tryz.func17, Tryz.ntmps17
  go_wp2_with (first
    | (at_range; refine wpList_range_own _ rfl _ 28 rfl 82 3 keyedPair Tryz.underlying28 (plainElem Tryz.prog 3) mb c D rfl Ho1.out ?_; intro w2 hrg hg2 hs2))
  try go_frame
  have hb1 := Hb1.out; have hS1 := HS1.out; have hsz1 := Hsz1.out
  clear Hb1 HS1 Hsz1 Ho1 hmm
  generalize w.alloc (.map #[] 0) = w1 at hb1 hS1 hsz1 hrg hg2 hs2 ⊢
  obtain ⟨B, hB⟩ : ∃ B, w.heap.size = B := ⟨_, rfl⟩
  rw [hB] at hb1 hS1 hsz1
  rw [hsz1] at hrg hs2
  try rw [hB]
  obtain ⟨R, hR⟩ : ∃ R, B + 1 = R := ⟨_, rfl⟩
  rw [hR] at hrg hs2 hsz1
  first | rw [hR] | rw [hsz1]
  have HB := Lib.hid hB
  have hS2 : SeenAt B (fun _ => false) (fun _ => false) 0 w2 := hS1.of_block (hg2.block B (by omega) (by simp))
  have hb2 : Below B w w2 := hb1.trans ⟨hg2.os, hg2.tape, hg2.output, hg2.size, fun k hk => hg2.block k (by omega) (by simp)⟩
  have hmB : mb < B := by have := Hmlt.out; omega
  have hBR : B < R := by omega
  have Hrg := Lib.hid hrg; have HS2 := Lib.hid hS2; have Hb2 := Lib.hid hb2
  have Hs2 := Lib.hid hs2
  clear hrg hS2 hb2 hb1 hS1 hg2 hs2 hB hR Hmlt
  go_loopg [4] (Maps.size D) (fun gg q wr => ∃ (left : Go.Lit → Bool) (vP : Nat → Nat), wr.ranges Tryz.prog 82 (plainElem Tryz.prog 3) mb R c D left gg ∧ SeenAt B (fun l => cntO vP l 16 != 0) (fun j => occ vP j) (takenO vP 4) wr ∧ SeenOf v vP left ∧ Below B w wr ∧ R < wr.heap.size)
  case atStart =>
    refine ⟨_, fun _ => 0, Hrg.out, ?_, ⟨fun l b h1 h2 => ?_⟩, Hb2.out, by have := Hs2.out; omega⟩
    · have h0 : (fun l => cntO (fun _ => 0) l 16 != 0) = fun _ : Nat => false := by
        funext l
        have : ∀ k, cntO (fun _ => 0) l k = 0 := fun k => by
          induction k with
          | zero => rfl
          | succ k ih => simp only [cntO]; rw [ih]; simp [occ]
        simp [this]
      have h1 : (fun j => occ (fun _ => 0) j) = fun _ : Nat => false := by funext j; simp [occ]
      have h2 : takenO (fun _ => 0) 4 = 0 := by decide +kernel
      rw [h0, h1, h2]; exact HS2.out
    · have := HD.out.has_ l b h1 h2
      simp [this]
  case round =>
    clear Hrg HS2 Hb2 Hs2
    obtain ⟨left, vP, hrg, hS, hV, hb, hRl⟩ := hrel
    have hsB : B ≤ wr.heap.size := by omega
    go_wp2_with (first
      | (at_next; refine wpList_next_num rfl _ rfl mb R c D HD.out left gk rfl hrg ?_ ?_))
    · unfold Later
      intro hl0
      have htk := hV.done hl0
      have hln := fun ty => hS.len ty
      rw [htk] at hln
      have Hb := Lib.hid hb
      clear hrg hS hV hb htk hl0
      go_wp2
      go_ret
      exact ⟨rfl, by rw [HB.out]; exact Hb.out⟩
    · unfold Later
      intro l b e w3 cnt1 hl hbl hv hrg1 hlt hg1 hs1 hen
      have hS3 := hS.of_block (w' := w3) (hg1.block B (by omega) (by simp; omega))
      have hb3 : Below B w w3 := below_of_grown hb hg1 (by omega) (by omega)
      obtain ⟨pv, Hpv⟩ : ∃ pv : List Value, Hid (pv = [.int .i64 (l : Int), .int .i64 (b : Int)]) := ⟨_, rfl⟩
      have hpV : pairV l b = .agg pv.toArray := by rw [Hpv.out]; rfl
      have hpi : Hid ((Tryz.prog.info? 82).map (·.size) = some pv.toArray.size) := by rw [Hpv.out]; exact infoPr
      have hpz : Hid ((#[.int .i64 0, .int .i64 0] : Array Value).size = pv.toArray.size) := by show (#[.int .i64 0, .int .i64 0] : Array Value).size = pv.toArray.size; rw [Hpv.out]; rfl
      have hp1 : Hid (pv.toArray.all (·.oneCell') = true) := by rw [Hpv.out]; exact all_oneCell_toArray (fun u hu => by simp only [List.mem_cons, List.not_mem_nil, or_false] at hu; rcases hu with rfl | rfl <;> rfl)
      rw [hpV] at hen ⊢
      have hV' := hV.next hl hbl hv
      have HV' := Lib.hid hV'; have Hrg1 := Lib.hid hrg1; have HS3 := Lib.hid hS3; have Hb3 := Lib.hid hb3; have Hlt := Lib.hid hlt
      have ht68 := takenO_le vP 4
      have Hs1 := Lib.hid hs1
      clear hV' hrg1 hS3 hb3 hlt hrg hS hV hb hv hg1 hpV hs1
      go_upto_region 5 with (first
        | (refine wpList_alloc_arr rfl 82 rfl _ allocPr ?_)
        | (refine wpList_store_new rfl 82 _ _ rfl w3.heap.size rfl pv.toArray rfl rfl 82 _ hpi.out hpz.out hp1.out ?_))
      have hbx : Below w3.heap.size w3 (w3.alloc (.cells pv.toArray 82)) := (Below.refl _ _).alloc (Nat.le_refl _) _
      have hyx : (w3.alloc (.cells pv.toArray 82)).heap[w3.heap.size]? = some (.cells pv.toArray 82 (0, 0)) := heap_alloc_new w3 _
      generalize w3.alloc (.cells pv.toArray 82) = w4 at hbx hyx ⊢
      obtain ⟨y, hy⟩ : ∃ y, w3.heap.size = y := ⟨_, rfl⟩
      have hs1 := Hs1.out
      rw [hy] at hyx hbx hs1 ⊢
      have hB3 := Hb3.out.size
      have hS4 := HS3.out.of_block (w' := w4) (hbx.block B (by omega))
      have hR4 : ∀ k, k < y → w4.heap[k]? = w3.heap[k]? := fun k hk => hbx.block k hk
      have hb4 : Below B w w4 := Hb3.out.trans (hbx.mono (by omega))
      have hrg4 := pairsRanges (w' := w4) Hrg1.out (hR4 mb (by omega)) (hR4 R (by omega))
      have k0 : w4.cell? ⟨y, 0, none⟩ = some (.int .i64 (l : Int)) := by rw [cell_of_row w4 y 0 _ _ _ hyx, Hpv.out]; rfl
      have k1 : w4.cell? ⟨y, 1, none⟩ = some (.int .i64 (b : Int)) := by rw [cell_of_row w4 y 1 _ _ _ hyx, Hpv.out]; rfl
      have hyB : B < y := by omega
      have Hy := Lib.hid hyx
      have HS4 := Lib.hid hS4; have Hb4 := Lib.hid hb4; have Hrg4 := Lib.hid hrg4
      have hyl := (Array.getElem?_eq_some_iff.1 hyx).1
      have Hyl := Lib.hid hyl; have HRy := Lib.hid (show R < y by omega)
      clear hy hbx hyx hS4 hR4 hb4 hrg4 hpi hpz hp1 hen Hrg1 HS3 Hb3 hyl k1 hs1 Hs1
      have ht1000 : takenO vP 4 ≤ 1000 := by omega
      have hdv : ((b : Int)).tdiv 16 = ((b / 16 : Nat) : Int) := by rw [Int.tdiv_eq_ediv_of_nonneg (by omega)]; omega
      obtain ⟨G, hG⟩ : ∃ G, b / 16 = G := ⟨_, rfl⟩
      have hG16 : G < 16 := by omega
      rw [hG] at hdv
      have HG := Lib.hid hG
      obtain ⟨c1, Hc1⟩ : ∃ c1, Hid (c1 = if (cntO vP l 16 != 0) then takenO vP 4 else takenO vP 4 + 1) := ⟨_, rfl⟩
      obtain ⟨c2, Hc2⟩ : ∃ c2, Hid (c2 = if occ vP (l * 16 + G) then c1 else c1 + 1) := ⟨_, rfl⟩
      have hc5 : c1 ≤ 1000 := by rw [Hc1.out]; split <;> omega
      have Hdv := Lib.hid hdv
      clear hG hdv
      go_wp2_with (first
        | (refine wpList_buildPr _ _ rfl (l : Int) (-1) rfl rfl (by rfl) ?_)
        | (refine wpList_store_unit rfl _ _ _ rfl HS4.out ht1000 l hl c1 Hc1 rfl rfl rfl ?_
           intro w5 HS5 Hg5
           have hy5 := (Hg5.out.block y Hyl.out (by simp; omega)).trans Hy.out
           have m0 : w5.cell? ⟨y, 0, none⟩ = some (.int .i64 (l : Int)) := by rw [cell_of_row w5 y 0 _ _ _ hy5, Hpv.out]; rfl
           have m1 : w5.cell? ⟨y, 1, none⟩ = some (.int .i64 (b : Int)) := by rw [cell_of_row w5 y 1 _ _ _ hy5, Hpv.out]; rfl
           have Hb5 := Lib.hid (below_of_grown Hb4.out Hg5.out (by have := Hyl.out; omega) (Nat.le_refl _))
           have Hrg5 := Lib.hid (pairsRanges (w' := w5) Hrg4.out (Hg5.out.block mb (by have := Hyl.out; omega) (by simp; omega)) (Hg5.out.block R (by have := HRy.out; have := Hyl.out; omega) (by simp; omega)))
           have Hl5 := Lib.hid (Nat.lt_of_lt_of_le Hyl.out Hg5.out.size)
           have hdv := Hdv.out
           clear hy5 k0 HS4)
        | (refine wpList_buildPr _ _ rfl (l : Int) (G : Int) rfl rfl (by rfl) ?_)
        | (refine wpList_store_group rfl _ _ _ rfl HS5.out hc5 l G hl hG16 c2 Hc2 rfl rfl rfl ?_; intro w6 HS6 Hg6))
      have hS6 := HS6.out
      rw [Hc2.out, Hc1.out, ← HG.out] at hS6
      have hS6' := seen_two hl hbl B w6 hS6
      have hb6 := below_of_grown Hb5.out Hg6.out (by have := Hl5.out; omega) (Nat.le_refl _)
      have hrg6 := pairsRanges (w' := w6) Hrg5.out (Hg6.out.block mb (by have := Hl5.out; omega) (by simp; omega)) (Hg6.out.block R (by have := HRy.out; have := Hl5.out; omega) (by simp; omega))
      have hR6 : R < w6.heap.size := by have := HRy.out; have := Hl5.out; have := Hg6.out.size; omega
      go_roundg cnt1
      case measure => exact Hlt.out
      case rel => exact ⟨_, _, hrg6, hS6', HV'.out, hb6, hR6⟩
end
end Go.Proofs.YtfagnbjjffjcbaaGreatDoor

/-
  What a walk of law 09's run needs: a map's operations in their place, blocks beside a book in any order.
-/
set_option linter.unusedSimpArgs false
set_option linter.unusedVariables false
namespace Go.Proofs.YtfagnbjjffjcbaaGreatDoor
open Go.RowKit Sh Go.Maps Go.ChangeMaps Go.MapKept Go.Extern.Stop Go.Stop Go.Extern

theorem OwnX.sub {b : Bk} {gd g : Nat} {T T' : List (Nat × Obj)} {w0 w : World} (h : OwnX b gd g T w0 w) (hs : ∀ y ∈ T', y ∈ T) : OwnX b gd g T' w0 w := by
  obtain ⟨Fd, gr, bn, bt, hi, hF⟩ := h.ex
  exact ⟨⟨Fd, gr, bn, bt, hi, fun k hk => ⟨(hF k hk).1, fun y hy => (hF k hk).2 y (hs y hy)⟩⟩, h.bel, fun y hy => h.arr y (hs y hy)⟩
theorem NumAt.cell {m c : Nat} {v : Nat → Nat} {w : World} (h : NumAt m v c w) : (∃ o, w.heap[m]? = some o) ∧ ∀ s, w.cell? ⟨m, 0, none⟩ ≠ some (.string s) := by
  obtain ⟨_, ⟨es, cl, h, _⟩, _⟩ := h
  exact ⟨⟨_, h⟩, fun s => by simp [World.cell?, h]⟩
theorem NumX.cell {m c l b : Nat} {v : Nat → Nat} {w : World} (h : NumX m v l b c w) : (∃ o, w.heap[m]? = some o) ∧ ∀ s, w.cell? ⟨m, 0, none⟩ ≠ some (.string s) := by
  obtain ⟨_, ⟨es, cl, h, _⟩, _⟩ := h
  exact ⟨⟨_, h⟩, fun s => by simp [World.cell?, h]⟩
theorem wpList_buildPv {ops : Array Oper} {Q : Exit → Act → World → Prop} {a : Act} {w : World} {o : Oper} {rest : List Oper} (x y : Operand) (ho : o.op = .build 82 #[(0, x), (1, y)]) (v u : Int) (hx : a.eval x = .int .i64 v) (hy : a.eval y = .int .i64 u) (pv : List Value) (hp : Hid (pv = [.int .i64 v, .int .i64 u]))
    (hw : Region.wanted o (yielded ops a.tmps) = true) (h : wpList Tryz.prog ops Q rest (a.put o.dst (.agg pv.toArray)) w) : wpList Tryz.prog ops Q (o :: rest) a w := by
  refine wpList_buildPr x y ho v u hx hy hw ?_
  have e : pairV v u = .agg pv.toArray := by rw [hp.out]; rfl
  rw [e]; exact h
theorem wpList_load_pr {ops : Array Oper} {Q : Exit → Act → World → Prop} {a : Act} {w : World} {o : Oper} {rest : List Oper} (x : Operand) (ho : o.op = .load 82 x) (b off : Nat) (hx : a.eval x = .pointer (some ⟨b, off, none⟩)) (p : Array Value)
    (hr : (Instr.loadAt 82 (.pointer (some ⟨b, off, none⟩))).run Tryz.prog w = .ok (.agg p) w) (hw : Region.wanted o (yielded ops a.tmps) = true) (h : wpList Tryz.prog ops Q rest (a.put o.dst (.agg p)) w) : wpList Tryz.prog ops Q (o :: rest) a w :=
  wpList_val hw (exec_load _ _ 82 x ho b off hx p hr) h
theorem wpList_look_num {ops : Array Oper} {Q : Exit → Act → World → Prop} {a : Act} {w : World} {o : Oper} {rest : List Oper} (cm : Bool) (m x : Operand) (ho : o.op = .lookup 28 m x cm) (mv kv r : Value) (hm : a.eval m = mv) (hx : a.eval x = kv)
    (hr : (Instr.lookup 28 mv kv cm).run Tryz.prog w = .ok r w) (hw : Region.wanted o (yielded ops a.tmps) = true) (h : wpList Tryz.prog ops Q rest (a.put o.dst r) w) : wpList Tryz.prog ops Q (o :: rest) a w := by
  refine wpList_val hw ?_ h
  simp only [execOp, ho, hm, hx, Sem.run_bind, hr, Result.andThen, Sem.run_pure]
section
variable {m c : Nat} {v : Nat → Nat} {w : World} {ops : Array Oper} {rest : List Oper} {o : Oper} {a : Act} {Q : Exit → Act → World → Prop}
theorem wpList_put_num (hg : o.guard = none) (p x y : Operand) (hop : o.op = .mapUpdate 28 p x y) (h : NumAt m v c w) (hc : c ≤ 10000) (l b z : Nat) (hl : l < 4) (hb : b < 256) (hz : z ≠ 0) (hz2 : z < 16777216) (kv : Value) (hk : Hid (pairV l b = kv))
    (hm : a.eval p = .map (some m)) (hx : a.eval x = kv) (hy : a.eval y = .int .i64 (z : Nat))
    (hK : ∀ w', Hid (NumAt m (setV v (l * 256 + b) z) (c + 1) w') → Hid (w.grownBy w' (some m)) → wpList Tryz.prog ops Q rest (a.put o.dst undef) w') :
    wpList Tryz.prog ops Q (o :: rest) a w := by
  refine wpList_plain hg fun K' hK' => ?_
  obtain ⟨w', hrun, hown, ht⟩ := h.store hc hl hb hz hz2
  rw [hk.out] at hrun
  unfold Oper.wp
  simp only [execOp, hop, hm, hx, hy, Sem.run_bind, hrun, Result.andThen, Sem.run_pure]
  exact hK' _ _ (hK w' (Lib.hid hown) (Lib.hid ht))
theorem wpList_put_none (hg : o.guard = none) (p x y : Operand) (hop : o.op = .mapUpdate 28 p x y) (h : NumAt m v c w) (hc : c ≤ 10000) (l b : Nat) (hl : l < 4) (hb : b < 256) (kv : Value) (hk : Hid (pairV l b = kv))
    (hm : a.eval p = .map (some m)) (hx : a.eval x = kv) (hy : a.eval y = .int .i64 0)
    (hK : ∀ w', Hid (NumX m v l b (c + 1) w') → Hid (w.grownBy w' (some m)) → wpList Tryz.prog ops Q rest (a.put o.dst undef) w') :
    wpList Tryz.prog ops Q (o :: rest) a w := by
  refine wpList_plain hg fun K' hK' => ?_
  obtain ⟨w', hrun, hown, ht⟩ := h.store0 hc hl hb
  rw [hk.out] at hrun
  unfold Oper.wp
  simp only [execOp, hop, hm, hx, hy, Sem.run_bind, hrun, Result.andThen, Sem.run_pure]
  exact hK' _ _ (hK w' (Lib.hid hown) (Lib.hid ht))
theorem wpList_drop_num (hg : o.guard = none) (p x : Operand) (hop : o.op = Op.call { callee := Callee.builtin Builtin.delete, args := #[p, x], argTypes := #[28, 82] }) (l b : Nat) (h : NumX m v l b c w) (hl : l < 4) (hb : b < 256) (kv : Value) (hk : Hid (pairV l b = kv))
    (hm : a.eval p = .map (some m)) (hx : a.eval x = kv)
    (hK : ∀ w', Hid (NumAt m (setV v (l * 256 + b) 0) c w') → Hid (w.grownBy w' (some m)) → wpList Tryz.prog ops Q rest (a.put o.dst (.tuple #[])) w') :
    wpList Tryz.prog ops Q (o :: rest) a w := by
  refine wpList_plain hg fun K' hK' => ?_
  obtain ⟨w', hrun, hown, ht⟩ := h.drop hl hb o.type
  rw [hk.out] at hrun
  unfold Oper.wp
  simp only [execOp, hop, resolve, invoke, builtin]
  simp [hm, hx, hrun, Result.andThen]
  exact hK' _ _ (hK w' (Lib.hid hown) (Lib.hid ht))
end
theorem map_cell {w : World} {r : Nat} {es : Array MapEntry} {clock : Nat} (h : w.heap[r]? = some (.map es clock)) : ∀ s, w.cell? ⟨r, 0, none⟩ ≠ some (.string s) := fun s => by simp [World.cell?, h]
def OwnXUE (b : Bk) (gd g : Nat) (T : List (Nat × Obj)) (w0 w : World) (e : Ending) (w' : World) : Prop := e = .returned (.tuple #[]) ∧ OwnX b gd g T w0 w' ∧ ∀ n u, ErrV w n u → ErrV w' n u
/-- Undo, beside errors. -/
theorem OwnX.undoE {b : Bk} {gd g : Nat} {T : List (Nat × Obj)} {w0 w : World} (h : OwnX b gd g T w0 w) : Calls Tryz.prog 26 #[.pointer (some ⟨g, 0, none⟩)] w (OwnXUE { b with txn := [] } gd g T w0 w) := by
  obtain ⟨Fd, gr, bn, bt, hB, hF⟩ := h.ex
  refine (undo_in hB).mono ?_
  rintro e w' ⟨rfl, hi, hg⟩
  have hBr : Br Fd gd gr bn bt g w { b with txn := [] } Fd w' := ⟨hi, Only.of_grown (F := fun k => BFoot Fd gr bn bt g k) hg (fun k e => .inr (.inr (.inr (.inl (by simpa using e.symm))))), fun k hk => .inl hk⟩
  obtain ⟨es, clock, hm, _⟩ := hB.txn.owns
  exact ⟨rfl, h.turn hF hBr, fun n u hE => hE.other (map_cell hm) hg⟩
/-- What a call makes of what a forest of N nodes has. -/
def runV (N : Nat) (v : Nat → Nat) (lun block xx : Int) : Nat → Nat :=
  if 0 ≤ lun ∧ lun < 4 ∧ 0 ≤ block ∧ block < 256 ∧ 0 ≤ xx ∧ xx < 16777216 then
    if takenO (setV v (lun.toNat * 256 + block.toNat) xx.toNat) 4 ≤ N then setV v (lun.toNat * 256 + block.toNat) xx.toNat else v
  else v
theorem setV_back {v : Nat → Nat} {x y : Nat} (h : v x = 0) : setV (setV v x y) x 0 = v := by
  funext z
  unfold setV
  by_cases e : z = x
  · rw [if_pos e, e, h]
  · rw [if_neg e, if_neg e]
theorem setV_same {v : Nat → Nat} {x : Nat} : setV v x (v x) = v := by
  funext z
  unfold setV
  split
  · rename_i e; rw [e]
  · rfl
/-- What is refused had nothing there. -/
theorem refused_none {v : Nat → Nat} {x y N : Nat} (hx : x < 1024) (h1 : takenO v 4 ≤ N) (h2 : N < takenO (setV v x y) 4) : v x = 0 ∧ y ≠ 0 := by
  have hy : y ≠ 0 := fun hy => by
    subst hy
    have := takenO_set (v := v) (x := x) (y := 0) (fun j hj => by
      by_cases e : j = x / 16
      · cases ho : occ v j with
        | true => rfl
        | false =>
          have h0 := occ_false.1 ho
          have : occ (setV v x 0) j = false := by
            rw [e, occ_set_eq, ← e, h0]
            unfold noneL
            exact List.set_replicate_self
          rw [this] at hj; cases hj
      · rw [occ_set_ne e] at hj; exact hj) 4
    omega
  refine ⟨?_, hy⟩
  cases hv : v x with
  | zero => rfl
  | succ k =>
    exfalso
    have := takenO_same (v := setV v x y) (u := v) (fun z _ => by
      unfold setV
      split
      · rename_i e; rw [e, hv]; constructor <;> intro h <;> omega
      · exact Iff.rfl)
    omega
def RunP (gd g mb x N : Nat) (v' : Nat → Nat) (cc d : Nat) (w0 : World) (e : Ending) (w' : World) : Prop := e = .returned (.bool true) ∧ ∃ bk' o', OwnX bk' gd g [(mb, o'), (x, foO g 2 N)] w0 w' ∧ NumAt mb v' (cc + 2) w' ∧ Fo bk' 2 N v' ∧ Co bk' 300 (d + 1) ∧ bk'.txn = []
theorem Co.next {b : Bk} {D c : Nat} (h : Co b D c) : Co b D (c + 1) := ⟨by have := h.gen; omega, by have := h.ats; omega, h.n, h.firm⟩
theorem cells9 {W : World} {x0 : Nat} {p q r : Int} (h : W.heap[x0]? = some (.cells #[.int .i64 p, .int .i64 q, .int .i64 r] 30 (0, 0))) : W.cell? ⟨x0, 0, none⟩ = some (.int .i64 p) ∧ W.cell? ⟨x0, 1, none⟩ = some (.int .i64 q) ∧ W.cell? ⟨x0, 2, none⟩ = some (.int .i64 r) := by
  refine ⟨?_, ?_, ?_⟩ <;> rw [cell_of_row W x0 _ _ _ _ h] <;> rfl
theorem loadPr {W : World} {y : Nat} {pv : List Value} (hl : pv.length = 2) (h : W.heap[y]? = some (.cells pv.toArray 82 (0, 0))) : (Instr.loadAt 82 (.pointer (some ⟨y, 0, none⟩))).run Tryz.prog W = .ok (.agg pv.toArray) W :=
  run_loadAt_mid (P := Tryz.prog) W y 0 82 pv _ (fun j v hj => by rw [Nat.zero_add, cell_of_row W y j _ _ _ h]; simpa using hj) Tryz.underlying82 rfl (by rw [hl]; exact infoPr)
end Go.Proofs.YtfagnbjjffjcbaaGreatDoor
