/-
  For the law PersRuns: what an order leaves, plain; regions that draw and turn what they have read.
-/
import Derived.Test.YtkpogmigfjmacaaPeOpen3
import Derived.Test.YtkpogmigfjmacaaPePersActs
set_option linter.unusedSimpArgs false
set_option linter.unusedVariables false
namespace Go.Proofs.Ytkpogmigfjmacaa
open Go.RowKit

/-- A refusal leaves the table; the count stays, or goes on by one. -/
def Fine (T : Tb) (R : Res) : Prop := (R.2.1 ≠ 0 → R.1 = T) ∧ (R.1.g = T.g ∨ R.1.g = nextG T.g)
theorem Fine.same (T : Tb) (s : Int) (l : List Int) : Fine T (T, s, l) := ⟨fun _ => rfl, .inl rfl⟩
theorem fine_reg (T : Tb) (n a key other : Int) (ap : Bool) : Fine T (regL T n a key other ap) := by
  unfold regL
  split
  · exact Fine.same ..
  split
  · exact Fine.same ..
  split
  · exact Fine.same ..
  split
  · exact ⟨fun h => absurd rfl h, .inr rfl⟩
  · exact ⟨fun h => absurd rfl h, .inr rfl⟩
theorem fine_resv (T : Tb) (n k : Int) : Fine T (resvL T n k) := by
  unfold resvL
  split
  · exact Fine.same ..
  split
  · exact ⟨fun h => absurd rfl h, .inl rfl⟩
  split
  · exact Fine.same ..
  split
  · exact Fine.same ..
  · exact Fine.same ..
theorem fine_rels (T : Tb) (n k : Int) : Fine T (relsL T n k) := by
  unfold relsL
  split
  · exact Fine.same ..
  split
  · exact ⟨fun h => absurd rfl h, .inl rfl⟩
  · exact Fine.same ..
theorem fine_pre (T : Tb) (n ty other : Int) : Fine T (preL T n ty other) := by
  unfold preL
  split
  · exact Fine.same ..
  split
  · exact Fine.same ..
  split
  · exact ⟨fun h => absurd rfl h, .inr rfl⟩
  split
  · exact Fine.same ..
  · exact ⟨fun h => absurd rfl h, .inr rfl⟩
theorem act_fine (T : Tb) (n a ty key other : Int) (ap : Bool) : Fine T (actL T n a ty key other ap) := by
  unfold actL
  split
  · exact fine_reg ..
  split
  · exact Fine.same ..
  split
  · exact Fine.same ..
  split
  · split
    · exact fine_resv ..
    split
    · exact fine_rels ..
    split
    · exact ⟨fun h => absurd rfl h, .inr rfl⟩
    · exact fine_pre ..
  · exact Fine.same ..

section
variable {P : Program} {ops : Array Oper} {Q : Exit → Act → World → Prop} {md : Region.Mode} {S S' : World → Prop} {z : Nat}
/-- Each operation behind number n waits for one from number n on. -/
def barB (md : Region.Mode) (ops : Array Oper) (n : Nat) : Bool :=
  (List.range ops.size).all fun t => decide (t ≤ n) || (List.range t).any fun j => decide (n ≤ j) && Region.waitsFor md ops t j
theorem bar_waits {n : Nat} {listed : Array Bool} (hs : Region.sinkB md ops n = true) (hb : barB md ops n = true) (inv : HeadInv md ops n listed) :
    ∀ (d i : Nat), n - i = d → i < n → listed.getD i true = false → ∀ t, n ≤ t → t ∉ Region.ready md ops listed := by
  intro d
  induction d using Nat.strongRecOn with
  | _ d ih =>
    intro i hd hi hun t ht hr
    obtain ⟨_, ot, hot, hall⟩ := mem_ready.1 hr
    have htlt : t < ops.size := (Array.getElem?_eq_some_iff.1 hot).1
    by_cases htn : t = n
    · subst htn
      have h1 := List.all_eq_true.1 hs i (List.mem_range.2 hi)
      obtain ⟨j, hj, hj2⟩ := List.any_eq_true.1 h1
      simp only [Bool.and_eq_true, decide_eq_true_eq] at hj2
      obtain ⟨oj, hoj, e, he, hb', hon⟩ := Region.waitsFor_spec hj2.2
      have hjle : j ≤ t := by have := List.mem_range.1 hj; omega
      by_cases hjt : j = t
      · subst hjt
        have : oj = ot := Option.some.inj (hoj.symm.trans hot)
        subst this
        have h2 := hall e he hb'
        rw [hon, getD_both hun] at h2
        cases h2
      · cases hl : listed.getD j false with
        | true =>
          have h2 := inv.closed j oj hoj hl e he hb'
          rw [hon, getD_both hun] at h2
          cases h2
        | false =>
          have hjs : j < listed.size := by rw [inv.size]; omega
          exact ih (t - j) (by omega) j rfl (by omega) (getD_in hjs hl) t (Nat.le_refl _) hr
    · have h1 := List.all_eq_true.1 hb t (List.mem_range.2 htlt)
      simp only [Bool.or_eq_true, decide_eq_true_eq] at h1
      rcases h1 with h1 | h1
      · omega
      · obtain ⟨j, hj, hj2⟩ := List.any_eq_true.1 h1
        simp only [Bool.and_eq_true, decide_eq_true_eq] at hj2
        obtain ⟨o', ho', e, he, hb', hon⟩ := Region.waitsFor_spec hj2.2
        have : o' = ot := Option.some.inj (ho'.symm.trans hot)
        subst this
        have h2 := hall e he hb'
        have hjt : j < t := List.mem_range.1 hj
        rw [hon, getD_both (inv.tail j hj2.1 (by omega))] at h2
        cases h2

theorem upb_first {i : Nat} {oi : Oper} {x : Value} (hi : ops[i]? = some oi) (hsel : ∀ (j : Nat) (o : Oper) cs b, ops[j]? = some o → o.op ≠ .select cs b) (hQ : ∀ c a w, Q (.panic c) (a.put oi.dst x) w → Q (.panic c) a w)
    (hs : Region.sinkB md ops z = true) (hc : barB md ops z = true) (hiz : i < z) :
    ∀ (n : Nat) (l : Array Bool) (a : Act) (w : World), HeadInv md ops z l → (∀ j oj, ops[j]? = some oj → j ≠ i → l.getD j true = false → (∀ e ∈ oj.after, Region.binds md e = true → e.on ≠ i) → oi.apart ops oj = true) →
      i ∈ Region.ready md ops l → YieldsIf P ops S oi x a → S w → upAny P md ops Q S z n (l.setIfInBounds i true) (a.put oi.dst x) w → upAny P md ops Q S z (n + 1) l a w
  | 0, l, a, w => fun _ _ hr hy hS H => ⟨(fun h => by rw [h] at hr; cases hr), fun j hj => by
      by_cases e : j = i
      · rw [e]; exact hy.wpOp hi hS ⟨.inr hS, H⟩
      · have := ready_mono hj e
        rw [H.1] at this; cases this⟩
  | n + 1, l, a, w => fun hV hfree hr hy hS H => ⟨(fun h => by rw [h] at hr; cases hr), fun j hj => by
      by_cases e : j = i
      · rw [e]; exact hy.wpOp hi hS ⟨.inr hS, H⟩
      · have hiu := (mem_ready.1 hr).1
        have hjz : j < z := Nat.lt_of_not_le fun hge => bar_waits hs hc hV _ i rfl hiz hiu j hge hj
        have hstep := H.2 j (ready_mono hj e)
        obtain ⟨hun, oj, hoj, hall⟩ := mem_ready.1 hj
        have hno : ∀ d ∈ oj.after, Region.binds md d = true → d.on ≠ i := fun d hd hb hq => by
          have u1 := hall d hd hb
          rw [hq, getD_both hiu] at u1
          cases u1
        refine wpOp_mono (fun b v hb => ?_) (wpOp_putIf hoj (hfree j oj hoj e hun hno) (fun cs b => hsel i oi cs b hi) (fun cs b => hsel j oj cs b hoj) hQ hy hstep)
        have hSv : S v := hb.2.1.resolve_left (Nat.not_le_of_lt hjz)
        exact ⟨.inr hSv, upb_first hi hsel hQ hs hc hiz n _ b v (hV.set hj hjz) (fun k ok hk hki hku hkn => hfree k ok hk hki (by
            by_cases q : j = k
            · rw [← q]; exact hun
            · rwa [getD_set_ne true q] at hku) hkn) (ready_mono hr (Ne.symm e)) hb.1 hSv (by rw [Array.setIfInBounds_comm _ _ e]; exact hb.2.2)⟩⟩

/-- An operation that only yields, taken first; number z is a bar. -/
theorem upb_take {i : Nat} {oi : Oper} {v : Value} {fuel : Nat} {listed : Array Bool} {a : Act} {w : World} (hi : ops[i]? = some oi)
    (hs : Region.noSelect ops = true) (hb : (Region.sinkB md ops z && barB md ops z) = true) (hf : (Region.free md ops listed i && (Region.ready md ops listed).contains i && decide (i < z)) = true)
    (hQ : ∀ c a w, Q (.panic c) (a.put oi.dst v) w → Q (.panic c) a w) (hy : YieldsIf P ops S oi v a) (hS : S w)
    (h : upHead P md ops Q S z fuel (listed.setIfInBounds i true) (a.put oi.dst v) w) : upHead P md ops Q S z (fuel + 1) listed a w := fun hV => by
  simp only [Bool.and_eq_true, decide_eq_true_eq] at hf hb
  obtain ⟨⟨f1, f2⟩, f6⟩ := hf
  have hr : i ∈ Region.ready md ops listed := by simpa using f2
  exact upb_first hi (Region.noSelect_spec hs) hQ hb.1 hb.2 f6 fuel listed a w hV (Region.free_spec hi f1) hr hy hS (h (hV.set hr f6))

/-- The conditions of a bar, once for all that is taken ahead of it. -/
theorem up_bar {fuel : Nat} {listed : Array Bool} {a : Act} {w : World} (hs : Region.noSelect ops = true) (hb : (Region.sinkB md ops z && barB md ops z) = true)
    (h : Hid (Region.noSelect ops = true ∧ (Region.sinkB md ops z && barB md ops z) = true) → upHead P md ops Q S z fuel listed a w) : upHead P md ops Q S z fuel listed a w := h (Lib.hid ⟨hs, hb⟩)
theorem upb_takeH {i : Nat} {oi : Oper} {v : Value} {fuel : Nat} {listed : Array Bool} {a : Act} {w : World} (hbar : Hid (Region.noSelect ops = true ∧ (Region.sinkB md ops z && barB md ops z) = true)) (hi : ops[i]? = some oi)
    (hf : (Region.free md ops listed i && (Region.ready md ops listed).contains i && decide (i < z)) = true)
    (hQ : ∀ c a w, Q (.panic c) (a.put oi.dst v) w → Q (.panic c) a w) (hy : YieldsIf P ops S oi v a) (hS : S w)
    (h : upHead P md ops Q S z fuel (listed.setIfInBounds i true) (a.put oi.dst v) w) : upHead P md ops Q S z (fuel + 1) listed a w := upb_take hi hbar.out.1 hbar.out.2 hf hQ hy hS h
theorem any_up : ∀ (n : Nat) (l : Array Bool) (a : Act) (w : World), (∀ j, j < z → l.getD j true = true) → wpAny P md ops Q n l a w → upAny P md ops Q S z n l a w
  | 0, _, _, _, _, h => h
  | n + 1, l, a, w, hl, h => ⟨h.1, fun k hk => by
      have hun := (mem_ready.1 hk).1
      have hkz : z ≤ k := Nat.le_of_not_lt fun hlt => by rw [hl k hlt] at hun; cases hun
      refine wpOp_mono (fun b v hb => ⟨.inl hkz, any_up n _ b v (fun j hj => ?_) hb⟩) (h.2 k hk)
      rw [getD_set_ne true (by omega)]
      exact hl j hj⟩
/-- Behind all that is ahead of number z: held from there on. -/
theorem up_held (S' : World → Prop) {n : Nat} {l : Array Bool} {a : Act} {w : World} (hl : ((List.range z).all fun j => l.getD j true) = true)
    (h : wpAnyH P md ops Q S' n l a w) : upHead P md ops Q S z n l a w := fun _ =>
  any_up n l a w (fun j hj => List.all_eq_true.1 hl j (List.mem_range.2 hj)) (wpAny_of_held n l a w h)
end
theorem box6 {w : World} {b : Nat} {T : TypeId} {v0 v1 v2 v3 v4 v5 : Value} (h : w.heap[b]? = some (.cells #[v0, v1, v2, v3, v4, v5] T (0, 0))) :
    b < w.heap.size ∧ w.cell? ⟨b, 0, none⟩ = some v0 ∧ w.cell? ⟨b, 1, none⟩ = some v1 ∧ w.cell? ⟨b, 2, none⟩ = some v2 ∧ w.cell? ⟨b, 3, none⟩ = some v3 ∧ w.cell? ⟨b, 4, none⟩ = some v4 ∧ w.cell? ⟨b, 5, none⟩ = some v5 ∧ ∀ o, w.frozen? ⟨b, o, none⟩ = false :=
  ⟨(Array.getElem?_eq_some_iff.1 h).1, cell_of_row w b 0 _ _ _ h, cell_of_row w b 1 _ _ _ h, cell_of_row w b 2 _ _ _ h, cell_of_row w b 3 _ _ _ h, cell_of_row w b 4 _ _ _ h, cell_of_row w b 5 _ _ _ h, fun o => by simp [World.frozen?, h]⟩
theorem load_ord {w : World} {b : Nat} {T : TypeId} {v0 v1 v2 v3 v4 v5 : Value} (h : w.heap[b]? = some (.cells #[v0, v1, v2, v3, v4, v5] T (0, 0))) :
    (Instr.loadAt 28 (.pointer (some ⟨b, 1, none⟩))).run Try.prog w = .ok (.agg #[v1, v2, v3, v4, v5]) w :=
  run_loadAt_mid (P := Try.prog) w b 1 28 [v1, v2, v3, v4, v5] _ (fun j v hj => by
    rw [cell_of_row w b (1 + j) _ _ _ h]
    rw [Nat.add_comm 1 j]
    simpa using hj) Try.underlying28 rfl infoOrd
theorem exec_load_at {w : World} {o : Oper} {ρ : Operand → Value} {ty : TypeId} {x : Operand} {a : Addr} {cs : Array Value} (ho : o.op = .load ty x) (hx : ρ x = .pointer (some a))
    (hr : (Instr.loadAt ty (.pointer (some a))).run Try.prog w = .ok (.agg cs) w) : (execOp ρ o).run Try.prog w = .ok (.value (.agg cs)) w := by
  unfold execOp
  simp only [ho, hx, Sem.run_bind, hr, Result.andThen_ok, Sem.run_pure]
theorem OwnR.keep {B q : Nat} {T : TypeId} {w w' : World} {v : Value} {l : List (Int × Int)} {cs : Array Value} (h : OwnR B w v l) (hoth : ∀ i, i ≠ q → w'.heap[i]? = w.heap[i]?) (hq : w.heap[q]? = some (.cells cs T (0, 0))) (hne : 38 ≠ T) : OwnR B w' v l := own_keep h hoth hq hne
/-- What an order answers, row by row the call's own. -/
def ActO (B : Nat) (R : Res) (e : Ending) (w w' : World) : Prop :=
  ∃ A len cap u, e = .returned (.tuple #[.agg #[.int .u32 R.1.g, .slice A len cap, .int .i64 R.1.h, .int .i64 R.1.t, .bool R.1.p], .int .i64 R.2.1, u]) ∧ OwnR B w' (.slice A len cap) R.1.l ∧ Below w.heap.size w w'
theorem KeptR.own {B : Nat} {v v' : World} {A0 : Option Addr} {len0 cap0 : Nat} {l0 : List (Int × Int)} {A : Option Addr} {len cap : Nat} {l : List (Int × Int)} (h : KeptR v A0 len0 cap0 l0 A len cap l v') (h0 : OwnR B v (.slice A0 len0 cap0) l0) (hb : Below v.heap.size v v') (hB : B ≤ v.heap.size) : OwnR B v' (.slice A len cap) l := by
  rcases h with ⟨rfl, rfl, rfl, rfl⟩ | h
  · exact h0.below hb
  · exact h.lower hB
end Go.Proofs.Ytkpogmigfjmacaa
