/-
  A map from digests to texts, as 'Clash' keeps one: what was stored last at a digest is found at it.
-/
import Derived.Test.YtegdlpllljccgaaDoorJSha
import Derived.Maps.OwnSet
import Derived.Maps.StringElems
import Derived.DeepKeys4
import Derived.Laws.IdiomStrings
set_option linter.unusedSimpArgs false
set_option linter.unusedVariables false
namespace Go.Proofs.YtegdlpllljccgaaDoor
open Go.RowKit Sh Go.Maps

def strV (t : List UInt8) : ByteArray := ⟨t.toArray⟩
theorem strV_size (t : List UInt8) : (strV t).size = t.length := by simp [strV, ByteArray.size]
theorem strV_inj {t u : List UInt8} (h : strV t = strV u) : t = u := by
  have := congrArg (fun s : ByteArray => s.data.toList) h
  simpa [strV] using this
def keyV (d : List UInt8) : Value := .agg (d.map cu8).toArray
theorem keyed32 : Keyed Tryd.prog 23 :=
  Keyed.of_law (deep_law_laid (m := 20) (by kernel_rfl) (by omega) (of_decide_eq_true (by kernel_rfl)) (by kernel_rfl) (by kernel_rfl))
theorem mapM_some {α β : Type} (f : α → Option β) (g : α → β) : ∀ (l : List α), (∀ x ∈ l, f x = some (g x)) → l.mapM f = some (l.map g)
  | [], _ => rfl
  | x :: l, h => by
    rw [List.mapM_cons, h x (by simp), mapM_some f g l (fun y hy => h y (by simp [hy]))]
    rfl
theorem keyLits_u8 (d : Nat) (b : UInt8) : Tryd.prog.keyLits (d + 1) 5 [cu8 b] = some [.int .u8 (bz b)] := by
  have hb := b.toNat_lt
  have hw : (Lit.int .u8 (bz b)).wf = true := by
    have : bz b = (b.toNat : Int) := rfl
    simp [Lit.wf, IntKind.min, IntKind.max, IntKind.bits, IntKind.signed, this]; omega
  unfold Program.keyLits
  rw [Tryd.underlying5]
  simp [cu8, hw]
/-- A digest as a map's key reads. -/
def keyL (d : List UInt8) : Lit := .string (keyBytes (d.map fun b => .int .u8 (bz b)))
theorem key_is {d : List UInt8} (h : d.length = 32) : keyOf Tryd.prog 23 (keyV d) = some (keyL d) := by
  have hc : Tryd.prog.cellsOf 23 = 32 := by kernel_rfl
  have hk : Tryd.prog.keyType 23 = true := by kernel_rfl
  have h1 : Tryd.prog.cellsOf 5 = 1 := by kernel_rfl
  obtain ⟨n, hn⟩ : ∃ n, Tryd.prog.types.size + 1 = n + 2 := ⟨Tryd.prog.types.size - 1, by
    have : 1 < Tryd.prog.types.size := of_decide_eq_true (by kernel_rfl)
    omega⟩
  have hl : (d.map cu8).length = 32 := by simp [h]
  unfold keyOf
  rw [Tryd.underlying23]
  simp only [hk, Bool.true_and]
  rw [if_pos (by simp [keyV, Value.formed, Tryd.underlying23, hc, h]), hn]
  unfold Program.keyLits
  rw [Tryd.underlying23]
  simp only [keyV, Value.cells, hc, hl, h1, if_true]
  rw [mapM_some _ (fun i => [Lit.int .u8 (bz (at8 d i))]) (List.range 32) (fun i hi => by
    have hi' := List.mem_range.1 hi
    have e : ((d.map cu8).drop (i * 1)).take 1 = [cu8 (at8 d i)] := by
      have hlt : i < (d.map cu8).length := by omega
      rw [Nat.mul_one, List.drop_eq_getElem_cons hlt, List.take_succ_cons, List.take_zero]
      simp [at8, List.getElem?_eq_getElem (show i < d.length by omega)]
    rw [e]; exact keyLits_u8 n _)]
  have e : ((List.range 32).map (fun i => [Lit.int .u8 (bz (at8 d i))])).flatten = d.map fun b => Lit.int .u8 (bz b) := by
    rw [← List.flatMap_def, ← List.map_eq_flatMap]
    apply List.ext_getElem (by simp [h])
    intro i h1 h2
    simp at h2
    simp [at8, List.getElem?_eq_getElem h2]
  simp only [Option.map_some]
  rw [e]; rfl
theorem zero_string (w : World) : (zeroValue 9).run Tryd.prog w = .ok (.string ByteArray.empty) w := by kernel_rfl

/-- Block b is a map that has each of these texts at its digest. -/
def SeenM (b n : Nat) (D : DataW Unit) (w : World) : Prop := w.ownsMap Tryd.prog 23 (plainElem Tryd.prog 9) b n D
theorem SeenM.below {b n N : Nat} {D : DataW Unit} {w w' : World} (h : SeenM b n D w) (hb : Below N w w') (hN : b < N) : SeenM b n D w' := by
  obtain ⟨es, clock, h1, h2⟩ := h
  exact ⟨es, clock, (hb.block b hN).trans h1, h2⟩
theorem SeenM.lt {b n : Nat} {D : DataW Unit} {w : World} (h : SeenM b n D w) : b < w.heap.size := World.ownsMap.lt h
def Has (D : DataW Unit) (ts : List (List UInt8)) : Prop := ∀ t ∈ ts, has D (keyL (dig t)) = true ∧ ∀ z, D.atKey (keyL (dig t)) z = .lit (.string t)
theorem Has.one {D : DataW Unit} {ts : List (List UInt8)} (h : Has D ts) : ∀ t ∈ ts, ∀ u ∈ ts, dig t = dig u → t = u := fun t ht u hu e => by
  have h1 := (h t ht).2 .nil
  have h2 := (h u hu).2 .nil
  rw [e, h2] at h1
  simp only [DataW.lit.injEq, Lit.string.injEq] at h1
  exact h1.symm
theorem Has.put {D : DataW Unit} {ts : List (List UInt8)} (h : Has D ts) (hD : IsMap D) {t : List UInt8} (hs : has D (keyL (dig t)) = true → D.atKey (keyL (dig t)) (.lit (.string [])) = .lit (.string t)) : Has (D.put (keyL (dig t)) (.lit (.string t))) (ts ++ [t]) := by
  have hk : WideAt.IsKeyLit (keyL (dig t)) := keyed32.key (key_is (d := dig t) rfl)
  intro u hu
  by_cases e : keyL (dig u) = keyL (dig t)
  · have hut : u = t := by
      rcases List.mem_append.1 hu with hu | hu
      · obtain ⟨h1, h2⟩ := h u hu
        rw [e] at h1 h2
        have := hs h1
        rw [h2] at this
        simpa using this
      · simpa using hu
    subst hut
    exact ⟨has_put_same hD hk _, fun z => atKey_put_same hD hk _ z⟩
  · have hu' : u ∈ ts := by
      rcases List.mem_append.1 hu with hu | hu
      · exact hu
      · exact absurd (by rw [List.mem_singleton.1 hu]) e
    obtain ⟨h1, h2⟩ := h u hu'
    exact ⟨by rw [has_put_other e]; exact h1, fun z => by rw [atKey_put_other e]; exact h2 z⟩
theorem plain_text {t : List UInt8} (h : t.length ≤ maxLen) : plainElem (H := Unit) Tryd.prog 9 (.string (strV t)) = some (.lit (.string t), []) := by
  have := plainElem_string (H := Unit) (P := Tryd.prog) Tryd.underlying9 (s := strV t) (by rw [strV_size]; exact h)
  simpa [strV] using this
/-- The look-up: what is there, and whether. -/
theorem SeenM.look {b n : Nat} {D : DataW Unit} {w : World} (h : SeenM b n D w) (t : List UInt8) : ∃ s, (Instr.lookup 147 (.map (some b)) (keyV (dig t)) true).run Tryd.prog w = .ok (.tuple #[.string (strV s), .bool (has D (keyL (dig t)))]) w ∧
    D.atKey (keyL (dig t)) (.lit (.string [])) = .lit (.string s) := by
  obtain ⟨v, ps, hrun, hv⟩ := World.ownsMap.look_ok h keyed32 Tryd.underlying147 (zero_string w) (zd := .lit (.string [])) (zp := []) (by simp [plainElem, Tryd.underlying9]) (key_is (d := dig t) rfl)
  obtain ⟨s, rfl, hz, _⟩ := plainElem_string_inv Tryd.underlying9 hv
  simp only [Prod.mk.injEq] at hz
  exact ⟨s.data.toList, by simpa [strV] using hrun, hz.1⟩
end Go.Proofs.YtegdlpllljccgaaDoor
