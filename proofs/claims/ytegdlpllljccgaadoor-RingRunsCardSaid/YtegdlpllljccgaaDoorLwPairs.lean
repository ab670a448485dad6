/-
  A slice of pairs that is nil.
-/
import Derived.Test.YtegdlpllljccgaaDoorLwOpen
import Derived.Test.YtegdlpllljccgaaDoorLwWorld
set_option linter.unusedSimpArgs false
set_option linter.unusedVariables false
namespace Go.Proofs.YtegdlpllljccgaaDoor
open Go.RowKit Go.ChangeShapes Go.WideShapes Go.ChangeAt Go.Deep Sh

theorem open_none {H : Type} {enc : TypeId × Value → H} {W : World} {a0 : Option Addr} {len cap : Nat} {d0 : DataW H} {p : List MemPlace} (h0 : DataW.Trod enc Tryd.prog W 0 (fun _ => true) true 26 (.slice a0 len cap) d0 p) : a0 = none → len = 0 ∧ cap = 0 := by
  rintro rfl
  obtain ⟨fuel, hf⟩ := h0
  rcases open_slice Tryd.underlying26 hf with ⟨hcs, _⟩ | ⟨a, len', cap', m, n, D, Pl, hcs, _⟩
  · simp [Value.cells] at hcs
    exact hcs
  · simp [Value.cells] at hcs
theorem add_at (b off i : Nat) : (⟨b, off, none⟩ : Addr).add i = ⟨b, off + i, none⟩ := by unfold Addr.add; split <;> simp_all
/-- Its cells. -/
theorem PairsAt.cells {N : Nat} {w : World} {bp : Option Addr} {l : List (Int × Int)} (h : PairsAt N w bp l) : ∀ ad, bp = some ad → ∀ j u, (prsC l)[j]? = some u → w.cell? (ad.add j) = some u := fun ad hb j u hj => by
  obtain ⟨q, hq, hu⟩ := prsC_get l j u hj
  rcases h with rfl | ⟨b, o, e, _, hc⟩
  · simp at hq
  · rw [e] at hb
    obtain rfl := Option.some.inj hb
    obtain ⟨h1, h2⟩ := hc _ _ hq
    rw [add_at]
    split at hu
    · rw [show o + j = o + j / 2 * 2 from by omega, h1, hu]
    · rw [show o + j = o + j / 2 * 2 + 1 from by omega, h2, hu]
end Go.Proofs.YtegdlpllljccgaaDoor
