/-
  The program's ring: Open, what is refused.
-/
import Derived.Test.YtegdlpllljccgaaDoorPrFind
set_option linter.unusedSimpArgs false
set_option linter.unusedVariables false
namespace Go.Proofs.YtegdlpllljccgaaDoor
open Go.RowKit Sh Go.Extern.Stop Go.Stop Go.Extern

/-- A mark, whose place may be any number. -/
def markI (pl : Int) (num : Nat) (last : List UInt8) : List Value := .int .i64 pl :: .int .u64 num :: last.map cu8
theorem markI_nat (m : Mk) : markI m.place m.num m.last = markCells m := rfl
def BadP (n : Int) (w : World) (e : Ending) (w' : World) : Prop := ∃ v, e = .returned (.tuple #[.pointer none, .slice none 0 0, v]) ∧ ErrV w' n v ∧ Below w.heap.size w w'
section
variable {w w' : World}
set_option maxRecDepth 100000 in
set_option maxHeartbeats 4000000 in
/-- Open: what is refused. -/
theorem open_bad (p : Value) (D : Nat) (hD : D ≤ 4096) (hsize : ∀ W, Below w.heap.size w W → Calls Tryd.prog 39 #[p] W fun e w' => e = .returned (.int .i64 D) ∧ W = w')
    (first n pl : Int) (num : Nat) (last : List UInt8) (hf : -9223372036854775808 ≤ first ∧ first ≤ 9223372036854775807)
    (hbad : n < 96 ∨ 4096 < n ∨ first < 0 ∨ (D : Int) - n < first ∨ pl < 0 ∨ n ≤ pl) :
    Calls Tryd.prog 14 #[p, .int .i64 first, .int .i64 n, .agg (markI pl num last).toArray] w (BadP 1 w) := by
  obtain ⟨mv, Hmv⟩ : ∃ mv : List Value, Hid (mv = markI pl num last) := ⟨_, rfl⟩
  rw [← Hmv.out]
  have hb1 := (Below.refl w.heap.size w).alloc (Nat.le_refl _) (.cells mv.toArray 25)
  have c0 : (w.alloc (.cells mv.toArray 25)).cell? ⟨w.heap.size, 0, none⟩ = some (.int .i64 pl) := by
    rw [cell_of_row _ w.heap.size 0 _ _ _ (heap_alloc_new w _), Hmv.out]; rfl
  have hs := hsize _ hb1
  clear hsize
  by_cases h1 : n < 96
  · clear hbad
    go_enter Tryd.func14, Tryd.ntmps14
    go_wp2_with (first
      | (go_at_call 39; refine hs.mono ?_; rintro e w' ⟨rfl, rfl⟩)
      | (go_at_call 37; refine (in_more ⟨#[114, 105, 110, 103, 46, 79, 112, 101, 110]⟩ 1 [] _ _ rfl).mono ?_; rintro e w3 ⟨rfl, hC3, hb3⟩))
    refine bodyPost_ret (v := .tuple #[.pointer none, .slice none 0 0, .iface 126 (.pointer (some ⟨_, 0, none⟩))]) (by simp [results, Tryd.results14, go_sem]) rfl ⟨_, rfl, .inr ⟨by decide, _, hC3⟩, hb1.trans (hb3.mono hb1.size)⟩
  by_cases h2 : 4096 < n
  · clear hbad
    go_enter Tryd.func14, Tryd.ntmps14
    go_wp2_with (first
      | (go_at_call 39; refine hs.mono ?_; rintro e w' ⟨rfl, rfl⟩)
      | (go_at_call 37; refine (in_more ⟨#[114, 105, 110, 103, 46, 79, 112, 101, 110]⟩ 1 [] _ _ rfl).mono ?_; rintro e w3 ⟨rfl, hC3, hb3⟩))
    refine bodyPost_ret (v := .tuple #[.pointer none, .slice none 0 0, .iface 126 (.pointer (some ⟨_, 0, none⟩))]) (by simp [results, Tryd.results14, go_sem]) rfl ⟨_, rfl, .inr ⟨by decide, _, hC3⟩, hb1.trans (hb3.mono hb1.size)⟩
  by_cases h3 : first < 0
  · clear hbad
    go_enter Tryd.func14, Tryd.ntmps14
    go_wp2_with (first
      | (go_at_call 39; refine hs.mono ?_; rintro e w' ⟨rfl, rfl⟩)
      | (go_at_call 37; refine (in_more ⟨#[114, 105, 110, 103, 46, 79, 112, 101, 110]⟩ 1 [] _ _ rfl).mono ?_; rintro e w3 ⟨rfl, hC3, hb3⟩))
    refine bodyPost_ret (v := .tuple #[.pointer none, .slice none 0 0, .iface 126 (.pointer (some ⟨_, 0, none⟩))]) (by simp [results, Tryd.results14, go_sem]) rfl ⟨_, rfl, .inr ⟨by decide, _, hC3⟩, hb1.trans (hb3.mono hb1.size)⟩
  have w1 : IntKind.i64.wrap ((D : Int) - n) = (D : Int) - n := IntWalk.i64_in _ (by omega)
  by_cases h4 : (D : Int) - n < first
  · clear hbad
    go_enter Tryd.func14, Tryd.ntmps14
    go_wp2_with (first
      | (go_at_call 39; refine hs.mono ?_; rintro e w' ⟨rfl, rfl⟩)
      | (go_at_call 37; refine (in_more ⟨#[114, 105, 110, 103, 46, 79, 112, 101, 110]⟩ 1 [] _ _ rfl).mono ?_; rintro e w3 ⟨rfl, hC3, hb3⟩))
    refine bodyPost_ret (v := .tuple #[.pointer none, .slice none 0 0, .iface 126 (.pointer (some ⟨_, 0, none⟩))]) (by simp [results, Tryd.results14, go_sem]) rfl ⟨_, rfl, .inr ⟨by decide, _, hC3⟩, hb1.trans (hb3.mono hb1.size)⟩
  by_cases h5 : pl < 0
  · clear hbad
    go_enter Tryd.func14, Tryd.ntmps14
    go_wp2_with (first
      | (go_at_call 39; refine hs.mono ?_; rintro e w' ⟨rfl, rfl⟩)
      | (go_at_call 37; refine (in_more ⟨#[114, 105, 110, 103, 46, 79, 112, 101, 110]⟩ 1 [] _ _ rfl).mono ?_; rintro e w3 ⟨rfl, hC3, hb3⟩))
    refine bodyPost_ret (v := .tuple #[.pointer none, .slice none 0 0, .iface 126 (.pointer (some ⟨_, 0, none⟩))]) (by simp [results, Tryd.results14, go_sem]) rfl ⟨_, rfl, .inr ⟨by decide, _, hC3⟩, hb1.trans (hb3.mono hb1.size)⟩
  have h6 : n ≤ pl := by omega
  clear hbad
  go_enter Tryd.func14, Tryd.ntmps14
  go_wp2_with (first
    | (go_at_call 39; refine hs.mono ?_; rintro e w' ⟨rfl, rfl⟩)
    | (go_at_call 37; refine (in_more ⟨#[114, 105, 110, 103, 46, 79, 112, 101, 110]⟩ 1 [] _ _ rfl).mono ?_; rintro e w3 ⟨rfl, hC3, hb3⟩))
  refine bodyPost_ret (v := .tuple #[.pointer none, .slice none 0 0, .iface 126 (.pointer (some ⟨_, 0, none⟩))]) (by simp [results, Tryd.results14, go_sem]) rfl ⟨_, rfl, .inr ⟨by decide, _, hC3⟩, hb1.trans (hb3.mono hb1.size)⟩
end
end Go.Proofs.YtegdlpllljccgaaDoor
