/-
  The reference's four and sum.
-/
import Derived.Test.YtakejggofghblaaPdList
import Derived.Test.YtakejggofghblaaCrcRef
set_option linter.unusedSimpArgs false
set_option linter.unusedVariables false
namespace Go.Proofs.Ytakejggofghblaa
open Go.RowKit Sh Cr Pd

theorem Own.of_cells {w : World} {l : List UInt8} (hm : l.length ≤ maxLen) : Own w (.slice (some ⟨w.heap.size, 0, none⟩) l.length l.length) l.length l (w.alloc (.cells (l.map cu8).toArray 5)) :=
  ⟨(Below.refl _ w).alloc (Nat.le_refl _) _, by
    refine ⟨by simp, .inr ⟨w.heap.size, l.length, (l.map cu8).toArray, rfl, Nat.le_refl _, heap_alloc_new w _, by omega, hm, by simp, by rw [Nat.mul_one]; exact List.take_of_length_le (by simp)⟩⟩⟩
theorem OwnP.of4 {w : World} {c0 c1 c2 c3 : Value} {l : List UInt8} (h : #[c0, c1, c2, c3] = (l.map cu8).toArray) : OwnP w l (.returned (.slice (some ⟨w.heap.size, 0, none⟩) 4 4)) (w.alloc (.cells #[c0, c1, c2, c3] 5)) := by
  have hl : 4 = l.length := by simpa using congrArg Array.size h
  refine ⟨_, rfl, ?_⟩
  rw [h]
  have := Own.of_cells (w := w) (l := l) (by rw [← hl]; unfold maxLen; omega)
  rw [← hl] at this ⊢
  exact this
set_option maxRecDepth 100000 in
set_option maxHeartbeats 2000000 in
theorem four_any (x : Nat) (hx : x < 4294967296) (w : World) : Calls Try.prog 25 #[.int .u32 (x : Int)] w (OwnP w (toBe 4 x)) := by
  go_enter Try.func25, Try.ntmps25
  go_wp2
  go_ret
  refine OwnP.of4 ?_
  simp only [toBe, List.nil_append, List.cons_append, List.map_cons, List.map_nil, cu8, bz_eq, UInt8.toNat_ofNat']
  congr 1
  simp only [List.cons.injEq, Value.int.injEq, true_and, and_true]
  omega
set_option maxRecDepth 100000 in
set_option maxHeartbeats 2000000 in
theorem rsum_any (bp : Option Addr) (len cap N : Nat) (bs : List UInt8) (w : World) (hB : Bytes N w bp len cap bs) :
    Calls Try.prog 26 #[.slice bp len cap] w (OwnP w (le4 (Cr.sum bs))) := by
  have HP := Lib.hid (plain_any bp len cap N bs w hB)
  go_enter Try.func26, Try.ntmps26
  go_wp2_with (go_at_call 38; refine HP.out.mono ?_; rintro e w2 ⟨rfl, rfl⟩)
  go_ret
  refine OwnP.of4 ?_
  rw [low8', shr8, low8', shr16, low8', shr24, low8']
  rfl
end Go.Proofs.Ytakejggofghblaa
