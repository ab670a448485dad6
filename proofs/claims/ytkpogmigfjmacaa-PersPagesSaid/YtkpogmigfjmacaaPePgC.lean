/-
  For the law PersPages: bytes copied into a page; what it calls, at any world.
-/
import Derived.Test.YtkpogmigfjmacaaPePgR
import Derived.Test.YtkpogmigfjmacaaPeOpen4
import Derived.Laws.IdiomCopy
set_option linter.unusedSimpArgs false
set_option linter.unusedVariables false
namespace Go.Proofs.Ytkpogmigfjmacaa
open Go.RowKit Sh

def cpB (l bs : List UInt8) : List UInt8 := splice l 0 (bs.take 64)
theorem cpB_len {l bs : List UInt8} (hl : l.length = 64) : (cpB l bs).length = 64 := by
  unfold cpB; rw [length_splice]
  · exact hl
  · rw [List.length_take, hl]; omega
theorem cpB_nil {l : List UInt8} : cpB l [] = l := by simp [cpB, splice]
theorem wp_copy_bytes {o : Oper} {a : Act} {w : World} {K : Act → World → Prop} {Q : Exit → Act → World → Prop} (hgd : o.guard = none) (d s : Operand)
    (ho : o.op = .call { callee := .builtin .copy, args := #[d, s], argTypes := #[49, 49] }) (g N : Nat) (hd : a.eval d = .slice (some ⟨g, 0, none⟩) 64 64) (bp : Option Addr) (len cap : Nat) (bs : List UInt8) (hs : a.eval s = .slice bp len cap)
    (hB : Bytes N w bp len cap bs) (l : List UInt8) (hl : l.length = 64) (t : TypeId) (hg : w.heap[g]? = some (.cells (l.map cu8).toArray t (0, 0)))
    (h : ∀ n w', w'.heap[g]? = some (.cells ((cpB l bs).map cu8).toArray t (0, 0)) → w.grownBy w' (some g) → K (a.put o.dst (goInt n)) w') : o.wp Try.prog a w K Q := by
  rcases hB.lies with h0 | ⟨b, ob, rfl, hbN, hc⟩
  · have hrun := run_copy_none (P := Try.prog) w 49 49 o.type 5 (some ⟨g, 0, none⟩) bp 64 64 len cap Try.underlying49 (by kernel_rfl) (by rw [h0]; rfl)
    have hbs : bs = [] := List.length_eq_zero_iff.1 (by rw [hB.hlen, h0])
    have h2 := h 0 w (by rw [hbs, cpB_nil]; exact hg) (grownBy_refl _ _)
    unfold Oper.wp
    simp [execOp, ho, resolve, invoke, builtin, hd, hs, hrun, Result.andThen]
    exact h2
  · have hst := step_copy_into (P := Try.prog) (ops := #[]) (o := o) (a := a) (w := w) (K := K) (Q := Q) (E := True) hgd d s 49 49 ho 5 Try.underlying49 (by kernel_rfl) g 0 64 64 ⟨b, ob, none⟩ len cap hd hs (l.map cu8) t hg ((bs.take 64).map cu8)
      (by rw [List.length_map, List.length_take, hB.hlen]; exact Nat.min_comm ..)
      (fun j v hj => by
        have e : (⟨b, ob, none⟩ : Addr).add j = ⟨b, ob + j, none⟩ := by unfold Addr.add; split <;> simp_all
        rw [List.getElem?_map, List.getElem?_take] at hj
        split at hj
        · rename_i hj64
          cases hbj : bs[j]? with
          | none => rw [hbj] at hj; cases hj
          | some x =>
            rw [hbj] at hj
            have hjl := (List.getElem?_eq_some_iff.1 hbj).1
            rw [e, hc j (by rw [← hB.hlen]; exact hjl)]
            simpa [at8, List.getD_eq_getElem?_getD, hbj] using hj
        · cases hj)
      (by rw [List.length_map, List.length_map, hl, List.length_take]; omega)
      (fun v hv => by obtain ⟨x, _, rfl⟩ := List.mem_map.1 hv; rfl)
      (fun w' h1 h2 => h _ w' (by rw [h1.out, splice_map]; rfl) h2.out)
    have hw : Region.wanted o (yielded #[] a.tmps) = true := by simp [Region.wanted, hgd]
    rwa [if_pos hw] at hst
end Go.Proofs.Ytkpogmigfjmacaa
