/-
  Readers in memory: what waits lies in a row of their own, somewhere in it; strings put behind it. Feed, Left.
-/
import Derived.Test.YtakejggofghblaaPdEnc
import Derived.Lib.AppendStr
import Derived.Laws.IdiomStrings
set_option linter.unusedSimpArgs false
set_option linter.unusedVariables false
namespace Go.Proofs.Ytakejggofghblaa
open Go.RowKit Sh Cr Pd

/-- Bytes as a string. -/
def strB (l : List UInt8) : ByteArray := ⟨l.toArray⟩
theorem strB_size (l : List UInt8) : (strB l).size = l.length := by simp [strB, ByteArray.size]
theorem strB_cells (l : List UInt8) : Lib.strCells (strB l) = l.map cu8 := by
  simp [Lib.strCells, strB, cu8, bz_eq]
theorem Bytes.str {N : Nat} {w : World} {bp : Option Addr} {len cap : Nat} {bs : List UInt8} (h : Bytes N w bp len cap bs) : (convert 23 9 (.slice bp len cap)).run Try.prog w = .ok (.string (strB bs)) w := by
  rcases Nat.eq_zero_or_pos len with h0 | h0
  · subst h0
    have hb : bs = [] := List.length_eq_zero_iff.1 h.hlen
    subst hb
    rw [run_convert_bytes_string w 23 9 5 bp 0 cap Try.underlying23 Try.underlying5 Try.underlying9]
    cases bp <;> simp [Conv.bytesToString, loadCells] <;> rfl
  · obtain ⟨g, o, rfl, _, hc⟩ := h.at h0
    have e : len = bs.length := h.hlen.symm
    subst e
    refine run_convert_bytes_back (P := Try.prog) w 23 9 5 ⟨g, o, none⟩ cap bs Try.underlying23 Try.underlying5 Try.underlying9 (fun j hj => ?_)
    have hadd : (⟨g, o, none⟩ : Addr).add j = ⟨g, o + j, none⟩ := by unfold Addr.add; split <;> simp_all
    rw [hadd, hc j hj, bz_eq, at8, List.getD_eq_getElem?_getD, List.getElem?_eq_getElem hj]
    rfl

/-- Nothing but blocks of F is turned. -/
structure Onl (F : Nat → Prop) (W W' : World) : Prop where
  os : W'.os = W.os
  tape : W'.tape = W.tape
  output : W'.output = W.output
  size : W.heap.size ≤ W'.heap.size
  block : ∀ k, k < W.heap.size → ¬ F k → W'.heap[k]? = W.heap[k]?
section
variable {F F' : Nat → Prop} {W W1 W2 : World}
theorem Onl.refl (F : Nat → Prop) (W : World) : Onl F W W := ⟨rfl, rfl, rfl, Nat.le_refl _, fun _ _ _ => rfl⟩
theorem Onl.trans (h : Onl F W W1) (k : Onl F W1 W2) : Onl F W W2 := ⟨k.os.trans h.os, k.tape.trans h.tape, k.output.trans h.output, Nat.le_trans h.size k.size, fun j hj hn => (k.block j (Nat.lt_of_lt_of_le hj h.size) hn).trans (h.block j hj hn)⟩
theorem Onl.chain (h : Onl F W W1) (k : Onl F' W1 W2) (hF : ∀ j, F' j → F j ∨ W.heap.size ≤ j) : Onl F W W2 :=
  ⟨k.os.trans h.os, k.tape.trans h.tape, k.output.trans h.output, Nat.le_trans h.size k.size, fun j hj hn => (k.block j (Nat.lt_of_lt_of_le hj h.size) (fun e => by rcases hF j e with h1 | h1; exact hn h1; omega)).trans (h.block j hj hn)⟩
theorem Onl.of_below (h : Below W.heap.size W W1) : Onl F W W1 := ⟨h.os, h.tape, h.output, h.size, fun j hj _ => h.block j hj⟩
theorem Onl.of_grown {r : Option Nat} (h : W.grownBy W1 r) (hr : ∀ k, r = some k → F k) : Onl F W W1 := ⟨h.os, h.tape, h.output, h.size, fun j hj hn => h.block j hj (fun e => hn (hr j e.symm))⟩
theorem Onl.below {B : Nat} (h : Onl F W W1) (hB : B ≤ W.heap.size) (hF : ∀ k, F k → B ≤ k) : Below B W W1 := ⟨h.os, h.tape, h.output, h.size, fun j hj => h.block j (by omega) (fun e => by have := hF j e; omega)⟩
theorem Onl.wider (h : Onl F W W1) (hF : ∀ k, F k → F' k) : Onl F' W W1 := ⟨h.os, h.tape, h.output, h.size, fun j hj hn => h.block j hj (fun e => hn (hF j e))⟩
end

/-- What waits: none, or somewhere in a row of one's own. -/
def WaitAt (F : Nat → Prop) (W : World) (v : Value) (l : List UInt8) : Prop :=
  (v = .slice none 0 0 ∧ l = []) ∨
  ∃ b off cap cur, v = .slice (some ⟨b, off, none⟩) l.length cap ∧ F b ∧ W.heap[b]? = some (.cells cur 5 (0, 0)) ∧ l.length ≤ cap ∧ cap ≤ maxLen ∧ off + cap ≤ cur.size ∧ (cur.toList.drop off).take l.length = l.map cu8
section
variable {F F' : Nat → Prop} {W W' : World} {v : Value} {l : List UInt8}
theorem WaitAt.nil (F : Nat → Prop) (W : World) : WaitAt F W (.slice none 0 0) [] := .inl ⟨rfl, rfl⟩
theorem WaitAt.lt (h : WaitAt F W v l) : ∀ k, v.ownBlock = some k → k < W.heap.size ∧ F k := by
  intro k hk
  rcases h with ⟨rfl, _⟩ | ⟨b, off, cap, cur, rfl, hF, hb, _⟩
  · cases hk
  · simp only [Value.ownBlock, Option.some.injEq] at hk
    subst hk
    exact ⟨(Array.getElem?_eq_some_iff.1 hb).1, hF⟩
theorem WaitAt.keep (h : WaitAt F W v l) (hk : ∀ k, v.ownBlock = some k → W'.heap[k]? = W.heap[k]?) : WaitAt F W' v l := by
  rcases h with h | ⟨b, off, cap, cur, rfl, hF, hb, h⟩
  · exact .inl h
  · exact .inr ⟨b, off, cap, cur, rfl, hF, (hk b rfl).trans hb, h⟩
theorem WaitAt.wider (h : WaitAt F W v l) (hF : ∀ k, F k → F' k) : WaitAt F' W v l := h.imp id fun ⟨b, off, cap, cur, h1, h2, h3⟩ => ⟨b, off, cap, cur, h1, hF b h2, h3⟩
theorem cell_of_cur {w : World} {b : Nat} {cur : Array Value} {t : TypeId} (h : w.heap[b]? = some (.cells cur t (0, 0))) (i : Nat) : w.cell? ⟨b, i, none⟩ = cur[i]? := by simp [World.cell?, h]
theorem WaitAt.cell {b off : Nat} {cur : Array Value} (hb : W.heap[b]? = some (.cells cur 5 (0, 0))) (ht : (cur.toList.drop off).take l.length = l.map cu8) (j : Nat) (hj : j < l.length) : W.cell? ⟨b, off + j, none⟩ = some (cu8 (at8 l j)) := by
  rw [cell_of_cur hb]
  have h1 := congrArg (fun x : List Value => x[j]?) ht
  simp only [List.getElem?_take, if_pos hj, List.getElem?_drop, Array.getElem?_toList, List.getElem?_map] at h1
  rw [h1, List.getElem?_eq_getElem hj]
  simp [at8, hj]
theorem WaitAt.bytes (h : WaitAt F W v l) : ∃ bp cap, v = .slice bp l.length cap ∧ Bytes W.heap.size W bp l.length cap l := by
  rcases h with ⟨rfl, rfl⟩ | ⟨b, off, cap, cur, rfl, hF, hb, hc, hm, hs, ht⟩
  · exact ⟨none, 0, rfl, Bytes.nil _ _⟩
  · exact ⟨_, _, rfl, rfl, hc, hm, .inr ⟨b, off, rfl, (Array.getElem?_eq_some_iff.1 hb).1, fun j hj => WaitAt.cell hb ht j hj⟩⟩
/-- The first bytes dropped. -/
theorem WaitAt.drop {bp : Option Addr} {cap n : Nat} (h : WaitAt F W (.slice bp l.length cap) l) (hn : n < l.length ∨ n = 0) : WaitAt F W (.slice (cutAt bp cap n) (l.length - n) (cap - n)) (l.drop n) := by
  rcases h with ⟨h1, rfl⟩ | ⟨b, off, cap', cur, h1, hF, hb, hc, hm, hs, ht⟩
  · simp at h1
    obtain ⟨rfl, rfl⟩ := h1
    have hn0 : n = 0 := by simpa using hn
    subst hn0
    exact .inl ⟨by simp [cutAt], rfl⟩
  · injection h1 with h1 _ h3
    subst h1 h3
    rcases hn with hn | rfl
    · refine .inr ⟨b, off + n, cap - n, cur, ?_, hF, hb, by rw [List.length_drop]; omega, by omega, by omega, ?_⟩
      · rw [List.length_drop, cutAt, if_neg (by omega), Option.map_some]
        congr 2
        unfold Addr.add; split <;> simp_all
      · rw [List.length_drop, ← List.drop_drop, List.map_drop, ← ht, List.drop_take]
    · refine .inr ⟨b, off, cap, cur, ?_, hF, hb, by simpa using hc, hm, hs, by simpa using ht⟩
      rw [List.drop_zero, Nat.sub_zero, Nat.sub_zero]
      congr 1
      unfold cutAt
      split
      · rfl
      · rw [Option.map_some]; congr 1
end
theorem run_room_string {P : Program} (w : World) (t u ty e : TypeId) (i : TypeInfo) (ht : P.underlying t = some (.slice e)) (hu : P.underlying u = some .string) (hi : P.info? e = some i) (hs1 : i.size = 1)
    (g off sLen sCap : Nat) (cur : Array Value) (hg : w.heap[g]? = some (.cells cur e (0, 0))) (s : ByteArray) (hroom : sLen + s.size ≤ sCap) (hfit : off + sLen + s.size ≤ cur.size) :
    (Builtin.append_ #[t, u] ty #[.slice (some ⟨g, off, none⟩) sLen sCap, .string s]).run P w =
      .ok (.slice (some ⟨g, off, none⟩) (sLen + s.size) sCap) (w.setRow g (cur.toList.take (off + sLen) ++ Lib.strCells s ++ cur.toList.drop (off + sLen + s.size)).toArray) := by
  have hf := Lib.run_firstCells_string (P := P) w 1 s
  have hst := run_storeCells_at P g (off + sLen) e (Lib.strCells s) 0 cur w hg (by simpa [Lib.strCells_length] using hfit) (Lib.strCells_oneCell s)
  simp only [Nat.add_zero, Lib.strCells_length] at hst
  have hadd : (⟨g, off, none⟩ : Addr).add sLen = ⟨g, off + sLen, none⟩ := by unfold Addr.add; split <;> simp_all
  simp [Builtin.append_, run_underlying ht, run_underlying hu, sizeOf, typeInfo, hi, hs1, Builtin.lenOf, hroom, hf, hadd, hst]
/-- A string put behind what waits. -/
theorem append_str {F : Nat → Prop} {W : World} {v : Value} {l : List UInt8} (h : WaitAt F W v l) (s : List UInt8) (hsz : l.length + s.length ≤ 140737488355328) (ty : TypeId) :
    ∃ v' W', (Builtin.append_ #[23, 9] ty #[v, .string (strB s)]).run Try.prog W = .ok v' W' ∧ WaitAt (fun k => F k ∨ k = W.heap.size) W' v' (l ++ s) ∧ W.grownBy W' v.ownBlock := by
  obtain ⟨i, hi, hzz⟩ := Option.map_eq_some_iff.1 infoU8
  simp only [Prod.mk.injEq] at hzz
  obtain ⟨hz, hs1, hb1⟩ := hzz
  have hss := strB_size s
  have hcl := strB_cells s
  by_cases h0 : s = []
  · subst h0
    refine ⟨v, W, ?_, by rw [List.append_nil]; exact h.wider (fun k hk => .inl hk), ⟨rfl, rfl, rfl, Nat.le_refl _, fun _ _ _ => rfl⟩⟩
    have hf := Lib.run_firstCells_string (P := Try.prog) W 1 (strB [])
    have e0 : (strB []).size = 0 := rfl
    have e1 : Lib.strCells (strB []) = [] := rfl
    rw [e0, e1] at hf
    rcases h with ⟨rfl, rfl⟩ | ⟨b, off, cap, cur, rfl, hF, hb, hc, hm, hs, ht⟩
    · simp [Builtin.append_, run_underlying Try.underlying23, run_underlying Try.underlying9, sizeOf, typeInfo, hi, hs1, Builtin.lenOf, e0, hf]
    · have hr := run_room_string (P := Try.prog) W 23 9 ty 5 i Try.underlying23 Try.underlying9 hi hs1 b off l.length cap cur hb (strB []) (by rw [e0]; omega) (by rw [e0]; omega)
      rw [hr, e0, e1, List.append_nil]
      simp only [Nat.add_zero]
      rw [List.take_append_drop]
      have : W.setRow b cur.toList.toArray = W := by
        have := setRow_self W b cur 5 (0, 0) hb
        simpa using this
      rw [this]
  have hs0 : 0 < s.length := by rcases s with _ | _ <;> simp_all
  rcases h with ⟨rfl, rfl⟩ | ⟨b, off, cap, cur, rfl, hF, hb, hc, hm, hs, ht⟩
  · have hr := run_append_nil_string (P := Try.prog) W 23 9 ty 5 i (.int .u8 0) Try.underlying23 Try.underlying9 hi hz (strB s) (by omega) (by rw [hss]; simp at hsz; omega) (by rw [hb1, hss]; simp at hsz; omega)
    have hge := grownCap_ge W (strB s).size 0 5
    have hle := grownCap_le_maxLen W (strB s).size 0 5 (by rw [hss]; unfold maxLen; simp at hsz; omega)
    have e1 : ((strB s).data.map fun b => Value.int .u8 b.toNat) = (s.map cu8).toArray := by
      rw [← hcl]; apply Array.ext'; simp [Lib.strCells]
    rw [e1, hss] at hr
    rw [hss] at hge hle
    refine ⟨_, _, hr, .inr ⟨W.heap.size, 0, _, _, by rw [List.nil_append], .inr rfl, heap_alloc_new W.drew _, by simpa using hge, hle, ?_, ?_⟩, ⟨rfl, rfl, rfl, by simp, fun k hk _ => Below.heap_alloc W.drew _ k hk⟩⟩
    · have hz1 : (Value.int IntKind.u8 0).cells.size = 1 := rfl
      simp only [Array.size_append, List.size_toArray, List.length_map, size_zeroCells, hz1]; omega
    · simp [List.take_left']
  · by_cases hroom : l.length + s.length ≤ cap
    · have hr := run_room_string (P := Try.prog) W 23 9 ty 5 i Try.underlying23 Try.underlying9 hi hs1 b off l.length cap cur hb (strB s) (by omega) (by omega)
      rw [hss, hcl] at hr
      have hcl2 : cur.toList.length = cur.size := by simp
      refine ⟨_, _, hr, .inr ⟨b, off, cap, _, by rw [List.length_append], .inl hF, setRow_heap W b cur _ 5 _ hb, by rw [List.length_append]; omega, hm, ?_, ?_⟩, ⟨rfl, rfl, rfl, by simp, fun k _ hk => setRow_other W b k _ (fun e => hk (by simp [Value.ownBlock, e]))⟩⟩
      · simp only [List.size_toArray, List.length_append, List.length_take, List.length_drop, List.length_map, hcl2]; omega
      · rw [List.append_assoc, List.drop_append, List.drop_take, List.length_take, hcl2, Nat.min_eq_left (by omega), show off - (off + l.length) = 0 by omega, List.drop_zero, show off + l.length - off = l.length by omega, ht, List.map_append, List.length_append, ← List.append_assoc]
        exact List.take_left' (by simp)
    · have hadd : ∀ j, (⟨b, off, none⟩ : Addr).add j = ⟨b, off + j, none⟩ := fun j => by unfold Addr.add; split <;> simp_all
      have hr := Lib.run_append_grow_string (P := Try.prog) W 23 9 ty 5 i (.int .u8 0) Try.underlying23 Try.underlying9 hi hz ⟨b, off, none⟩ l.length cap (l.map cu8) (by rw [hs1]; simp) (fun j u hu => by
        have hj : j < l.length := by simpa using lt_of_get hu
        rw [hadd, WaitAt.cell hb ht j hj, ← hu, List.getElem?_map, List.getElem?_eq_getElem hj]; simp [at8, hj]) (strB s) (by omega) (by omega) (by rw [hb1, hss]; exact growslice_fits (by omega) (by omega))
      have hge := grownCap_ge W (l.length + (strB s).size) cap 5
      have hle := grownCap_le_maxLen W (l.length + (strB s).size) cap 5 (by rw [hss]; unfold maxLen; omega)
      rw [hss, hcl] at hr
      rw [hss] at hge hle
      refine ⟨_, _, hr, .inr ⟨W.heap.size, 0, _, _, by rw [List.length_append], .inr rfl, heap_alloc_new W.drew _, by rw [List.length_append]; exact hge, hle, ?_, ?_⟩, ⟨rfl, rfl, rfl, by simp, fun k hk _ => Below.heap_alloc W.drew _ k hk⟩⟩
      · have hz1 : (Value.int IntKind.u8 0).cells.size = 1 := rfl
        simp only [Array.size_append, List.size_toArray, List.length_map, size_zeroCells, hz1]; omega
      · simp only [Array.toList_append, List.drop_zero, List.map_append, List.length_append]
        exact List.take_left' (by simp)
end Go.Proofs.Ytakejggofghblaa
