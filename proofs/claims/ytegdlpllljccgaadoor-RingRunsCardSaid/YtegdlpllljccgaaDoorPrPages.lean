/-
  A disk's pages as bytes; the pages of a record on them.
-/
import Derived.Test.YtegdlpllljccgaaDoorPrPass
set_option linter.unusedSimpArgs false
set_option linter.unusedVariables false
namespace Go.Proofs.YtegdlpllljccgaaDoor
open Go.RowKit Sh

def unb : Value → UInt8
  | .int _ x => UInt8.ofNat x.toNat
  | _ => 0
theorem unb_cu8 (x : UInt8) : unb (cu8 x) = x := by
  show UInt8.ofNat (bz x).toNat = x
  rw [bz_eq]; simp
def bytesOf (p : List Value) : List UInt8 := p.map unb
theorem bytesOf_cu8 (l : List UInt8) : bytesOf (l.map cu8) = l := by
  unfold bytesOf
  rw [List.map_map]
  exact (List.map_congr_left (fun x _ => unb_cu8 x)).trans (List.map_id l)
theorem BP.bytes {p : List Value} (h : BP p) : (bytesOf p).map cu8 = p ∧ (bytesOf p).length = 64 := by
  obtain ⟨l, hl, rfl⟩ := h
  rw [bytesOf_cu8]; exact ⟨rfl, hl⟩
def imgB (S : St) : List (List UInt8) := S.newest.map bytesOf
theorem imgB_length (S : St) : (imgB S).length = S.firm.length := by rw [imgB, List.length_map, S.newest_length]
theorem imgB_get {S : St} (hB : Byt S) {q : Nat} (hq : q < S.firm.length) : S.newest[q]? = some (((imgB S).getD q []).map cu8) ∧ ((imgB S).getD q []).length = 64 := by
  have hq' : q < S.newest.length := by rw [S.newest_length]; exact hq
  have hb : BP S.newest[q] := flushS_mem _ _ _ hB.1 hB.2 _ (List.getElem_mem hq')
  have e : (imgB S).getD q [] = bytesOf S.newest[q] := by simp [imgB, hq']
  rw [e, hb.bytes.1, hb.bytes.2, List.getElem?_eq_getElem hq']
  exact ⟨rfl, rfl⟩
theorem img_read {S : St} (hB : Byt S) (ho : S.off = false) {q : Nat} (hq : q < S.firm.length) : readOf S (q : Int) = (((imgB S).getD q []).map cu8, 0) := by
  have hq2 : ¬ ((q : Int) < 0 ∨ ((S.firm.length : Nat) : Int) ≤ q) := by omega
  unfold readOf readN reachN
  simp only [S.newest_length, ho, Bool.false_eq_true, if_false, if_neg hq2, if_true, Int.toNat_natCast, List.getD_eq_getElem?_getD]
  rw [(imgB_get hB hq).1, Option.getD_some, List.getD_eq_getElem?_getD]
theorem off_read {S : St} (ho : S.off = true) (i : Int) : readOf S i = (zeroPage, 10) := by
  unfold readOf readN reachN
  simp [ho]
section
variable {S : St} {first n : Nat}
theorem pg_len (hB : Byt S) (hin : first + n ≤ S.firm.length) (hn : 0 < n) (i : Nat) : (pgOf (imgB S) first n i).length = 64 := by
  have := Nat.mod_lt i hn
  exact (imgB_get hB (show first + i % n < S.firm.length by omega)).2
theorem pg_read (hB : Byt S) (ho : S.off = false) (hin : first + n ≤ S.firm.length) (hn : 0 < n) (i : Nat) : readOf S ((first + i % n : Nat) : Int) = ((pgOf (imgB S) first n i).map cu8, 0) := by
  have := Nat.mod_lt i hn
  exact img_read hB ho (show first + i % n < S.firm.length by omega)
end
def recPages (pg : Nat → List UInt8) (p L : Nat) : List (List UInt8) := (List.range L).map fun i => pg (p + i)
theorem recPages_length (pg : Nat → List UInt8) (p L : Nat) : (recPages pg p L).length = L := by simp [recPages]
theorem recPages_rest (pg : Nat → List UInt8) (p k : Nat) : recPages pg p (takes k) = pg p :: rest pg p k := by
  have := takes_pos k
  obtain ⟨T, hT⟩ : ∃ T, takes k = T + 1 := ⟨takes k - 1, by omega⟩
  unfold recPages rest
  rw [hT, Nat.add_sub_cancel, List.range_succ_eq_map, List.map_cons, List.map_map]
  congr 1
  apply List.map_congr_left
  intro i _
  show pg (p + (i + 1)) = _
  rw [Nat.add_comm i 1]
/-- .. of which the first k are there, the others zeros. -/
def midPages (pg : Nat → List UInt8) (p L k : Nat) : List (List UInt8) := (List.range L).map fun i => if i < k then pg (p + i) else List.replicate 64 0
theorem midPages_length (pg : Nat → List UInt8) (p L k : Nat) : (midPages pg p L k).length = L := by simp [midPages]
theorem midPages_zero (pg : Nat → List UInt8) (p L : Nat) : midPages pg p L 0 = List.replicate L (List.replicate 64 0) := by
  apply List.ext_getElem (by rw [midPages_length, List.length_replicate])
  intro i h1 h2
  simp only [midPages, List.getElem_map, List.getElem_range, List.getElem_replicate]
  rw [if_neg (by omega)]
theorem midPages_all (pg : Nat → List UInt8) (p L : Nat) : midPages pg p L L = recPages pg p L := by
  apply List.map_congr_left
  intro i hi
  rw [if_pos (List.mem_range.1 hi)]
theorem midPages_set (pg : Nat → List UInt8) (p L k : Nat) : (midPages pg p L k).set k (pg (p + k)) = midPages pg p L (k + 1) := by
  apply List.ext_getElem (by simp [midPages])
  intro i h1 h2
  simp only [midPages, List.getElem_set, List.getElem_map, List.getElem_range]
  by_cases e : k = i
  · subst e; simp
  · rw [if_neg e]
    by_cases hlt : i < k
    · rw [if_pos hlt, if_pos (by omega)]
    · rw [if_neg hlt, if_neg (by omega)]
theorem midPages_mem {pg : Nat → List UInt8} (h : ∀ i, (pg i).length = 64) (p L k : Nat) : ∀ q ∈ midPages pg p L k, q.length = 64 := fun q hq => by
  obtain ⟨i, _, rfl⟩ := List.mem_map.1 hq
  split
  · exact h _
  · simp
theorem bytes_page {q : List UInt8} (h : q.length = 64) : IsPage (q.map cu8) := ⟨by simp [h], fun v hv => by obtain ⟨x, _, rfl⟩ := List.mem_map.1 hv; rfl⟩
theorem splice_flat {pgs : List (List UInt8)} (hP : ∀ p ∈ pgs, p.length = 64) {k : Nat} (hk : k < pgs.length) {q : List UInt8} (hq : q.length = 64) : splice (pgs.flatten.map cu8) (k * 64) (q.map cu8) = ((pgs.set k q).flatten).map cu8 := by
  have h := splice_page (pgs := pgs.map (List.map cu8)) (fun p hp => by obtain ⟨x, hx, rfl⟩ := List.mem_map.1 hp; exact bytes_page (hP x hx)) k (by simpa using hk) (q.map cu8) (bytes_page hq)
  rw [List.map_flatten, List.map_flatten, List.map_set]
  exact h
end Go.Proofs.YtegdlpllljccgaaDoor
