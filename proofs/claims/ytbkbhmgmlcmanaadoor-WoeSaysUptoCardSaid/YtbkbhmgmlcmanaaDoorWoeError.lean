/-
  The texts of an error: an Errno's, and a Woe's.
-/
import Derived.Test.YtbkbhmgmlcmanaaDoorWoeLaw
import Derived.Test.YtbkbhmgmlcmanaaDoorWoeBuilder
import Derived.Test.YtbkbhmgmlcmanaaDoorWoeShelf
import Derived.Lib.ItoaLen
namespace Go.Proofs.YtbkbhmgmlcmanaaDoor
open Go.RowKit Go.Extern.Stop Go.Stop Go.Extern

/-- What an Errno says. -/
def said (n : Int) : List UInt8 := [98, 117, 108, 107, 104, 101, 97, 100, 58, 32, 101, 114, 114, 111, 114, 32] ++ Lib.itoa n
/-- Each place, with a colon and a blank behind it. -/
def places : List ByteArray → List UInt8
  | [] => []
  | s :: r => s.data.toList ++ [58, 32] ++ places r
theorem places_append (a b : List ByteArray) : places (a ++ b) = places a ++ places b := by
  induction a with
  | nil => rfl
  | cons s r ih => simp [places, ih]

def Tab (w : World) : Prop := Lib.TabIs Tryd.prog w "internal/strconv.uint64pow10" .u64 Lib.pow10Tab
theorem tabGlobal : Tryd.prog.globalNamed "internal/strconv.uint64pow10" = some 1 := by kernel_rfl
theorem Tab.below {N : Nat} {w w' : World} (h : Tab w) (hN : 1 < N) (hb : Below N w w') : Tab w' := by
  unfold Tab Lib.TabIs World.var? at *
  rw [tabGlobal] at h ⊢
  simp only [Option.bind_some] at h ⊢
  rw [hb.block 1 hN]
  exact h
theorem Tab.pos {w : World} (h : Tab w) : 1 < w.heap.size := by
  unfold Tab Lib.TabIs World.var? at h
  rw [tabGlobal] at h
  simp only [Option.bind_some] at h
  rcases Nat.lt_or_ge 1 w.heap.size with h' | h'
  · exact h'
  · rw [Array.getElem?_eq_none h'] at h; simp at h

theorem below_grow (w : World) (k : Nat) (os : Array Obj) : Below w.heap.size w (Go.Sort.grow (w.drewN k) os) := by
  have hd : (w.drewN k).heap = w.heap ∧ (w.drewN k).os = w.os ∧ (w.drewN k).tape = w.tape ∧ (w.drewN k).output = w.output := by
    unfold World.drewN
    exact ⟨rfl, rfl, rfl, rfl⟩
  obtain ⟨d1, d2, d3, d4⟩ := hd
  refine ⟨d2, d3, d4, ?_, fun j hj => ?_⟩
  · simp [Go.Sort.grow]
  · simp only [Go.Sort.grow, d1]
    rw [Array.getElem?_append_left hj]

theorem ba_append (a b : List UInt8) : ((⟨a.toArray⟩ : ByteArray) ++ ⟨b.toArray⟩) = ⟨(a ++ b).toArray⟩ := by
  apply ByteArray.ext
  simp
/-- So many letters. -/
def ssize : List ByteArray → Nat
  | [] => 0
  | s :: r => s.size + ssize r

theorem itoa_any (n : Int) (h0 : -9223372036854775808 ≤ n) (h1 : n ≤ 9223372036854775807) (w : World) (hT : Tab w) :
    Calls Tryd.prog 16 #[.int .i64 n] w fun e w' => e = .returned (.string ⟨(Lib.itoa n).toArray⟩) ∧ Below w.heap.size w w' := by
  refine (Tryd.strconv_Itoa n h0 h1 w hT).mono ?_
  rintro e w' ⟨rfl, k, os, rfl⟩
  exact ⟨rfl, below_grow w k os⟩

theorem errno_error (n : Int) (h0 : -9223372036854775808 ≤ n) (h1 : n ≤ 9223372036854775807) (w : World) (hT : Tab w) :
    Calls Tryd.prog 32 #[.int .i64 n] w fun e w' => e = .returned (.string ⟨(said n).toArray⟩) ∧ Below w.heap.size w w' := by
  have hlen : (Lib.itoa n).length ≤ 21 := Lib.itoa_length_le n h0 h1
  go_enter Tryd.func32, Tryd.ntmps32
  go_wp2_with (go_at_call 16; refine (itoa_any n h0 h1 w hT).mono ?_; rintro e w1 ⟨rfl, hb1⟩)
  go_ret
  refine ⟨?_, hb1⟩
  rw [said, ← ba_append]
  rfl

/-! A Woe's. -/
theorem error_nil (w : World) : Calls Tryd.prog 17 #[.pointer none] w fun e w' => e = .returned (.string ⟨#[110, 111, 116, 104, 105, 110, 103]⟩) ∧ w' = w := by
  go_enter Tryd.func17, Tryd.ntmps17
  go_wp2_with (go_at_call 18; refine (unwrap_nil w).mono ?_; rintro e w' ⟨rfl, rfl⟩)
  go_ret
  exact ⟨rfl, rfl⟩
theorem error_own (b : Nat) (w : World) (h1 : w.cell? ⟨b, 1, none⟩ = some .nilIface) : Calls Tryd.prog 17 #[.pointer (some ⟨b, 0, none⟩)] w fun e w' => e = .returned (.string ⟨#[110, 111, 116, 104, 105, 110, 103]⟩) ∧ w' = w := by
  go_enter Tryd.func17, Tryd.ntmps17
  go_wp2_with (go_at_call 18; refine (unwrap_at b .nilIface w h1).mono ?_; rintro e w' ⟨rfl, rfl⟩)
  go_ret
  exact ⟨rfl, rfl⟩

theorem places_length : ∀ ss : List ByteArray, (places ss).length = ssize ss + 2 * ss.length
  | [] => rfl
  | s :: r => by
    have : s.data.toList.length = s.size := Array.length_toList
    simp only [places, List.length_append, places_length r, ssize, List.length_cons, List.length_nil]
    omega
theorem places_take (ss : List ByteArray) (k : Nat) (s : ByteArray) (h : ss[k]? = some s) : places (ss.take (k + 1)) = places (ss.take k) ++ s.data.toList ++ [58, 32] := by
  rw [List.take_add_one, h, places_append]
  simp [places]
theorem ssize_take (ss : List ByteArray) (k : Nat) : ssize (ss.take k) ≤ ssize ss := by
  induction ss generalizing k with
  | nil => simp
  | cons s r ih => cases k with
    | zero => simp [ssize]
    | succ k => simp only [List.take_succ_cons, ssize]; have := ih k; omega

set_option maxRecDepth 100000 in
set_option maxHeartbeats 4000000 in
theorem error_chain (n : Int) (h0 : -9223372036854775808 ≤ n) (h1 : n ≤ 9223372036854775807) (s0 : ByteArray) (r0 : List ByteArray) (b : Nat) (w : World) (hL : Laid w) (hT : Tab w)
    (hC : Chain w.heap.size w n (s0 :: r0) (.iface 33 (.pointer (some ⟨b, 0, none⟩)))) (hl : ssize (s0 :: r0) + (s0 :: r0).length ≤ 1048576) :
    Calls Tryd.prog 17 #[.pointer (some ⟨b, 0, none⟩)] w fun e w' => e = .returned (.string ⟨(places (s0 :: r0) ++ said n).toArray⟩) ∧ Below w.heap.size w w' := by
  have hC' := hC
  obtain ⟨b', y, hb', hlt, hs, hy, hCr⟩ := hC'
  obtain rfl : b = b' := by simpa using hb'
  have hnn := hCr.notNil
  have hng := hCr.guard
  have hsaid : (said n).length ≤ 37 := by have := Lib.itoa_length_le n h0 h1; simp only [said, List.length_append, List.length_cons, List.length_nil]; omega
  obtain ⟨ss, hss⟩ : ∃ ss, s0 :: r0 = ss := ⟨_, rfl⟩
  rw [hss] at hC hl ⊢
  have hpl := places_length ss
  have hb1 := (Below.refl w.heap.size w).alloc (Nat.le_refl _) (.cells #[.pointer none, .slice none 0 0] 63)
  have hB1 : (w.alloc (.cells #[.pointer none, .slice none 0 0] 63)).heap[w.heap.size]? = some (.cells #[.pointer none, .slice none 0 0] 63 (0, 0)) := heap_alloc_new w _
  obtain ⟨W1, hW1⟩ : ∃ W1, W1 = w.alloc (.cells #[.pointer none, .slice none 0 0] 63) := ⟨_, rfl⟩
  have hz1 : W1.heap.size = w.heap.size + 1 := by rw [hW1]; simp
  rw [← hW1] at hb1 hB1
  have hL1 := hL.below hL.pos hb1
  have hC1 := hC.below hb1
  go_enter Tryd.func17, Tryd.ntmps17
  have HW1 := Lib.hid hW1
  clear hW1
  go_wp2_with (first
    | (go_at_call 18; refine (unwrap_at b y w hy).mono ?_; rintro e w0 ⟨rfl, hw0⟩; rw [hw0]; clear hw0)
    | (rw [← HW1.out]; go_at_call 11; refine (way_any n ss _ W1 hL1 (hC1.mono hb1.size) (by omega)).mono ?_; rintro e w2 ⟨bp2, cap2, rfl, hb2, hX2⟩
       have hb02 := hb1.trans (hb2.mono hb1.size)
       have hB2h := (hb2.block w.heap.size (by omega)).trans hB1
       have hB2 : Bld w2.heap.size w.heap.size (.pointer none) (Lib.byteCells (places (ss.take 0))) w2 := Bld.start (by have := hb2.size; omega) hB2h))
  obtain ⟨L, hLL⟩ : ∃ L, ss.length = L := ⟨_, rfl⟩
  have hNW : w.heap.size < w2.heap.size := by have := hb2.size; omega
  rw [hLL]
  clear hB1 HW1 hL1 hC1 hb1 hb2
  go_loopg [13] L (fun g i wr => ∃ (k : Nat) (p : Value), g = L - k ∧ k ≤ L ∧ i = .int .i64 k ∧ (p = .pointer none ∨ p = .pointer (some ⟨w.heap.size, 0, none⟩)) ∧ Bld w2.heap.size w.heap.size p (Lib.byteCells (places (ss.take k))) wr ∧ Others w2.heap.size w.heap.size w2 wr)
  case atStart => exact ⟨0, _, rfl, by omega, rfl, .inl rfl, hB2, Others.refl _ _ _⟩
  case round =>
    clear hB2
    obtain ⟨k, p, rfl, hk, rfl, hp, hB, hO⟩ := hrel
    have hsz := hO.size
    by_cases hlt : k < L
    · have hlt' : (k : Int) < (L : Int) := by omega
      have hkl : k < ss.length := by omega
      have hne : ss ≠ [] := by intro h0; rw [h0] at hkl; simp at hkl
      obtain ⟨b2, o2, rfl, hlt2, hc2⟩ := hX2.resolve_left hne
      have hg : ss[k]? = some ss[k] := List.getElem?_eq_getElem hkl
      have c2 := hc2 k ss[k] hg
      have hpt := places_take ss k ss[k] hg
      have hl1 : ((places (ss.take k)).length : Nat) + ss[k].size + 2 = (places (ss.take (k + 1))).length := by
        have : ss[k].data.toList.length = ss[k].size := Array.length_toList
        rw [hpt]; simp only [List.length_append, List.length_cons, List.length_nil]; omega
      have hl2 : (places (ss.take (k + 1))).length ≤ 3145728 := by
        have h5 := ssize_take ss (k + 1)
        have h6 : (ss.take (k + 1)).length ≤ ss.length := by rw [List.length_take]; omega
        rw [places_length]; omega
      generalize ss[k] = s at c2 hpt hl1
      have hb2ne : b2 ≠ w.heap.size := by
        intro e
        rw [e, Lib.cell_of_heap hB2h] at c2
        generalize o2 + k = j at c2
        rcases j with _ | _ | j
        · cases c2
        · cases c2
        · simp at c2
      have c0 := (hO.cell ⟨b2, o2 + k, none⟩ hlt2 hb2ne).trans c2
      clear hX2 hc2 hg c2
      go_wp2_with (first
        | (go_at_call 31; have H := writeString_any w2.heap.size w.heap.size p _ s wr hB hp (by rw [Lib.byteCells_length]; omega) hsz; (with_reducible refine H.mono ?_); clear H; rintro e w3 ⟨rfl, hB3, hO3⟩
           have hO03 := hO.trans hO3
           have hs3 := hO03.size
           clear hB)
        | (go_at_call 31; have H := writeString_any w2.heap.size w.heap.size (.pointer (some ⟨w.heap.size, 0, none⟩)) _ ⟨#[58, 32]⟩ w3 hB3 (.inr rfl) (by rw [List.length_append, Lib.byteCells_length, Lib.strCells_length]; exact Nat.le_trans (Nat.le_of_eq hl1) (by omega)) hs3; (with_reducible refine H.mono ?_); clear H; rintro e w4 ⟨rfl, hB4, hO4⟩
           have hO04 := hO03.trans hO4))
      have hbytes : Lib.byteCells (places (ss.take k)) ++ Lib.strCells s ++ Lib.strCells ⟨#[58, 32]⟩ = Lib.byteCells (places (ss.take (k + 1))) := by
        rw [hpt, Lib.byteCells_append, Lib.byteCells_append]; rfl
      rw [hbytes] at hB4
      go_roundg (L - (k + 1))
      case measure => omega
      case rel => exact ⟨k + 1, _, rfl, by omega, by go_num, .inr rfl, hB4, hO04⟩
    · obtain rfl : k = L := by omega
      have hge : ¬ ((k : Int) < (k : Int)) := by omega
      rw [← hLL, List.take_length] at hB
      have hbwr := hb02.trans (hO.below (Nat.le_refl _) hNW)
      have hLr := hL.below hL.pos hbwr
      have hTr := hT.below hT.pos hbwr
      have hCr2 := (hC.below hbwr).mono hbwr.size
      have hpl2 : (places ss).length ≤ 3145728 := by omega
      clear hX2 hB2h
      go_wp2_with (first
        | (go_at_call 12; refine (number_any n ss _ wr hLr hCr2 (by omega)).mono ?_; rintro e w3 ⟨rfl, hb3⟩
           have hB3 := hB.keep hb3
           have hT3 := hTr.below hTr.pos hb3
           have hb03 := hbwr.trans (hb3.mono hbwr.size)
           have hs3 := hb3.size)
        | (go_at_call 32; refine (errno_error n h0 h1 w3 hT3).mono ?_; rintro e w4 ⟨rfl, hb4⟩
           have hB4 := hB3.keep hb4
           have hb04 := hb03.trans (hb4.mono hb03.size)
           have hs4 := hb4.size)
        | (go_at_call 31; refine (writeString_any w2.heap.size w.heap.size p _ ⟨(said n).toArray⟩ w4 hB4 hp (by rw [Lib.byteCells_length]; show _ + (said n).toArray.size ≤ _; rw [List.size_toArray]; omega) (by omega)).mono ?_; rintro e w5 ⟨rfl, hB5, hO5⟩
           have hb05 := hb04.trans (hO5.below (Nat.le_refl _) hNW)
           have hs5 := hO5.size)
        | (go_at_call 33; have H := Tryd.Builder_String_any w.heap.size w.heap.size (places ss ++ said n) w5 (by rw [Lib.byteCells_append]; exact hB5.isBuilder) (by omega); refine H.mono ?_; rintro e w6 ⟨rfl, hb6⟩))
      go_ret
      exact ⟨rfl, hb05.trans hb6⟩
end Go.Proofs.YtbkbhmgmlcmanaaDoor
