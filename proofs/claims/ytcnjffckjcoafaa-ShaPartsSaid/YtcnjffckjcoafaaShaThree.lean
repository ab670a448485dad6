/-
  'ShaThree': its walk.
-/
import Derived.Test.YtcnjffckjcoafaaShaLengths
namespace Go.Proofs.Ytcnjffckjcoafaa
open Go.RowKit Sh

theorem three_parts (bs : List UInt8) (i k : Nat) (h : i ≤ k) : [] ++ (bs.drop 0).take (i - 0) ++ (bs.drop i).take (k - i) ++ (bs.drop k).take (bs.length - k) = bs := by
  have h1 : (bs.drop k).take (bs.length - k) = bs.drop k := List.take_of_length_le (by rw [List.length_drop]; omega)
  have h2 : bs.drop k = (bs.drop i).drop (k - i) := by rw [List.drop_drop]; congr 1; omega
  rw [h1, h2, List.nil_append, List.drop_zero, Nat.sub_zero, List.append_assoc, List.take_append_drop, List.take_append_drop]

set_option maxRecDepth 100000 in
set_option maxHeartbeats 800000 in
theorem shaThree_any (bp : Option Addr) (len cap : Nat) (bs : List UInt8) (x y : Int) (w : World) (hB : Bytes w.heap.size w bp len cap bs) (hlen : len ≤ 140737488351232) :
    Calls Try.prog 7 #[.slice bp len cap, .int .i64 x, .int .i64 y] w (TruePost w) := by
  by_cases hbig : 4000 < len
  · have hbig' : 4000 < (len : Int) := by omega
    go_enter Try.func7, Try.ntmps7
    go_wp2_with (first
      | (go_at_call 8; refine (stands_any _).mono ?_; rintro e w1 ⟨rfl, hb1⟩))
    go_ret
    exact ⟨rfl, hb1⟩
  have hbig' : ¬ (4000 < (len : Int)) := by omega
  obtain ⟨i, hi, hi1⟩ := posmod x ((len : Int) + 1) (by omega)
  obtain ⟨k, hk, hk1⟩ := posmod y ((len : Int) + 1) (by omega)
  have x1 := tmod_in x ((len : Int) + 1) (by omega)
  have y1 := tmod_in y ((len : Int) + 1) (by omega)
  have x2 : IntKind.i64.wrap (x.tmod ((len : Int) + 1)) = x.tmod ((len : Int) + 1) := IntWalk.i64_in _ (by omega)
  have y2 : IntKind.i64.wrap (y.tmod ((len : Int) + 1)) = y.tmod ((len : Int) + 1) := IntWalk.i64_in _ (by omega)
  have x3 : IntKind.i64.wrap (x.tmod ((len : Int) + 1) + ((len : Int) + 1)) = x.tmod ((len : Int) + 1) + ((len : Int) + 1) := IntWalk.i64_in _ (by omega)
  have y3 : IntKind.i64.wrap (y.tmod ((len : Int) + 1) + ((len : Int) + 1)) = y.tmod ((len : Int) + 1) + ((len : Int) + 1) := IntWalk.i64_in _ (by omega)
  have hne : ¬ ((len : Int) + 1 = 0) := by omega
  go_enter Try.func7, Try.ntmps7
  go_wp2_with (first
    | (go_at_call 8; refine (stands_any _).mono ?_; rintro e w1 ⟨rfl, hb1⟩))
  have hB0 := hB.hroom
  go_quiet (fail)
  have hb2 : Below w.heap.size w (w1.drewN nq) := hb1.trans ⟨rfl, rfl, rfl, Nat.le_refl _, fun _ _ => rfl⟩
  generalize w1.drewN nq = w2 at hb2 ⊢
  clear hi hk x1 y1 x2 y2 x3 y3 hne hb1
  by_cases hik : k < i
  · have hle : k ≤ i := by omega
    have hhi : i ≤ len := by omega
    have s1 := run_slice_head (P := Try.prog) 22 5 Try.underlying22 (by kernel_rfl) bp len cap k (by omega)
    have s2 := run_slice_mid (P := Try.prog) 22 5 Try.underlying22 (by kernel_rfl) bp len cap k i hle (by omega)
    have s3 := run_slice_tail (P := Try.prog) 22 5 Try.underlying22 (by kernel_rfl) bp len cap i hhi
    have H1 := Lib.hid (hB.cut 0 k (Nat.zero_le _) (Nat.le_trans hle hhi))
    have H2 := Lib.hid (hB.cut k i hle hhi)
    have H3 := Lib.hid (hB.cut i len hhi (Nat.le_refl _))
    obtain ⟨p1, l1, c1, hp1, hl1, hc1⟩ : ∃ p1 l1 c1, Hid (cutAt bp cap 0 = p1) ∧ Hid (k - 0 = l1) ∧ Hid (cap - 0 = c1) := ⟨_, _, _, rfl, rfl, rfl⟩
    obtain ⟨p2, l2, c2, hp2, hl2, hc2⟩ : ∃ p2 l2 c2, Hid (cutAt bp cap k = p2) ∧ Hid (i - k = l2) ∧ Hid (cap - k = c2) := ⟨_, _, _, rfl, rfl, rfl⟩
    obtain ⟨p3, l3, c3, hp3, hl3, hc3⟩ : ∃ p3 l3 c3, Hid (cutAt bp cap i = p3) ∧ Hid (len - i = l3) ∧ Hid (cap - i = c3) := ⟨_, _, _, rfl, rfl, rfl⟩
    rw [hp1.out, hl1.out, hc1.out] at s1
    rw [hp2.out, hl2.out, hc2.out] at s2
    rw [hp3.out, hl3.out, hc3.out] at s3
    have h1 := H1.out
    have h2 := H2.out
    have h3 := H3.out
    rw [hp1.out, hl1.out, hc1.out] at h1
    rw [hp2.out, hl2.out, hc2.out] at h2
    rw [hp3.out, hl3.out, hc3.out] at h3
    have e1 := hl1.out
    have e2 := hl2.out
    have e3 := hl3.out
    have hall : [] ++ (bs.drop 0).take l1 ++ (bs.drop k).take l2 ++ (bs.drop i).take l3 = bs := by rw [← e1, ← e2, ← e3, ← hB.hlen]; exact three_parts bs k i hle
    have L1 : l1 + l2 + l3 ≤ 4000 := by omega
    clear e1 e2 e3 H1 H2 H3
    generalize (bs.drop 0).take l1 = b1 at h1 hall
    generalize (bs.drop k).take l2 = b2 at h2 hall
    generalize (bs.drop i).take l3 = b3 at h3 hall
    have Hall := Lib.hid hall; clear hall
    have G1 := Lib.hid h1.hlen
    have G2 := Lib.hid h2.hlen
    have G3 := Lib.hid h3.hlen
    go_wp2_with (first
      | (go_at_call 11; refine (new_any _).mono ?_; rintro e w3 ⟨g, rfl, hg, hH, hb3⟩; have hB3 : Below w.heap.size w w3 := hb2.trans (hb3.mono hb2.size); have hgg : w.heap.size ≤ g := Nat.le_trans hb2.size hg; clear hb3 hb2 hg)
      | (go_at_call 12; refine (write_bytes g [] b1 p1 l1 c1 w.heap.size _ hH (h1.below hB3) hgg (by simp; omega)).mono ?_; rintro e w4 ⟨rfl, hH4, hgr4⟩; have hB4 : Below w.heap.size w w4 := below_of_grown hB3 hgr4 hB3.size hgg; clear hgr4 hB3 hH)
      | (go_at_call 12; refine (write_bytes g ([] ++ b1) b2 p2 l2 c2 w.heap.size _ hH4 (h2.below hB4) hgg (by have := G1.out; simp; omega)).mono ?_; rintro e w5 ⟨rfl, hH5, hgr5⟩; have hB5 : Below w.heap.size w w5 := below_of_grown hB4 hgr5 hB4.size hgg; clear hgr5 hB4 hH4)
      | (go_at_call 12; refine (write_bytes g ([] ++ b1 ++ b2) b3 p3 l3 c3 w.heap.size _ hH5 (h3.below hB5) hgg (by have := G1.out; have := G2.out; simp; omega)).mono ?_; rintro e w6 ⟨rfl, hH6, hgr6⟩; have hB6 : Below w.heap.size w w6 := below_of_grown hB5 hgr6 hB5.size hgg; rw [Hall.out] at hH6; clear hgr6 hB5 hH5)
      | (go_at_call 13; refine (sum_any g bs w6 hH6 (by rw [hB.hlen]; omega)).mono ?_; rintro e w7 ⟨rv7, Hrv7, rfl, hb7⟩; have hB7 : Below w.heap.size w w7 := hB6.trans (hb7.mono hB6.size))
      | (go_at_call 9; refine (whole_any bp len cap bs w7 ((hB.below hB7).mono hB7.size) (by omega)).mono ?_; rintro e w8 ⟨rv8, Hrv8, rfl, hb8⟩; have hB8 : Below w.heap.size w w8 := hB7.trans (hb8.mono hB7.size); have heq := run_eql_dig bs rv7 rv8 Hrv7 Hrv8))
    go_ret
    exact ⟨rfl, hB8⟩
  · have hle : i ≤ k := by omega
    have hhi : k ≤ len := by omega
    have s1 := run_slice_head (P := Try.prog) 22 5 Try.underlying22 (by kernel_rfl) bp len cap i (by omega)
    have s2 := run_slice_mid (P := Try.prog) 22 5 Try.underlying22 (by kernel_rfl) bp len cap i k hle (by omega)
    have s3 := run_slice_tail (P := Try.prog) 22 5 Try.underlying22 (by kernel_rfl) bp len cap k hhi
    have H1 := Lib.hid (hB.cut 0 i (Nat.zero_le _) (Nat.le_trans hle hhi))
    have H2 := Lib.hid (hB.cut i k hle hhi)
    have H3 := Lib.hid (hB.cut k len hhi (Nat.le_refl _))
    obtain ⟨p1, l1, c1, hp1, hl1, hc1⟩ : ∃ p1 l1 c1, Hid (cutAt bp cap 0 = p1) ∧ Hid (i - 0 = l1) ∧ Hid (cap - 0 = c1) := ⟨_, _, _, rfl, rfl, rfl⟩
    obtain ⟨p2, l2, c2, hp2, hl2, hc2⟩ : ∃ p2 l2 c2, Hid (cutAt bp cap i = p2) ∧ Hid (k - i = l2) ∧ Hid (cap - i = c2) := ⟨_, _, _, rfl, rfl, rfl⟩
    obtain ⟨p3, l3, c3, hp3, hl3, hc3⟩ : ∃ p3 l3 c3, Hid (cutAt bp cap k = p3) ∧ Hid (len - k = l3) ∧ Hid (cap - k = c3) := ⟨_, _, _, rfl, rfl, rfl⟩
    rw [hp1.out, hl1.out, hc1.out] at s1
    rw [hp2.out, hl2.out, hc2.out] at s2
    rw [hp3.out, hl3.out, hc3.out] at s3
    have h1 := H1.out
    have h2 := H2.out
    have h3 := H3.out
    rw [hp1.out, hl1.out, hc1.out] at h1
    rw [hp2.out, hl2.out, hc2.out] at h2
    rw [hp3.out, hl3.out, hc3.out] at h3
    have e1 := hl1.out
    have e2 := hl2.out
    have e3 := hl3.out
    have hall : [] ++ (bs.drop 0).take l1 ++ (bs.drop i).take l2 ++ (bs.drop k).take l3 = bs := by rw [← e1, ← e2, ← e3, ← hB.hlen]; exact three_parts bs i k hle
    have L1 : l1 + l2 + l3 ≤ 4000 := by omega
    clear e1 e2 e3 H1 H2 H3
    generalize (bs.drop 0).take l1 = b1 at h1 hall
    generalize (bs.drop i).take l2 = b2 at h2 hall
    generalize (bs.drop k).take l3 = b3 at h3 hall
    have Hall := Lib.hid hall; clear hall
    have G1 := Lib.hid h1.hlen
    have G2 := Lib.hid h2.hlen
    have G3 := Lib.hid h3.hlen
    go_wp2_with (first
      | (go_at_call 11; refine (new_any _).mono ?_; rintro e w3 ⟨g, rfl, hg, hH, hb3⟩; have hB3 : Below w.heap.size w w3 := hb2.trans (hb3.mono hb2.size); have hgg : w.heap.size ≤ g := Nat.le_trans hb2.size hg; clear hb3 hb2 hg)
      | (go_at_call 12; refine (write_bytes g [] b1 p1 l1 c1 w.heap.size _ hH (h1.below hB3) hgg (by simp; omega)).mono ?_; rintro e w4 ⟨rfl, hH4, hgr4⟩; have hB4 : Below w.heap.size w w4 := below_of_grown hB3 hgr4 hB3.size hgg; clear hgr4 hB3 hH)
      | (go_at_call 12; refine (write_bytes g ([] ++ b1) b2 p2 l2 c2 w.heap.size _ hH4 (h2.below hB4) hgg (by have := G1.out; simp; omega)).mono ?_; rintro e w5 ⟨rfl, hH5, hgr5⟩; have hB5 : Below w.heap.size w w5 := below_of_grown hB4 hgr5 hB4.size hgg; clear hgr5 hB4 hH4)
      | (go_at_call 12; refine (write_bytes g ([] ++ b1 ++ b2) b3 p3 l3 c3 w.heap.size _ hH5 (h3.below hB5) hgg (by have := G1.out; have := G2.out; simp; omega)).mono ?_; rintro e w6 ⟨rfl, hH6, hgr6⟩; have hB6 : Below w.heap.size w w6 := below_of_grown hB5 hgr6 hB5.size hgg; rw [Hall.out] at hH6; clear hgr6 hB5 hH5)
      | (go_at_call 13; refine (sum_any g bs w6 hH6 (by rw [hB.hlen]; omega)).mono ?_; rintro e w7 ⟨rv7, Hrv7, rfl, hb7⟩; have hB7 : Below w.heap.size w w7 := hB6.trans (hb7.mono hB6.size))
      | (go_at_call 9; refine (whole_any bp len cap bs w7 ((hB.below hB7).mono hB7.size) (by omega)).mono ?_; rintro e w8 ⟨rv8, Hrv8, rfl, hb8⟩; have hB8 : Below w.heap.size w w8 := hB7.trans (hb8.mono hB7.size); have heq := run_eql_dig bs rv7 rv8 Hrv7 Hrv8))
    go_ret
    exact ⟨rfl, hB8⟩
end Go.Proofs.Ytcnjffckjcoafaa
