/-
  'CrcBursts': its walk.
-/
import Derived.Test.YtmbhfmipmadjpaaCrcFitsLaw
import Derived.Test.YtmbhfmipmadjpaaCrcTurn
import Derived.StillTailTactics
namespace Go.Proofs.Ytmbhfmipmadjpaa
open Go.RowKit Sh Cr

/-- The first L cells of block g hold M. -/
structure RowOf (w : World) (g L : Nat) (M : List UInt8) : Prop where
  len : M.length = L
  ex : ∃ cur : Array Value, w.heap[g]? = some (.cells cur 5 (0, 0)) ∧ ∀ j, j < L → cur[j]? = some (cu8 (at8 M j))
theorem RowOf.lt {w : World} {g L : Nat} {M : List UInt8} (h : RowOf w g L M) : g < w.heap.size := by
  obtain ⟨_, cur, h1, _⟩ := h
  exact (Array.getElem?_eq_some_iff.1 h1).1
theorem RowOf.cell {w : World} {g L : Nat} {M : List UInt8} (h : RowOf w g L M) {q : Nat} (hq : q < L) : w.cell? ⟨g, q, none⟩ = some (.int .u8 (bz (at8 M q))) := by
  obtain ⟨_, cur, h1, h2⟩ := h
  rw [cell_of_row w g q _ _ _ h1]; exact h2 q hq
theorem RowOf.frozen {w : World} {g L : Nat} {M : List UInt8} (h : RowOf w g L M) (q : Nat) : w.frozen? ⟨g, q, none⟩ = false := by
  obtain ⟨_, cur, h1, _⟩ := h
  exact frozen_of_row w g q _ _ h1
theorem RowOf.set {w : World} {g L : Nat} {M : List UInt8} (h : RowOf w g L M) (q : Nat) (x : UInt8) : RowOf (w.setCell ⟨g, q, none⟩ (.int .u8 (bz x))) g L (M.set q x) := by
  obtain ⟨hl, cur, h1, h2⟩ := h
  refine ⟨by rw [List.length_set, hl], _, heap_setCell_same w g q _ _ _ h1, fun j hj => ?_⟩
  rw [Array.getElem?_setIfInBounds]
  have hj' : j < M.length := by omega
  have hs : j < cur.size := (Array.getElem?_eq_some_iff.1 (h2 j hj)).1
  by_cases e : q = j
  · subst e
    rw [if_pos rfl, if_pos hs]
    simp [at8, List.getD_eq_getElem?_getD, hj', cu8]
  · rw [if_neg e, h2 j hj]
    simp [at8, List.getD_eq_getElem?_getD, e]
theorem RowOf.bytes {w : World} {g L c : Nat} {M : List UInt8} (h : RowOf w g L M) (hc : L ≤ c) (hm : c ≤ maxLen) : Bytes w.heap.size w (some ⟨g, 0, none⟩) L c M :=
  ⟨h.len, hc, hm, .inr ⟨g, 0, rfl, h.lt, fun j hj => by rw [Nat.zero_add]; exact h.cell hj⟩⟩
theorem RowOf.of_own {w0 w : World} {v : Value} {n : Nat} {l : List UInt8} (h : Own w0 v n l w) (hn : 0 < n) : ∃ gc c, v = .slice (some ⟨gc, 0, none⟩) n c ∧ w0.heap.size ≤ gc ∧ n ≤ c ∧ c ≤ maxLen ∧ RowOf w gc n l := by
  have hl : l.length = n := by have := h.own.1; simpa using this
  rcases h.own.2 with ⟨_, h0⟩ | ⟨gc, c, cur, rfl, hb, hg, hc, hm, _⟩
  · omega
  · refine ⟨gc, c, rfl, hb, hc, hm, hl, cur, hg, fun j hj => ?_⟩
    rw [← cell_of_row w gc j _ _ _ hg, h.own.cellAt j (by omega), List.getElem?_map, List.getElem?_eq_getElem (by omega)]
    simp [at8, List.getD_eq_getElem?_getD, List.getElem?_eq_getElem (show j < l.length by omega)]
theorem RowOf.drew {w : World} {g L : Nat} {M : List UInt8} (h : RowOf w g L M) : RowOf w.drew g L M := ⟨h.len, h.ex⟩

theorem shl_one8 (r : Nat) (hr : r < 8) : IntKind.u8.wrap ((2 : Int) ^ r) = bz (UInt8.ofNat (2 ^ r)) := by
  obtain rfl | rfl | rfl | rfl | rfl | rfl | rfl | rfl : r = 0 ∨ r = 1 ∨ r = 2 ∨ r = 3 ∨ r = 4 ∨ r = 5 ∨ r = 6 ∨ r = 7 := by omega
  all_goals decide +kernel

set_option maxRecDepth 100000 in
set_option maxHeartbeats 1600000 in
theorem crcBursts_any (bp : Option Addr) (len cap : Nat) (bs : List UInt8) (x : Int) (bu : UInt32) (w : World) (hB : Bytes w.heap.size w bp len cap bs) (hlen : len ≤ 140737488351232) :
    Calls Try.prog 6 #[.slice bp len cap, .int .i64 x, .int .u32 (uz bu)] w (TruePost w) := by
  by_cases hu : bu = 0
  · subst hu
    have hu0 : uz 0 = 0 := rfl
    go_enter Try.func6, Try.ntmps6
    go_wp2_with (first
      | (go_at_call 8; refine (stands_any _).mono ?_; rintro e w1 ⟨rfl, hb1⟩))
    go_ret
    exact ⟨rfl, hb1⟩
  have hu0 : ¬ (uz bu = 0) := fun e => hu (uz_inj (e.trans rfl))
  have hu1 : (uz bu == 0) = false := by simpa using hu0
  by_cases hbig : 2000 < len
  · have hbig' : 2000 < (len : Int) := by omega
    go_enter Try.func6, Try.ntmps6
    go_wp2_with (first
      | (go_at_call 8; refine (stands_any _).mono ?_; rintro e w1 ⟨rfl, hb1⟩))
    go_ret
    exact ⟨rfl, hb1⟩
  have hbig' : ¬ (2000 < (len : Int)) := by omega
  have hm := Lib.hid hB.hmax
  have hl := Lib.hid hB.hlen
  obtain ⟨L, HL⟩ : ∃ L, Hid (len + 4 = L) := ⟨_, rfl⟩
  obtain ⟨nn, Hn⟩ : ∃ nn, Hid (8 * L = nn) := ⟨_, rfl⟩
  have hL1 : L ≤ 2004 := by have := HL.out; omega
  have hL2 : 4 ≤ L := by have := HL.out; omega
  have hn1 : nn ≤ 16032 := by have := Hn.out; omega
  have hn2 : 32 ≤ nn := by have := Hn.out; omega
  go_enter Try.func6, Try.ntmps6
  go_wp2_with (first
    | (go_at_call 8; refine (stands_any _).mono ?_; rintro e w1 ⟨rfl, hb1⟩)
    | (go_at_call 11; refine (sumNil_any bp len cap bs w1 ((hB.below hb1).mono hb1.size)).mono ?_; rintro e w2 ⟨rfl, hb2⟩; have hB2 : Below w.heap.size w w2 := hb1.trans (hb2.mono hb1.size))
    | (go_at_call 14; refine (bytes_any _ w2).mono ?_; rintro e w3 ⟨rv, Hrv, rfl, hb3⟩; have hB3 : Below w.heap.size w w3 := hB2.trans (hb3.mono hB2.size); clear hb1 hb2 hb3 hB2)
    | (refine wpList_alloc_arr rfl 36 rfl _ alloc4 ?_)
    | (refine wpList_store_new rfl 36 _ _ rfl w3.heap.size rfl rv rfl rfl 36 _ (by rw [(a4_size Hrv).out]; kernel_rfl) (by rw [(a4_size Hrv).out]; kernel_rfl) (a4_one Hrv).out ?_
       have hr4 : (w3.alloc (.cells rv 36)).heap[w3.heap.size]? = some (.cells rv 36 (0, 0)) := heap_alloc_new w3 _
       have hW4 : Below w.heap.size w (w3.alloc (.cells rv 36)) := hB3.alloc hB3.size _
       generalize w3.alloc (.cells rv 36) = w4 at hr4 hW4 ⊢
       generalize w3.heap.size = g4 at hr4 ⊢))
  have hT4 := a4_bytes hr4 Hrv
  have hB4 := (hB.below hW4).mono hW4.size
  obtain ⟨s, hs⟩ : ∃ s, Hid (Cr.sum bs = s) := ⟨_, rfl⟩
  rw [hs.out] at hT4
  clear hB hr4
  refine wp_region_held (S := fun w' => Below w4.heap.size w4 w') (by kernel_rfl) ?_
  change wpAnyH _ _ _ _ _ _ _ _ (World.drew _)
  have hS5 : Below w4.heap.size w4 w4.drew := ⟨rfl, rfl, rfl, Nat.le_refl _, fun _ _ => rfl⟩
  generalize w4.drew = w5 at hS5 ⊢
  refine wpAnyH_take (i := 0) (v := .slice bp len cap) rfl (by kernel_rfl) (by kernel_rfl) (by kernel_rfl) (fun _ _ _ h => h) (Or.inl ⟨by rfl, ?_⟩) hS5 ?_
  · intro w _; go_simp
  try simp only [List.getElem_toArray, List.getElem_cons_zero, Act.put, List.setIfInBounds_toArray, List.set]
  refine wpAnyH_take (i := 2) (v := .slice (some ⟨g4, 0, none⟩) 4 4) rfl (by kernel_rfl) (by kernel_rfl) (by kernel_rfl) (fun _ _ _ h => h) (Or.inl ⟨by rfl, ?_⟩) hS5 ?_
  · intro w _; go_simp
  try simp only [List.getElem_toArray, List.getElem_cons_succ, List.getElem_cons_zero, Act.put, List.setIfInBounds_toArray, List.set]
  refine wpAnyH_one 1 _ rfl (by kernel_rfl) (by rfl) (fun K hK => ?_)
  refine wp_join w4 w5 (.const (.slice none 0 0)) _ rfl (.slice none 0 0) 0 [] rfl (Own.start hS5) _ bp len cap bs rfl (hB4.below hS5) len (by omega) (by omega) ?_
  intro v6 w6 hO6 hX6
  have hS6 : Below w4.heap.size w4 w6 := hO6.below
  obtain ⟨p6, c6, rfl, hP6⟩ := hO6.bytes
  refine hK _ _ hS6 ?_
  clear hK K
  try simp only [List.getElem_toArray, List.getElem_cons_succ, List.getElem_cons_zero, Act.put, List.setIfInBounds_toArray, List.set]
  refine wpAnyH_one 3 _ rfl (by kernel_rfl) (by rfl) (fun K hK => ?_)
  refine wp_join w4 w6 _ _ rfl _ _ _ rfl hO6 _ (some ⟨g4, 0, none⟩) 4 4 (le4 s) rfl (hT4.below hS6) L HL.out (by have := HL.out; omega) ?_
  intro v7 w7 hO7 hX7
  have hS7 : Below w4.heap.size w4 w7 := hO7.below
  obtain ⟨gc, c7, rfl, hgc, hc1, hc2, hRow⟩ := RowOf.of_own hO7 (by omega)
  refine hK _ _ hS7 ?_
  clear hK K
  try simp only [List.getElem_toArray, List.getElem_cons_succ, List.getElem_cons_zero, Act.put, List.setIfInBounds_toArray, List.set]
  refine wpAnyH_take (i := 4) (v := .slice (some ⟨gc, 0, none⟩) L c7) rfl (by kernel_rfl) (by kernel_rfl) (by kernel_rfl) (fun _ _ _ h => h) (Or.inl ⟨by rfl, ?_⟩) hS7 ?_
  · intro w _; go_simp
  try simp only [List.getElem_toArray, List.getElem_cons_succ, List.getElem_cons_zero, Act.put, List.setIfInBounds_toArray, List.set]
  refine wpAnyH_done (by kernel_rfl) ?_ _
  have hW7 : Below w.heap.size w w7 := hW4.trans (hS7.mono hW4.size)
  have hB7 := (hB4.below hS7).mono hS7.size
  clear hX6 hX7 hO6 hP6 hO7
  have hTu : Turned ([] ++ bs ++ le4 s) 0 0 false ([] ++ bs ++ le4 s) := Turned.start _ _
  have hgw : w.heap.size ≤ gc := Nat.le_trans hW4.size hgc
  have hM0 : Hid (([] ++ bs ++ le4 s : List UInt8) = bs ++ le4 (Cr.sum bs)) := Lib.hid (by rw [hs.out, List.nil_append])
  have hM1 : Hid ((bs ++ le4 (Cr.sum bs)).length = L) := Lib.hid (by rw [List.length_append, hl.out]; exact HL.out)
  clear hTu
  rw [hM0.out] at hRow
  clear hS7 hS6 hS5 hB7 hB4 hT4 hW4
  have hc1' := hc1
  have hc2' := Lib.hid hc2
  obtain ⟨a, ha, ha1⟩ := posmod x (nn : Int) (by omega)
  have x1 := tmod_in x (nn : Int) (by omega)
  have hne : ¬ ((nn : Int) = 0) := by omega
  have x2 : IntKind.i64.wrap (x.tmod (nn : Int)) = x.tmod (nn : Int) := IntWalk.i64_in _ (by omega)
  have x3 : IntKind.i64.wrap (x.tmod (nn : Int) + (nn : Int)) = x.tmod (nn : Int) + (nn : Int) := IntWalk.i64_in _ (by omega)
  have hmul : IntKind.i64.wrap (8 * (L : Int)) = (nn : Int) := by rw [IntWalk.i64_in _ (by omega)]; have := Hn.out; omega
  have hmul' : 8 * (L : Int) = (nn : Int) := by have := Hn.out; omega
  go_wp2
  clear hmul hmul' x2 x3 hne x1 ha hc1'
  obtain ⟨M0, hM⟩ : ∃ M0, Hid (bs ++ le4 (Cr.sum bs) = M0) := ⟨_, rfl⟩
  rw [hM.out] at hRow hM1
  have hTu : Turned M0 a 0 false M0 := Turned.start _ _
  have ha2 : a < nn := by omega
  clear ha1
  go_loopg [38, 10, 11] 32 (fun g i t _ wr => ∃ (k : Nat) (tb : Bool) (M : List UInt8), k ≤ 32 ∧ g = 32 - k ∧ i = .int .i64 k ∧ t = .bool tb ∧ Below w.heap.size w wr ∧ RowOf wr gc L M ∧ Turned M0 a k tb M)
  case atStart => exact ⟨0, false, M0, by omega, rfl, rfl, rfl, hW7, hRow, hTu⟩
  case round =>
    obtain ⟨k, tb, M, hk, rfl, rfl, rfl, hW, hR, hT⟩ := hrel
    clear hTu hRow hW7
    by_cases hlt : k < 32
    · have hlt' : (k : Int) < 32 := by omega
      have hsh := shr32 bu k hlt
      generalize bu >>> UInt32.ofNat k = y at hsh
      have hand := and_one y
      have u0 := uz_nonneg y
      have u1 := uz_lt y
      obtain ⟨p, hp⟩ : ∃ p, Hid (a + k = p) := ⟨_, rfl⟩
      have hp1 : (a : Int) + (k : Int) = (p : Int) := by have := hp.out; omega
      have hp2 : IntKind.i64.wrap ((a : Int) + (k : Int)) = (p : Int) := by rw [IntWalk.i64_in _ (by omega)]; exact hp1
      have hp3 : p < 20000 := by have := hp.out; omega
      by_cases hbit : uz y % 2 = 1
      · by_cases hin : p < nn
        · have hin' : (p : Int) < (nn : Int) := by omega
          obtain ⟨q, hq⟩ : ∃ q, Hid (p / 8 = q) := ⟨_, rfl⟩
          obtain ⟨r, hr⟩ : ∃ r, Hid (p % 8 = r) := ⟨_, rfl⟩
          have hq1 : (p : Int) / 8 = (q : Int) := by have := hq.out; omega
          have hq2 : (p : Int).tdiv 8 = (q : Int) := by rw [Int.tdiv_eq_ediv_of_nonneg (by omega)]; exact hq1
          have hr1 : (p : Int) % 8 = (r : Int) := by have := hr.out; omega
          have hr2 : (p : Int).tmod 8 = (r : Int) := by rw [Int.tmod_eq_emod_of_nonneg (by omega)]; exact hr1
          have hr8 : r < 8 := by have := hr.out; omega
          have hr8' : (r : Int) < 8 := by omega
          have hqL : q < L := by have := hq.out; have := Hn.out; omega
          have hqL' : (q : Int) < (L : Int) := by omega
          have hs1 := shl_one8 r hr8
          have hp4 : IntKind.i64.wrap (p : Int) = (p : Int) := IntWalk.i64_in _ (by omega)
          have hq0 : (0 : Int) ≤ (q : Int) := by omega
          have hq3 : IntKind.i64.wrap (q : Int) = (q : Int) := IntWalk.i64_in _ (by omega)
          have hr0 : (0 : Int) ≤ (r : Int) := by omega
          have hr4 : (r : Int).toNat = r := by omega
          have c0 := hR.cell hqL
          have f0 := hR.frozen q
          have hx := xor8 (at8 M q) (UInt8.ofNat (2 ^ r))
          go_wp2_with fail
          clear hsh hand u0 u1 hbit hin'
          go_still_tail 14, (by kernel_rfl)
          change wpList _ _ _ _ _ wr.drew
          go_wp2
          go_roundg (32 - (k + 1))
          case measure => omega
          case rel =>
            have hT2 := hT.flip hlt (by rw [hM1.out, Hn.out, hp.out]; exact hin)
            rw [hp.out, hq.out, hr.out] at hT2
            exact ⟨k + 1, true, _, by omega, rfl, by go_num, rfl, (hW.setCell (p := ⟨gc, q, none⟩) hgw _).drew, (hR.set q _).drew, hT2⟩
        · have hin' : ¬ ((p : Int) < (nn : Int)) := by omega
          go_wp2
          go_roundg (32 - (k + 1))
          case measure => omega
          case rel => exact ⟨k + 1, tb, M, by omega, rfl, by go_num, rfl, hW, hR, hT.skip⟩
      · have hbit' : uz y % 2 = 0 := by omega
        go_wp2
        go_roundg (32 - (k + 1))
        case measure => omega
        case rel => exact ⟨k + 1, tb, M, by omega, rfl, by go_num, rfl, hW, hR, hT.skip⟩
    · obtain rfl : k = 32 := by omega
      have hBf := hR.bytes hc1 hc2'.out
      have hf : Hid (fitsB M = !tb) := Lib.hid (Turned.fits (by rw [hM.out]; exact hT))
      cases tb
      all_goals
        go_wp2_with (first | (go_at_call 15; refine (fits_any none _ L c7 M wr (TabOk.nil _ _) hBf).mono ?_; rintro e w8 ⟨he, hb8⟩; rw [hf.out] at he; subst he))
        go_ret
        exact ⟨rfl, hW.trans (hb8.mono hW.size)⟩
end Go.Proofs.Ytmbhfmipmadjpaa
