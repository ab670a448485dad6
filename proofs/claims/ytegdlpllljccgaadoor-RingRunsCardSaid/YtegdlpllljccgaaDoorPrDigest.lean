/-
  The program's ring: a record's digest.
-/
import Derived.Test.YtegdlpllljccgaaDoorPrSmall
set_option linter.unusedSimpArgs false
set_option linter.unusedVariables false
namespace Go.Proofs.YtegdlpllljccgaaDoor
open Go.RowKit Sh

theorem run_slice_pages (b L cap : Nat) (h1 : 2 ≤ L) (h2 : L ≤ cap) (w : World) :
    (Instr.sliceAt 80 (.slice (some ⟨b, 0, none⟩) L cap) (some (.int .i64 1)) none none).run Tryd.prog w = .ok (.slice (some ⟨b, 64, none⟩) (L - 1) (cap - 1)) w := by
  have hT := Tryd.underlying80
  have hE : Tryd.prog.elem 80 = 63 := by simp [Program.elem, hT]
  have hsz : ∀ w : World, (sizeOf 63).run Tryd.prog w = .ok 64 w := fun w => by kernel_rfl
  have hadd : (⟨b, 0, none⟩ : Addr).add 64 = ⟨b, 64, none⟩ := rfl
  rw [run_sliceAt_slice (h := by rw [hE]; exact hT), run_slice_l (ht := by rw [hE]; exact hT) (h0 := by omega) (h1 := by omega), hE, hsz w]
  simp only [Result.andThen, sliced]
  rw [if_neg (by simp; omega)]
  rfl
section
variable {b : Nat} {pgs : List (List UInt8)} {w w' : World}
/-- The pages' bytes ahead of page k, and behind. -/
theorem take_flat {ps : List (List UInt8)} {k : Nat} (h : k < ps.length) : (ps.take (k + 1)).flatten = (ps.take k).flatten ++ ps.getD k [] := by
  rw [List.take_succ_eq_append_getElem h, List.flatten_append]; simp [h]
theorem getD_some {ps : List (List UInt8)} {k : Nat} (h : k < ps.length) : ps[k]? = some (ps.getD k []) := by simp [h]
theorem take_flat_len {ps : List (List UInt8)} (h : ∀ p ∈ ps, p.length = 64) (k : Nat) : (ps.take k).flatten.length ≤ ps.length * 64 := by
  rw [flat_len (fun p hp => h p (List.mem_of_mem_take hp)), List.length_take]; omega

structure PDgW (b g r x : Nat) (pgs : List (List UInt8)) (m : List UInt8) (w wr : World) : Prop where
  hash : HashAt wr g m
  rec_ : RecAt b pgs wr
  res : wr.heap[r]? = some (.cells z32.toArray 23 (0, 0))
  bel : Below x w wr
set_option maxRecDepth 100000 in
set_option maxHeartbeats 4000000 in
/-- digest. -/
theorem pdigest_any {p : List UInt8} {ps : List (List UInt8)} (h : RecAt b (p :: ps) w) (cap : Nat) (L : Nat) (hL : L = ps.length + 1) (h2 : 2 ≤ L) (h65 : L ≤ 4096) (hcap : L ≤ cap) (last : List UInt8) (hlast : last.length = 32) :
    Calls Tryd.prog 74 #[.agg (last.map cu8).toArray, .slice (some ⟨b, 0, none⟩) L cap] w (AggPost (fun r => r = ((dig (last ++ (p.take 10 ++ ps.flatten))).map cu8).toArray) w) := by
  subst hL
  obtain ⟨J, hJ⟩ : ∃ J, ps.length = J := ⟨_, rfl⟩
  rw [hJ] at h2 h65 hcap ⊢
  have HJ := Lib.hid hJ
  clear hJ
  obtain ⟨lv, Hlv⟩ : ∃ lv : List Value, Hid (lv = last.map cu8) := ⟨_, rfl⟩
  rw [← Hlv.out]
  have hlv : lv.length = 32 := by rw [Hlv.out, List.length_map, hlast]
  have hp : p.length = 64 := h.len p (by simp)
  -- the box, the result's block
  have hb2 : Below w.heap.size w ((w.alloc (.cells lv.toArray 23)).alloc (.cells z32.toArray 23)) := ((Below.refl _ _).alloc (Nat.le_refl _) _).alloc (by simp) _
  have h1 : ((w.alloc (.cells lv.toArray 23)).alloc (.cells z32.toArray 23)).heap[w.heap.size]? = some (.cells lv.toArray 23 (0, 0)) := by
    rw [Below.heap_alloc _ _ _ (by simp)]; exact heap_alloc_new _ _
  have hr2 : ((w.alloc (.cells lv.toArray 23)).alloc (.cells z32.toArray 23)).heap[w.heap.size + 1]? = some (.cells z32.toArray 23 (0, 0)) := by
    have := heap_alloc_new (w.alloc (.cells lv.toArray 23)) (.cells z32.toArray 23)
    simpa using this
  go_enter Tryd.func74, Tryd.ntmps74
  go_upto_region 1 with (refine wpList_alloc_arr rfl 23 rfl _ alloc32 ?_)
  try simp only [World.size_alloc]
  generalize (w.alloc (.cells lv.toArray 23)).alloc (.cells z32.toArray 23) = w2 at hb2 h1 hr2 ⊢
  obtain ⟨r, hr⟩ : ∃ r, w.heap.size + 1 = r := ⟨_, rfl⟩
  obtain ⟨x, hx⟩ : ∃ x, w.heap.size = x := ⟨_, rfl⟩
  have hxr : x + 1 = r := by omega
  rw [hr] at hr2 ⊢
  rw [hx] at h1 hb2 ⊢
  have Hx := Lib.hid hx
  clear hr hx
  have hxl : x < w2.heap.size := (Array.getElem?_eq_some_iff.1 h1).1
  have hrl : r < w2.heap.size := (Array.getElem?_eq_some_iff.1 hr2).1
  have hR2 : RecAt b (p :: ps) w2 := by rw [← Hx.out] at hb2; exact h.below hb2
  have hbx : b < x := by have := h.lt; have := Hx.out; omega
  have Hb2 := Lib.hid hb2; have H1 := Lib.hid h1; have Hr2 := Lib.hid hr2
  clear hb2 h1 hr2 h
  go_wp2_with (go_at_call 83; refine (new_any _).mono ?_)
  rintro e w3 ⟨g, rfl, hg, hH, hb3⟩
  have hxg : x < g ∧ r < g := by omega
  have Hb3 := Lib.hid (Hb2.out.trans (hb3.mono (by omega)))
  have H13 := Lib.hid ((hb3.block x hxl).trans H1.out)
  have Hr3 := Lib.hid ((hb3.block r hrl).trans Hr2.out)
  have hR3 := hR2.below hb3
  have hgl := hH.lt
  clear Hb2 H1 Hr2 hR2 hb3 hxl hrl
  -- the Last
  have hw1 := write_any g [] last (some ⟨x, 0, none⟩) x 0 32 w3 hH (by omega) (by omega) (by unfold maxLen; omega) (fun _ => rfl) (fun j hj => by
    rw [Nat.zero_add, cell_of_row w3 x j _ _ _ H13.out, List.getElem?_toArray, Hlv.out, List.getElem?_map, List.getElem?_eq_getElem hj]; simp [at8, hj]) (by simp; omega)
  rw [hlast, List.nil_append] at hw1
  clear hH
  go_wp2_with (go_at_call 84; refine hw1.mono ?_)
  clear hw1
  rintro e w4 ⟨rfl, hH, hg4⟩
  have hR4 := hR3.of_block (hg4.block b (hR3.lt) (by simp; omega))
  have Hr4 := Lib.hid ((hg4.block r (by omega) (by simp; omega)).trans Hr3.out)
  have Hb4 := Lib.hid (below_of_grown Hb3.out hg4 (by omega) (by omega))
  have hs4 : g < w4.heap.size := hH.lt
  clear Hr3 Hb3 hR3 hg4 H13
  -- the first ten bytes
  have hw2 := write_any g last (p.take 10) (some ⟨b, 0, none⟩) b 0 64 w4 hH (by omega) (by simp; omega) (by unfold maxLen; omega) (fun _ => rfl) (fun j hj => by
    have hj10 : j < 10 := by simp at hj; omega
    have := hR4.cell (i := 0) (j := j) (p := p) rfl (by omega)
    rw [Nat.zero_mul] at this
    rw [this]
    simp [at8, List.getElem?_take_of_lt hj10]) (by simp; omega)
  rw [show (p.take 10).length = 10 from by simp; omega] at hw2
  clear hH
  go_wp2_with (go_at_call 84; refine hw2.mono ?_)
  clear hw2
  rintro e w5 ⟨rfl, hH, hg5⟩
  have hR5 := hR4.of_block (hg5.block b (hR4.lt) (by simp; omega))
  have Hr5 := Lib.hid ((hg5.block r (by omega) (by simp; omega)).trans Hr4.out)
  have Hb5 := Lib.hid (below_of_grown Hb4.out hg5 (by omega) (by omega))
  clear Hr4 Hb4 hR4 hg5 hs4
  have hsl := run_slice_pages b (J + 1) cap h2 hcap
  rw [Nat.add_sub_cancel] at hsl
  obtain ⟨m0, Hm0⟩ : ∃ m0, Hid (m0 = last ++ p.take 10) := ⟨_, rfl⟩
  have hm0 : m0.length = 42 := by rw [Hm0.out]; simp [hlast, hp]
  rw [← Hm0.out] at hH
  have hW0 : PDgW b g r x (p :: ps) m0 w w5 := ⟨hH, hR5, Hr5.out, Hb5.out⟩
  clear hH hR5 Hr5 Hb5 hgl hg
  go_wp2
  go_loopg [20] J (fun gg i wr => ∃ k : Nat, k ≤ J ∧ gg = J - k ∧ i = .int .i64 k ∧ PDgW b g r x (p :: ps) (m0 ++ (ps.take k).flatten) w wr)
  case atStart => exact ⟨0, by omega, rfl, rfl, by simpa using hW0⟩
  case round =>
    clear hW0 hsl
    obtain ⟨k, hk, rfl, rfl, hW⟩ := hrel
    by_cases hlt : k < J
    · have hlt' : (k : Int) < J := by omega
      have hkl : k < ps.length := by rw [HJ.out]; exact hlt
      have hlen := take_flat_len (ps := ps) (fun q hq => hW.rec_.len q (by simp [hq])) k
      rw [HJ.out] at hlen
      have hgw := hW.hash.lt
      obtain ⟨q, Hq⟩ : ∃ q, Hid (q = ps.getD k []) := ⟨_, rfl⟩
      have hqs : ps[k]? = some q := by rw [Hq.out]; exact getD_some hkl
      have hq64 : q.length = 64 := hW.rec_.len _ (List.mem_cons_of_mem _ (List.mem_of_getElem? hqs))
      have hr := hW.rec_.range (i := k + 1) (p := q) (by rw [List.getElem?_cons_succ]; exact hqs) 0 64 (by omega)
      rw [List.drop_zero, List.take_of_length_le (by omega), show (k + 1) * 64 + 0 = 64 + k * 64 from by omega] at hr
      obtain ⟨qv, Hqv⟩ : ∃ qv : List Value, Hid (qv = q.map cu8) := ⟨_, rfl⟩
      rw [← Hqv.out] at hr
      have hqvl : qv.length = 64 := by rw [Hqv.out, List.length_map, hq64]
      have hqi : Hid ((Tryd.prog.info? 63).map (·.size) = some qv.length) := by rw [hqvl]; exact info64
      have hqi2 : Hid ((Tryd.prog.info? 63).map (·.size) = some qv.toArray.size) := by rw [List.size_toArray, hqvl]; exact info64
      have hqz : Hid (zeros64.size = qv.toArray.size) := by rw [show qv.toArray.size = 64 from by rw [List.size_toArray, hqvl]]; exact (rfl : zeros64.size = 64)
      have hq1 : Hid (qv.toArray.all (·.oneCell') = true) := by rw [Hqv.out]; exact bytes_one _
      have hba : Below wr.heap.size wr (wr.alloc (.cells qv.toArray 63)) := (Below.refl _ _).alloc (Nat.le_refl _) _
      have hWa : PDgW b g r x (p :: ps) (m0 ++ (ps.take k).flatten) w (wr.alloc (.cells qv.toArray 63)) :=
        ⟨hW.hash.of_block (hba.block g hgw), hW.rec_.below hba, (hba.block r (by omega)).trans hW.res, hW.bel.trans (hba.mono (by omega))⟩
      have hw := write_any g (m0 ++ (ps.take k).flatten) q (some ⟨wr.heap.size, 0, none⟩) wr.heap.size 0 64 (wr.alloc (.cells qv.toArray 63)) hWa.hash (by omega) (by omega) (by unfold maxLen; omega) (fun _ => rfl) (fun j hj => by
        rw [Nat.zero_add, cell_of_row _ wr.heap.size j _ _ _ (heap_alloc_new wr _), List.getElem?_toArray, Hqv.out, List.getElem?_map, List.getElem?_eq_getElem hj]; simp [at8, hj]) (by rw [List.length_append, hm0, hq64]; omega)
      rw [hq64, List.append_assoc] at hw
      have hnx : (ps.take k).flatten ++ q = (ps.take (k + 1)).flatten := by rw [take_flat hkl, Hq.out]
      rw [hnx] at hw
      have Hr := Lib.hid hr
      clear hr hnx hkl hqs
      go_wp2_with (first
        | (refine wpList_alloc_arr rfl 63 rfl _ alloc64 ?_)
        | (refine wpList_load_mid rfl 63 _ rfl b (64 + k * 64) rfl qv _ Hr.out Tryd.underlying63 rfl hqi.out ?_)
        | (refine wpList_store_new rfl 63 _ _ rfl wr.heap.size rfl qv.toArray rfl rfl 63 _ hqi2.out hqz.out hq1.out ?_)
        | (go_at_call 84; refine hw.mono ?_))
      rintro e w6 ⟨rfl, hH6, hg6⟩
      have hbg : b ≠ g := by omega
      have hW6 : PDgW b g r x (p :: ps) (m0 ++ (ps.take (k + 1)).flatten) w w6 :=
        ⟨hH6, hWa.rec_.of_block (hg6.block b hWa.rec_.lt (by simpa using hbg)), (hg6.block r (by have := hba.size; omega) (by simp; omega)).trans hWa.res, below_of_grown hWa.bel hg6 (by have := hba.size; omega) (by omega)⟩
      clear hw hWa hba hH6 hg6 hW
      go_wp2
      go_roundg (J - (k + 1))
      case measure => omega
      case rel => exact ⟨k + 1, by omega, rfl, by go_num, hW6⟩
    · obtain rfl : k = J := by omega
      rw [List.take_of_length_le (by rw [HJ.out]; omega), Hm0.out, List.append_assoc] at hW
      have Hr9 := Lib.hid hW.res
      have Hb9 := Lib.hid hW.bel
      have hfl := flat_len (pgs := ps) (fun q hq => hW.rec_.len q (by simp [hq]))
      rw [HJ.out] at hfl
      have hsum := sum_any g _ wr hW.hash (by simp only [List.length_append, hfl, hlast, List.length_take]; omega)
      have hgw := hW.hash.lt
      clear hW hfl
      go_wp2_with (first
        | (go_at_call 85; refine hsum.mono ?_))
      rintro e w7 ⟨rv, Hrv, rfl, hb7⟩
      have Hr7 := Lib.hid ((hb7.block r (by omega)).trans Hr9.out)
      have Hb7 := Lib.hid (Hb9.out.trans (hb7.mono (by omega)))
      have hri : Hid ((Tryd.prog.info? 23).map (·.size) = some rv.size) := by rw [(dig_size Hrv).out]; exact (by kernel_rfl : (Tryd.prog.info? 23).map (·.size) = some 32)
      have hrz : Hid (z32.toArray.size = rv.size) := by rw [(dig_size Hrv).out]; exact (rfl : z32.toArray.size = 32)
      clear hsum hb7 Hr9 Hb9
      go_wp2_with (first
        | (refine wpList_store_row rfl 23 _ _ rfl r rv rfl rfl 23 z32.toArray Hr7.out hri.out hrz.out (dig_one Hrv).out ?_))
      refine bodyPost_ret (v := .agg rv) ?_ rfl ⟨rv, Hrv, rfl, by rw [Hx.out]; exact below_setRow Hb7.out (by omega) _⟩
      exact results_cell_row (ty := 23) rfl _ _ r 23 _ (0, 0) _ rfl (setRow_heap _ _ _ _ _ _ Hr7.out) Tryd.underlying23 rfl hri.out
end
end Go.Proofs.YtegdlpllljccgaaDoor
