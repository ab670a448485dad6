/-
  Clash: of texts of which two unlike ones have one digest it says so.
-/
import Derived.Test.YtegdlpllljccgaaDoorLwSeen
import Derived.Test.YtegdlpllljccgaaDoorPrSmall
import Derived.Test.YtegdlpllljccgaaDoorShaRefSum
set_option linter.unusedSimpArgs false
set_option linter.unusedVariables false
namespace Go.Proofs.YtegdlpllljccgaaDoor
open Go.RowKit Sh Go.Maps

/-- Texts in a slice of strings that lies below block N. -/
def StrsAt (N : Nat) (w : World) (bp : Option Addr) (ts : List (List UInt8)) : Prop :=
  ts.length = 0 ∨ ∃ b, bp = some ⟨b, 0, none⟩ ∧ b < N ∧ ∀ (i : Nat) t, ts[i]? = some t → w.cell? ⟨b, i, none⟩ = some (.string (strV t))
theorem StrsAt.below {N : Nat} {w w' : World} {bp : Option Addr} {ts : List (List UInt8)} (h : StrsAt N w bp ts) (hb : Below N w w') : StrsAt N w' bp ts :=
  h.imp id fun ⟨b, h1, h2, h3⟩ => ⟨b, h1, h2, fun i t ht => (hb.cell (p := ⟨b, i, none⟩) h2).trans (h3 i t ht)⟩
theorem bytes_of_str (w : World) (t : List UInt8) (hl : t.length ≤ maxLen) : ∃ cap w', (convert 9 122 (.string (strV t))).run Tryd.prog w = .ok (.slice (some ⟨w.heap.size, 0, none⟩) t.length cap) w' ∧
    Bytes w'.heap.size w' (some ⟨w.heap.size, 0, none⟩) t.length cap t ∧ Below w.heap.size w w' := by
  have h := run_bytes_of_string (P := Tryd.prog) w 9 122 5 (strV t) Tryd.underlying9 Tryd.underlying122 Tryd.underlying5
  rw [strV_size] at h
  refine ⟨_, _, h, ⟨rfl, grownCap_ge _ _ _ _, grownCap_le_maxLen _ _ _ _ hl, .inr ⟨w.heap.size, 0, rfl, by simp, fun j hj => ?_⟩⟩, ?_⟩
  · rw [Nat.zero_add]
    have hc := World.cell?_alloc_mark w.drew (bytesRow (strV t) (grownCap w t.length 0 5)) 5 ((bytesRow (strV t) (grownCap w t.length 0 5)).size, (bytesRow (strV t) (grownCap w t.length 0 5)).size + 1) j
    refine hc.trans ?_
    rw [bytesRow_at _ _ _ (by simpa [strV] using hj)]
    simp [strV, cu8, at8, bz_eq, List.getElem?_eq_getElem hj]
  · exact ((Below.refl _ _).drew).alloc (Nat.le_refl _) _
theorem wpList_conv_str {ops : Array Oper} {rest : List Oper} {o : Oper} {a : Act} {w : World} {Q : Exit → Act → World → Prop} (hg : o.guard = none) (x : Operand) (hop : o.op = .convert 9 122 x) (t : List UInt8)
    (hx : a.eval x = .string (strV t)) (hl : t.length ≤ maxLen)
    (hK : ∀ cap w', Hid (Bytes w'.heap.size w' (some ⟨w.heap.size, 0, none⟩) t.length cap t) → Below w.heap.size w w' → wpList Tryd.prog ops Q rest (a.put o.dst (.slice (some ⟨w.heap.size, 0, none⟩) t.length cap)) w') :
    wpList Tryd.prog ops Q (o :: rest) a w := by
  refine wpList_plain hg fun K' hK' => ?_
  obtain ⟨cap, w', hrun, hB, hb⟩ := bytes_of_str w t hl
  unfold Oper.wp
  simp only [execOp, hop, hx, Sem.run_bind, hrun, Result.andThen, Sem.run_pure]
  exact hK' _ _ (hK cap w' (Lib.hid hB) hb)
theorem wpList_look_seen {ops : Array Oper} {rest : List Oper} {o : Oper} {a : Act} {w : World} {Q : Exit → Act → World → Prop} (hg : o.guard = none) (m x : Operand) (hop : o.op = .lookup 147 m x true) {b n : Nat} {D : DataW Unit} (h : SeenM b n D w) (t : List UInt8)
    (hm : a.eval m = .map (some b)) (v : Value) (hx : a.eval x = v) (hv : v = keyV (dig t))
    (hK : ∀ s, Hid (D.atKey (keyL (dig t)) (.lit (.string [])) = .lit (.string s)) → wpList Tryd.prog ops Q rest (a.put o.dst (.tuple #[.string (strV s), .bool (has D (keyL (dig t)))])) w) :
    wpList Tryd.prog ops Q (o :: rest) a w := by
  refine wpList_plain hg fun K' hK' => ?_
  obtain ⟨s, hrun, hat⟩ := h.look t
  rw [← hv] at hrun
  unfold Oper.wp
  simp only [execOp, hop, hm, hx, Sem.run_bind, hrun, Result.andThen, Sem.run_pure]
  exact hK' _ _ (hK s (Lib.hid hat))
theorem wpList_store_seen {ops : Array Oper} {rest : List Oper} {o : Oper} {a : Act} {w : World} {Q : Exit → Act → World → Prop} (hg : o.guard = none) (m x y : Operand) (hop : o.op = .mapUpdate 147 m x y) {b n : Nat} {D : DataW Unit} (h : SeenM b n D w) (hn : n < maxLen) (t : List UInt8) (hl : t.length ≤ maxLen)
    (hm : a.eval m = .map (some b)) (v : Value) (hx : a.eval x = v) (hv : v = keyV (dig t)) (hy : a.eval y = .string (strV t))
    (hK : ∀ w', Hid (SeenM b (n + 1) (D.put (keyL (dig t)) (.lit (.string t))) w') → w.grownBy w' (some b) → wpList Tryd.prog ops Q rest (a.put o.dst undef) w') :
    wpList Tryd.prog ops Q (o :: rest) a w := by
  refine wpList_plain hg fun K' hK' => ?_
  obtain ⟨w', hrun, hown, ht⟩ := World.ownsMap.store h keyed32 Tryd.underlying147 hn (key_is (d := dig t) rfl) (plain_text hl)
  rw [← hv] at hrun
  unfold Oper.wp
  simp only [execOp, hop, hm, hx, hy, Sem.run_bind, hrun, Result.andThen, Sem.run_pure]
  exact hK' _ _ (hK w' (Lib.hid hown) ht.grown)
def ClashP (ts : List (List UInt8)) (w : World) (e : Ending) (w' : World) : Prop := ∃ b, e = .returned (.bool b) ∧ Below w.heap.size w w' ∧ (b = false → ∀ t ∈ ts, ∀ u ∈ ts, dig t = dig u → t = u)
section
variable {w : World}
set_option maxRecDepth 100000 in
set_option maxHeartbeats 4000000 in
/-- Clash. -/
theorem clash_any (bp : Option Addr) (cap : Nat) (ts : List (List UInt8)) (hS : StrsAt w.heap.size w bp ts) (hn : ts.length ≤ 100000) (hl : ∀ t ∈ ts, t.length ≤ 8192) :
    Calls Tryd.prog 53 #[.slice bp ts.length cap] w (ClashP ts w) := by
  have hmm := @run_makeMap Tryd.prog
  obtain ⟨L, hL⟩ : ∃ L, ts.length = L := ⟨_, rfl⟩
  rw [hL] at hn ⊢
  have HL := Lib.hid hL; have HS := Lib.hid hS; have Hl := Lib.hid hl
  clear hL hS hl
  have hm0 : SeenM w.heap.size 0 (.map []) (w.alloc (.map #[] 0)) := World.ownsMap_made w _ _ _
  have hb0 : Below w.heap.size w (w.alloc (.map #[] 0)) := (Below.refl _ _).alloc (Nat.le_refl _) _
  go_enter Tryd.func53, Tryd.ntmps53
  go_wp2
  generalize w.alloc (.map #[] 0) = wa at hm0 hb0 ⊢
  obtain ⟨B, hB⟩ : ∃ B, w.heap.size = B := ⟨_, rfl⟩
  rw [hB] at hm0 ⊢
  have HB := Lib.hid hB
  clear hB hmm
  go_loopg [4] L (fun gg i wr => ∃ (k : Nat) (D : DataW Unit), k ≤ L ∧ gg = L - k ∧ i = .int .i64 k ∧ SeenM B k D wr ∧ Has D (ts.take k) ∧ Below w.heap.size w wr)
  case atStart => exact ⟨0, _, by omega, rfl, rfl, hm0, by intro t ht; simp at ht, hb0⟩
  case round =>
    clear hm0 hb0
    obtain ⟨k, D, hk, rfl, rfl, hM, hH, hbel⟩ := hrel
    have HH := Lib.hid hH
    clear hH
    by_cases hlt : k < L
    · have hlt' : (k : Int) < L := by omega
      obtain ⟨t, ht⟩ : ∃ t, ts[k]? = some t := ⟨_, List.getElem?_eq_getElem (by rw [HL.out]; exact hlt)⟩
      have htl : t.length ≤ 8192 := Hl.out t (List.mem_of_getElem? ht)
      have htm : t.length ≤ maxLen := by unfold maxLen; omega
      obtain ⟨bl, rfl, hblN, hcell⟩ : ∃ b, bp = some ⟨b, 0, none⟩ ∧ b < w.heap.size ∧ ∀ (i : Nat) t, ts[i]? = some t → w.cell? ⟨b, i, none⟩ = some (.string (strV t)) := by
        rcases HS.out with h | h
        · rw [HL.out] at h; omega
        · exact h
      have hc := (hbel.cell (p := ⟨bl, k, none⟩) hblN).trans (hcell k t ht)
      have Hcell := Lib.hid hcell; have Ht := Lib.hid ht
      clear hcell ht
      obtain ⟨sv, Hsv⟩ : ∃ sv, Hid (sv = strV t) := ⟨_, rfl⟩
      rw [← Hsv.out] at hc
      go_wp2_with (first
        | (refine wpList_conv_str rfl _ rfl t (by rw [← Hsv.out]; rfl) htm ?_; intro cp w2 HB2 hb2))
      have hsum := rsum_any _ _ _ _ w2 HB2.out (by omega)
      have hbel2 := hbel.trans (hb2.mono hbel.size)
      have hM2 : SeenM B k D w2 := hM.below hb2 hM.lt
      obtain ⟨dv, Hdv⟩ : ∃ dv : Array Value, Hid (dv = ((dig t).map cu8).toArray) := ⟨_, rfl⟩
      rw [← Hdv.out] at hsum
      have hc2 := (hb2.cell (p := ⟨bl, k, none⟩) (by have := hbel.size; show bl < _; omega)).trans hc
      have hdi : Hid ((Tryd.prog.info? 23).map (·.size) = some dv.size) := by rw [Hdv.out]; exact (by kernel_rfl : (Tryd.prog.info? 23).map (·.size) = some 32)
      have hdz : Hid (z32.toArray.size = dv.size) := by rw [Hdv.out]; exact (rfl : z32.toArray.size = 32)
      have hd1 : Hid (dv.all (·.oneCell') = true) := by rw [Hdv.out]; exact bytes_one _
      clear hc hM HB2 hb2 hbel
      go_wp2_with (go_at_call 54; refine hsum.mono ?_)
      rintro e w3 ⟨rv, hrv, rfl, hb3⟩
      obtain rfl := hrv.out
      have hbel3 := hbel2.trans (hb3.mono hbel2.size)
      have hM3 : SeenM B k D w3 := hM2.below hb3 hM2.lt
      have hc3 := (hb3.cell (p := ⟨bl, k, none⟩) (by have := hbel2.size; show bl < _; omega)).trans hc2
      clear hc2 hM2 hb3 hbel2 hsum hrv
      go_upto_region 6 with (first
        | (refine wpList_alloc_arr rfl 23 rfl _ alloc32 ?_)
        | (refine wpList_store_new rfl 23 _ _ rfl w3.heap.size rfl rv rfl rfl 23 _ hdi.out hdz.out hd1.out ?_))
      have hb4 : Below w3.heap.size w3 (w3.alloc (.cells rv 23)) := (Below.refl _ _).alloc (Nat.le_refl _) _
      have hx4 : (w3.alloc (.cells rv 23)).heap[w3.heap.size]? = some (.cells rv 23 (0, 0)) := heap_alloc_new w3 _
      have hbel4 := hbel3.trans (hb4.mono hbel3.size)
      have hM4 : SeenM B k D (w3.alloc (.cells rv 23)) := hM3.below hb4 hM3.lt
      have hc4 := (hb4.cell (p := ⟨bl, k, none⟩) (by have := hbel3.size; show bl < _; omega)).trans hc3
      generalize w3.alloc (.cells rv 23) = w4 at hb4 hx4 hbel4 hM4 hc4 ⊢
      have hBx : B < w3.heap.size := hM3.lt
      obtain ⟨x, hx⟩ : ∃ x, w3.heap.size = x := ⟨_, rfl⟩
      rw [hx] at hx4 hBx ⊢
      clear hc3 hM3 hb4 hbel3 hdz hd1 hx
      have HM4 := Lib.hid hM4
      have hkv : Hid (.agg rv = keyV (dig t)) := by rw [Hdv.out]; exact rfl
      clear hM4
      go_upto_region 7 with (first
        | (refine wpList_load_row rfl 23 _ rfl x rfl 23 rv (0, 0) _ hx4 Tryd.underlying23 rfl hdi.out ?_)
        | (at_lookup; refine wpList_look_seen rfl _ _ rfl HM4.out t rfl (.agg rv) rfl hkv.out ?_; intro s Hs))
      obtain ⟨okb, Hok⟩ : ∃ okb : Bool, Hid (has D (keyL (dig t)) = okb) := ⟨_, rfl⟩
      obtain ⟨nb, Hnb⟩ : ∃ nb : Bool, Hid (((strV s).toList == sv.toList) = nb) := ⟨_, rfl⟩
      have hst : Hid (nb = true → s = t) := by
        intro h
        have e := Hnb.out
        rw [h, beq_iff_eq, ByteArray.toList_eq, ByteArray.toList_eq, Hsv.out] at e
        simpa [strV] using e
      rw [Hok.out]
      have hnb := Hnb.out
      obtain ⟨ssv, hss⟩ : ∃ ssv, strV s = ssv := ⟨_, rfl⟩
      rw [hss] at hnb ⊢
      have Hs2 := Lib.hid hss
      clear hss Hnb
      have hgo : okb = true → nb = true → True := fun _ _ => trivial
      by_cases hret : okb = true ∧ nb = false
      · obtain ⟨rfl, rfl⟩ := hret
        go_wp2
        first | go_ret2 | (refine bodyPost_ret (v := .bool true) (by simp [results, Tryd.results53, go_sem]) rfl ?_)
        exact ⟨true, rfl, hbel4, fun h => by cases h⟩
      · have hput : Has (D.put (keyL (dig t)) (.lit (.string t))) (ts.take (k + 1)) := by
          have e : ts.take (k + 1) = ts.take k ++ [t] := by rw [List.take_add_one, Ht.out]; rfl
          rw [e]
          refine HH.out.put HM4.out.isMap (fun h => ?_)
          rw [Hok.out] at h
          have hn2 : nb = true := by cases nb with
            | true => rfl
            | false => exact absurd ⟨h, rfl⟩ hret
          rw [Hs.out, hst.out hn2]
        have Hput := Lib.hid hput
        have hpick : ∃ W : Bool, (okb && !nb) = false := ⟨true, by cases okb <;> cases nb <;> simp_all⟩
        clear hput hpick Hs
        have HM9 := HM4
        clear HM4 Hdv
        cases okb
        case' true =>
          obtain rfl : nb = true := by cases nb with
            | true => rfl
            | false => exact absurd ⟨rfl, rfl⟩ hret
          go_wp2
        case' false =>
          clear hnb
          go_wp2
        all_goals
          refine wp_region_still_tail 6 (by kernel_rfl) (by kernel_rfl) ?_
          have hb5 : Below w4.heap.size w4 { w4 with drawn := w4.drawn + 1 } := ⟨rfl, rfl, rfl, Nat.le_refl _, fun _ _ => rfl⟩
          obtain ⟨wd, hdr⟩ : ∃ wd : World, ({ w4 with drawn := w4.drawn + 1 } : World) = wd := ⟨_, rfl⟩
          have HL9 : Hid ((loadVar 23 ⟨x, 0, none⟩).run Tryd.prog wd = .ok (.agg rv) wd) := by
            have hx5 : wd.heap[x]? = some (.cells rv 23 (0, 0)) := by rw [← hdr]; exact hx4
            exact run_loadAt_mid (P := Tryd.prog) wd x 0 23 rv.toList _ (fun j v hj => by rw [Nat.zero_add, cell_of_row wd x j _ _ _ hx5]; simpa using hj) Tryd.underlying23 rfl (by rw [Array.length_toList]; exact hdi.out)
          have hc5 : wd.cell? ⟨bl, k, none⟩ = some (.string sv) := by rw [← hdr]; exact hc4
          rw [hdr] at hb5 ⊢
          have hM5 := HM9.out.below hb5 HM9.out.lt
          have hbel5 := hbel4.trans (hb5.mono hbel4.size)
          clear hdr hbel4 hb5 HM9 hx4 hc4
          simp only [List.take_succ_cons, List.take_zero, List.drop_succ_cons, List.drop_zero]
          still_step
          refine wpStill_val rfl (v := .agg rv) ?_ ?_
          · unfold execOp
            rw [Sem.run_bind]
            exact (congrArg (fun r : Result Value => r.andThen fun v w' => (pure (Next.value v) : Sem Next).run Tryd.prog w') HL9.out).trans rfl
          iterate 4 still_step
          refine wpStill_nil ?_
          have HM5 := Lib.hid hM5
          clear hM5
          go_wp2_with (first
            | (refine wpList_store_seen rfl _ _ _ rfl HM5.out (by unfold maxLen; omega) t htm rfl (.agg rv) rfl hkv.out (by rw [← Hsv.out]; rfl) ?_; intro w6 HM6 hg6))
          go_roundg (L - (k + 1))
          case measure => omega
          case rel => exact ⟨k + 1, _, by omega, rfl, by go_num, HM6.out, Hput.out, below_of_grown hbel5 hg6 hbel5.size (by have := HB.out; omega)⟩
    · obtain rfl : k = L := by omega
      go_wp2
      go_ret
      refine ⟨_, rfl, hbel, fun _ => ?_⟩
      have := HH.out.one
      rwa [List.take_of_length_le (by rw [HL.out]; exact Nat.le_refl _)] at this
end
end Go.Proofs.YtegdlpllljccgaaDoor
