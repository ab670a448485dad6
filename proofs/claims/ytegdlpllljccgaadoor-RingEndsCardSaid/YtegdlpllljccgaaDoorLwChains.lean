/-
  chains: what is summed in opening the rings of the images that were seen.
-/
import Derived.Test.YtegdlpllljccgaaDoorLwChain
import Derived.Test.YtegdlpllljccgaaDoorLwLook
set_option linter.unusedSimpArgs false
set_option linter.unusedVariables false
namespace Go.Proofs.YtegdlpllljccgaaDoor
open Go.RowKit Sh

theorem rawText_len {pg : Nat → List UInt8} (hp : ∀ i, (pg i).length = 64) {m : Mk} (h : m.last.length = 32) (hk : kOf pg m ≤ 60) : (rawText pg m).length ≤ 4300 := by
  unfold rawText
  have e : ((rest pg m.place (kOf pg m)).flatten).length = (rest pg m.place (kOf pg m)).length * 64 := flat_len (fun p hq => by
    unfold rest at hq
    obtain ⟨i, _, rfl⟩ := List.mem_map.1 hq
    exact hp _)
  rw [List.length_append, List.length_append, e, h, List.length_take, hp]
  unfold rest takes
  rw [List.length_map, List.length_range]
  omega
theorem chain_count {n : Nat} {pg : Nat → List UInt8} : ∀ (f free : Nat) (m : Mk), (chainAll n pg f free m).1.length ≤ free
  | 0, _, _ => Nat.zero_le _
  | f + 1, free, m => by
    unfold chainAll
    split
    · rename_i hb
      have h3 := hb.2.2.2
      have h4 := takes_pos (kOf pg m)
      split
      · have := chain_count (n := n) (pg := pg) f (free - takes (kOf pg m)) (behind n m (kOf pg m) (dig (rawText pg m)))
        simp only [List.length_cons]
        omega
      · simp only [List.length_cons, List.length_nil]; omega
    · exact Nat.zero_le _
theorem chain_len {n : Nat} {pg : Nat → List UInt8} (hp : ∀ i, (pg i).length = 64) : ∀ (f free : Nat) (m : Mk), m.last.length = 32 → (∀ t ∈ (chainAll n pg f free m).1, t.length ≤ 4300) ∧ (chainAll n pg f free m).2.last.length = 32
  | 0, _, _, h => ⟨fun t ht => by simp [chainAll] at ht, h⟩
  | f + 1, free, m, h => by
    unfold chainAll
    split
    · rename_i hb
      split
      · obtain ⟨h1, h2⟩ := chain_len hp f (free - takes (kOf pg m)) (behind n m (kOf pg m) (dig (rawText pg m))) (dig_len _)
        refine ⟨fun t ht => ?_, h2⟩
        rcases List.mem_cons.1 ht with rfl | ht
        · exact rawText_len hp h hb.2.2.1
        · exact h1 t ht
      · refine ⟨fun t ht => ?_, h⟩
        rw [List.mem_singleton.1 ht]
        exact rawText_len hp h hb.2.2.1
    · exact ⟨fun t ht => by simp at ht, h⟩
/-- The texts of an image. -/
def imgTexts (img : List (List UInt8)) : List (List UInt8) := (chainAll img.length (pgOf img 0 img.length) img.length img.length m00).1
theorem strsC_cells {N : Nat} {w : World} {bp : Option Addr} {ts : List (List UInt8)} (h : StrsAt N w bp ts) : ∀ ad, bp = some ad → ∀ j u, (strsC ts)[j]? = some u → w.cell? (ad.add j) = some u := fun ad hb j u hu => by
  have hj : j < ts.length := by have := (List.getElem?_eq_some_iff.1 hu).1; simpa [strsC] using this
  rcases h with h | ⟨b, h1, h2, h3⟩
  · omega
  · rw [hb] at h1
    cases h1
    have e : (⟨b, 0, none⟩ : Addr).add j = ⟨b, j, none⟩ := by unfold Addr.add; split <;> simp_all
    rw [e]
    unfold strsC at hu
    rw [List.getElem?_map, List.getElem?_eq_getElem hj] at hu
    rw [h3 j _ (List.getElem?_eq_getElem hj)]
    simpa using hu
theorem strsC_one (ts : List (List UInt8)) : ∀ u ∈ strsC ts, u.oneCell' = true := fun u hu => by
  unfold strsC at hu
  obtain ⟨t, _, rfl⟩ := List.mem_map.1 hu
  rfl
section
variable {g B bm : Nat} {K : Nat → Prop} {v : Value} {vs : List Value} {imgs : List (List (List UInt8))} {w : World}
set_option maxRecDepth 100000 in
set_option maxHeartbeats 8000000 in
/-- chains, of one mark: that of a new ring. -/
theorem chains_any (h : SeenW g B K v vs imgs w) (hm : w.heap[bm]? = some (.cells (markCells m00).toArray 25 (0, 0))) (himg : ∀ img ∈ imgs, 0 < img.length ∧ img.length ≤ 4096) (hn0 : 0 < imgs.length) (hn : imgs.length ≤ 20) (mcap : Nat) :
    Calls Tryd.prog 33 #[.pointer (some ⟨g, 0, none⟩), .slice (some ⟨bm, 0, none⟩) 1 mcap] w (ClashP (imgs.flatMap imgTexts) w) := by
  obtain ⟨N, hN⟩ : ∃ N, imgs.length = N := ⟨_, rfl⟩
  obtain ⟨gv, cv, rfl⟩ : ∃ gv cv, v = .slice (some ⟨gv, 0, none⟩) N cv := by
    rcases h.own.2 with ⟨_, h0⟩ | ⟨gv, cap, cur, hv, _⟩
    · omega
    · exact ⟨gv, cap, by rw [hv, hN]⟩
  have hgvlt : gv < w.heap.size := (h.own.lt gv rfl).2
  have hcv : ∀ k img, imgs[k]? = some img → ∃ b cp, (∀ W, Below w.heap.size w W → W.cell? ⟨gv, k, none⟩ = some (.slice (some ⟨b, 0, none⟩) img.length cp)) ∧ ImgAt b img w := fun k img hi => by
    obtain ⟨b, cp, h1, _, h3⟩ := h.imgs k img hi
    refine ⟨b, cp, fun W hW => ?_, h3⟩
    have hk : k < N := by rw [← hN]; exact (List.getElem?_eq_some_iff.1 hi).1
    have ho := h.own
    rw [hN] at ho
    rw [World.cell?_of_block (a := ⟨gv, k, none⟩) (hW.block gv hgvlt), ho.cellAt k (by omega), h1]
  have c0 : w.cell? ⟨g, 0, none⟩ = some (.slice (some ⟨gv, 0, none⟩) N cv) := by rw [cell_of_row w g 0 _ _ _ h.at_]; rfl
  have hbm : bm < w.heap.size := (Array.getElem?_eq_some_iff.1 hm).1
  have hmk := Lib.hid (fun (W : World) (hW : Below w.heap.size w W) => (hW.block bm hbm).trans hm)
  obtain ⟨mv, Hmv⟩ : ∃ mv : List Value, Hid (mv = markCells m00) := ⟨_, rfl⟩
  rw [← Hmv.out] at hmk
  have hmvi : Hid ((Tryd.prog.info? 25).map (·.size) = some mv.toArray.size) := by rw [List.size_toArray, Hmv.out]; exact infoPMark
  have hmvz : Hid (zMark.toArray.size = mv.toArray.size) := by rw [Hmv.out]; rfl
  have hmv1 : Hid (mv.toArray.all (·.oneCell') = true) := by rw [Hmv.out]; exact all_oneCell_toArray (mark_one m00)
  have Hcv := Lib.hid hcv; have Himg := Lib.hid himg; have HN := Lib.hid hN
  have Hl := Lib.hid (fun W => lmark_any 0 0 (List.replicate 32 0) (by decide) W)
  have hmI : markI 0 0 (List.replicate 32 0) = markCells m00 := rfl
  rw [hmI, ← Hmv.out] at Hl
  obtain ⟨is, his, hisz⟩ := Option.map_eq_some_iff.1 infoStr
  simp only [Prod.mk.injEq] at hisz
  have His := Lib.hid (And.intro his hisz)
  have hrow0 : w.ownsRow w.heap.size 9 1 (.slice none 0 0) 0 [] := World.ownsRow_nil _ _ _ _
  clear hcv himg h hm his hisz hmI
  rw [hN] at hn hn0
  clear hN
  go_enter Tryd.func33, Tryd.ntmps33
  go_wp2
  go_loopg [5, 17] N (fun gg lv i wr => ∃ (k : Nat) (ts : List (List UInt8)) (ap : Option Addr) (cp : Nat), k ≤ N ∧ gg = N - k ∧ i = .int .i64 k ∧ lv = .slice ap ts.length cp ∧ Hid (ts = (imgs.take k).flatMap imgTexts) ∧ (ts.length ≤ 4096 * k ∧ ∀ t ∈ ts, t.length ≤ 4300) ∧ wr.ownsRow w.heap.size 9 1 (.slice ap ts.length cp) ts.length (strsC ts) ∧ Below w.heap.size w wr)
  case atStart => exact ⟨0, [], none, 0, by omega, by omega, rfl, rfl, by simp [Hid], ⟨by simp, by simp⟩, hrow0, Below.refl _ _⟩
  case round =>
    clear hrow0 c0
    obtain ⟨k, ts, ap, cp, hk, rfl, rfl, rfl, Hts, ⟨hcount, htl⟩, hown, hbel⟩ := hrel
    by_cases hlt : k < N
    · have hlt' : (k : Int) < N := by omega
      obtain ⟨img, hi⟩ : ∃ img, imgs[k]? = some img := ⟨_, List.getElem?_eq_getElem (by rw [HN.out]; exact hlt)⟩
      obtain ⟨b, cb, hcell, hat⟩ := Hcv.out k img hi
      obtain ⟨hi0, hi1⟩ := Himg.out img (List.mem_of_getElem? hi)
      have hcw := hcell wr hbel
      obtain ⟨D, hD⟩ : ∃ D, img.length = D := ⟨_, rfl⟩
      have hch := fun (W : World) (hW : Below w.heap.size w W) => chain_any b cb img 0 D m00 (hat.below hW) (by omega) (by omega) (by omega) (by omega) (by show 0 < D; omega) (by decide) (by decide)
      rw [hD] at hch hcw hi0 hi1
      rw [← Hmv.out] at hch
      have hpg64 : ∀ i, (pgOf img 0 D i).length = 64 := fun i => (hat.page (first := 0) (n := D) (by omega) hi0 i).1
      have hcc := chain_count (n := D) (pg := pgOf img 0 D) D D m00
      obtain ⟨hcl, hclast⟩ := chain_len (n := D) hpg64 D D m00 (by decide)
      have hit : imgTexts img = (chainAll D (pgOf img 0 D) D D m00).1 := by unfold imgTexts; rw [hD]
      obtain ⟨R, HR⟩ : ∃ R, Hid (R = chainAll D (pgOf img 0 D) D D m00) := ⟨_, rfl⟩
      rw [← HR.out] at hch hcc hcl hclast hit
      obtain ⟨us, me⟩ := R
      have hus : us.length ≤ D := hcc
      have Hch := Lib.hid hch; have Hcl := Lib.hid hcl; have Hit := Lib.hid hit
      obtain ⟨ev, Hev⟩ : ∃ ev : List Value, Hid (ev = markCells me) := ⟨_, rfl⟩
      have hevl : ev.length = 34 := by rw [Hev.out]; simp only [markCells, List.length_cons, List.length_map]; have : me.last.length = 32 := hclast; omega
      have hevi : Hid ((Tryd.prog.info? 46).map (·.size) = some ev.toArray.size) := by rw [List.size_toArray, hevl]; exact infoRMark
      have hevz : Hid (zMark.toArray.size = ev.toArray.size) := by rw [show ev.toArray.size = 34 from by rw [List.size_toArray, hevl]]; rfl
      have hev1 : Hid (ev.toArray.all (·.oneCell') = true) := by rw [Hev.out]; exact all_oneCell_toArray (mark_one me)
      have Hi := Lib.hid hi; have Htl := Lib.hid htl
      clear hcell hat hch hcc hcl hclast hit hevl hpg64 HR htl hi
      go_wp2
      go_loopg [5, 23] 1 (fun gg lv i wr2 => ∃ (j : Nat) (ts2 : List (List UInt8)) (ap2 : Option Addr) (cp2 : Nat), j ≤ 1 ∧ gg = 1 - j ∧ i = .int .i64 j ∧ lv = .slice ap2 ts2.length cp2 ∧ Hid (ts2 = if j = 0 then ts else ts ++ us) ∧ wr2.ownsRow w.heap.size 9 1 (.slice ap2 ts2.length cp2) ts2.length (strsC ts2) ∧ Below w.heap.size w wr2)
      case atStart => exact ⟨0, ts, ap, cp, by omega, by omega, rfl, rfl, rfl, hown, hbel⟩
      case round =>
        clear hown hbel hcw
        obtain ⟨j, ts2, ap2, cp2, hj, rfl, rfl, rfl, Hts2, hown, hbel⟩ := hrel
        by_cases hj0 : j < 1
        · obtain rfl : j = 0 := by omega
          have hts2 : ts2 = ts := Hts2.out
          subst hts2
          obtain ⟨TL, hTL⟩ : ∃ TL, ts2.length = TL := ⟨_, rfl⟩
          rw [hTL] at hown hcount ⊢
          have hmw := hmk.out wr hbel
          go_upto_region 8 with (first
            | (refine wpList_load_row rfl 25 _ rfl bm rfl 25 mv.toArray (0, 0) _ hmw Tryd.underlying25 rfl hmvi.out ?_)
            | (refine wpList_alloc_arr rfl 25 rfl _ allocMark ?_)
            | (refine wpList_store_new rfl 25 _ _ rfl wr.heap.size rfl mv.toArray rfl rfl 25 _ hmvi.out hmvz.out hmv1.out ?_))
          have hb1 : Below wr.heap.size wr (wr.alloc (.cells mv.toArray 25)) := (Below.refl _ _).alloc (Nat.le_refl _) _
          have hy1 : (wr.alloc (.cells mv.toArray 25)).heap[wr.heap.size]? = some (.cells mv.toArray 25 (0, 0)) := heap_alloc_new wr _
          have hbel1 := hbel.trans (hb1.mono hbel.size)
          have hown1 := own_keep hown fun b e => hb1.block b (hown.lt b e).2
          generalize wr.alloc (.cells mv.toArray 25) = w1 at hb1 hy1 hbel1 hown1 ⊢
          obtain ⟨y, hy⟩ : ∃ y, wr.heap.size = y := ⟨_, rfl⟩
          rw [hy] at hy1 ⊢
          clear hy hb1 hown hbel hmw
          go_wp2_with (first
            | (refine wpList_load_row rfl 25 _ rfl y rfl 25 mv.toArray (0, 0) _ hy1 Tryd.underlying25 rfl hmvi.out ?_)
            | (go_at_call 16; refine (Hl.out _).mono ?_))
          rintro e w2 ⟨rv, hrv, rfl, hb2⟩
          obtain rfl := hrv.out
          have hbel2 := hbel1.trans (hb2.mono hbel1.size)
          have hown2 := own_keep hown1 fun b e => hb2.block b (hown1.lt b e).2
          clear hb2 hown1 hbel1 hrv hy1
          go_wp2_with (go_at_call 52; refine (Hch.out w2 hbel2).mono ?_)
          rintro e w3 ⟨bp3, c3, rfl, hS3, h03, hb3⟩
          have hbel3 := hbel2.trans (hb3.mono hbel2.size)
          have hown3 := own_keep hown2 fun b e => hb3.block b (hown2.lt b e).2
          have hS3' : StrsAt w3.heap.size w3 bp3 us := hS3
          have h03' : bp3 = none → us.length = 0 ∧ c3 = 0 := h03
          rw [show (markCells (us, me).2).toArray = ev.toArray from by rw [Hev.out]]
          clear hb3 hown2 hbel2 hS3 h03
          go_upto_region 9 with (first
            | (refine wpList_alloc_arr rfl 46 rfl _ allocRMark ?_)
            | (refine wpList_store_new rfl 46 _ _ rfl w3.heap.size rfl ev.toArray rfl rfl 46 _ hevi.out hevz.out hev1.out ?_))
          have hb4 : Below w3.heap.size w3 (w3.alloc (.cells ev.toArray 46)) := (Below.refl _ _).alloc (Nat.le_refl _) _
          have hbel4 := hbel3.trans (hb4.mono hbel3.size)
          have hown4 := own_keep hown3 fun b e => hb4.block b (hown3.lt b e).2
          have hS4 := (hS3'.below hb4)
          generalize w3.alloc (.cells ev.toArray 46) = w4 at hb4 hbel4 hown4 hS4 ⊢
          obtain ⟨UL, hUL⟩ : ∃ UL, us.length = UL := ⟨_, rfl⟩
          have hne : (strsC us).length = UL * 1 := by rw [← hUL]; simp [strsC]
          have Hne := Lib.hid hne
          have Hs4 := Lib.hid (strsC_cells hS4)
          have HUL := Lib.hid hUL
          have HTL := Lib.hid hTL
          rw [hUL] at hus h03'
          try rw [show (us, me).1.length = UL from hUL]
          clear hne hS4 hS3' hb4 hown3 hbel3 hUL hTL
          have hTLb : TL ≤ 4096 * 20 := by omega
          go_wp2_with (first
            | (refine wpList_append_any rfl _ _ 118 rfl w.heap.size 9 is _ 1 16 Tryd.underlying118 His.out.1 His.out.2.1 His.out.2.2.1 His.out.2.2.2 rfl (by omega) _ TL (strsC ts2) rfl hown4 bp3 UL c3 (strsC us) rfl h03' Hne.out Hs4.out (strsC_one us) (by unfold maxLen; omega) (by omega) hbel4.size ?_; intro v6 w6 hown6 hg6))
          have hbel6 : Below w.heap.size w w6 := below_own hbel4 hown4 hg6 hbel4.size
          obtain ⟨ap6, cp6, rfl⟩ := row_form hown6
          have hlen6 : (ts2 ++ us).length = TL + UL := by rw [List.length_append, HTL.out, HUL.out]
          have hap : strsC ts2 ++ strsC us = strsC (ts2 ++ us) := by simp [strsC]
          rw [hap] at hown6
          go_roundg 0
          case measure => omega
          case rel => exact ⟨1, ts2 ++ us, ap6, cp6, by omega, by omega, by go_num, by rw [hlen6], rfl, by rw [hlen6]; exact hown6, hbel6⟩
        · obtain rfl : j = 1 := by omega
          have hts2 : ts2 = ts ++ us := Hts2.out
          subst hts2
          go_wp2
          go_roundg (N - (k + 1))
          case measure => omega
          case rel =>
            have hlen : (ts ++ us).length = ts.length + us.length := List.length_append
            refine ⟨k + 1, ts ++ us, ap2, cp2, by omega, rfl, by go_num, rfl, ?_, ⟨by omega, fun t ht => ?_⟩, hown, hbel⟩
            · have e : imgs.take (k + 1) = imgs.take k ++ [img] := by rw [List.take_add_one, Hi.out]; rfl
              show ts ++ us = _
              rw [e, List.flatMap_append, ← Hts.out]
              simp [Hit.out]
            · rcases List.mem_append.1 ht with ht | ht
              · exact Htl.out t ht
              · exact Hcl.out t ht
    · obtain rfl : k = N := by omega
      have htk : imgs.take k = imgs := List.take_of_length_le (by rw [HN.out]; exact Nat.le_refl _)
      have hts : ts = imgs.flatMap imgTexts := by rw [Hts.out, htk]
      obtain ⟨_, _, hv, _, hS, h0⟩ := strs_of_own hown
      simp only [Value.slice.injEq] at hv
      obtain ⟨rfl, _, rfl⟩ := hv
      have hL1 : ts.length ≤ 100000 := by
        omega
      have hL2 : ∀ t ∈ ts, t.length ≤ 8192 := fun t ht => Nat.le_trans (htl t ht) (by decide)
      have hcl := clash_any _ cp ts hS hL1 hL2
      obtain ⟨TL, hTL⟩ : ∃ TL, ts.length = TL := ⟨_, rfl⟩
      rw [hTL] at hcl ⊢
      have Hcl := Lib.hid hcl; have Hts9 := Lib.hid hts
      clear hcl hS h0 htl hown hts hL1 hL2 hTL hcount htk
      go_wp2_with (go_at_call 53; refine Hcl.out.mono ?_)
      rintro e w2 ⟨b, rfl, hb2, hcb⟩
      go_wp2
      go_ret
      rw [← Hts9.out]
      exact ⟨b, rfl, hbel.trans (hb2.mono hbel.size), hcb⟩
end
end Go.Proofs.YtegdlpllljccgaaDoor
