/-
  Look: a disk's image, put behind those that were seen.
-/
import Derived.Test.YtegdlpllljccgaaDoorLwChn
import Derived.Test.YtegdlpllljccgaaDoorLwImg
set_option linter.unusedSimpArgs false
set_option linter.unusedVariables false
namespace Go.Proofs.YtegdlpllljccgaaDoor
open Go.RowKit Sh

/-- What was seen: the block g of it, the images in rows of their own in blocks K. -/
structure SeenW (g B : Nat) (K : Nat → Prop) (v : Value) (vs : List Value) (imgs : List (List (List UInt8))) (w : World) : Prop where
  at_ : w.heap[g]? = some (.cells #[v, .int .i64 0] 74 (0, 0))
  own : w.ownsRow B 113 1 v imgs.length vs
  len : vs.length = imgs.length
  imgs : ∀ (i : Nat) img, imgs[i]? = some img → ∃ b cap, vs[i]? = some (.slice (some ⟨b, 0, none⟩) img.length cap) ∧ K b ∧ ImgAt b img w
  dK : ∀ b, K b → b ≠ g ∧ v.ownBlock ≠ some b ∧ b < w.heap.size
  dg : v.ownBlock ≠ some g
  low : B ≤ g
section
variable {g B : Nat} {K : Nat → Prop} {v : Value} {vs : List Value} {imgs : List (List (List UInt8))} {w w' : World}
theorem ImgAt.keep {b : Nat} {img : List (List UInt8)} (h : ImgAt b img w) (hs : w.heap.size ≤ w'.heap.size) (hb : w'.heap[b]? = w.heap[b]?) : ImgAt b img w' :=
  ⟨Nat.lt_of_lt_of_le h.1 hs, fun i p hi => ⟨(h.2 i p hi).1, range_keep (h.2 i p hi).2 hb⟩⟩
theorem SeenW.lt (h : SeenW g B K v vs imgs w) : g < w.heap.size := (Array.getElem?_eq_some_iff.1 h.at_).1
theorem SeenW.only {F : Nat → Prop} (h : SeenW g B K v vs imgs w) (ho : Only F w w') (hg : ¬ F g) (hv : ∀ b, v.ownBlock = some b → ¬ F b) (hK : ∀ b, K b → ¬ F b) : SeenW g B K v vs imgs w' where
  at_ := (ho.block g h.lt hg).trans h.at_
  own := own_keep h.own fun b e => ho.block b (h.own.lt b e).2 (hv b e)
  len := h.len
  imgs := fun i img hi => by
    obtain ⟨b, cap, h1, h2, h3⟩ := h.imgs i img hi
    exact ⟨b, cap, h1, h2, h3.keep ho.size (ho.block b h3.1 (hK b h2))⟩
  dK := fun b hb => ⟨(h.dK b hb).1, (h.dK b hb).2.1, Nat.lt_of_lt_of_le (h.dK b hb).2.2 ho.size⟩
  dg := h.dg
  low := h.low
theorem SeenW.below (h : SeenW g B K v vs imgs w) (hb : Below w.heap.size w w') : SeenW g B K v vs imgs w' where
  at_ := (hb.block g h.lt).trans h.at_
  own := own_keep h.own fun b e => hb.block b (h.own.lt b e).2
  len := h.len
  imgs := fun i img hi => by
    obtain ⟨b, cap, h1, h2, h3⟩ := h.imgs i img hi
    exact ⟨b, cap, h1, h2, h3.below hb⟩
  dK := fun b hb' => ⟨(h.dK b hb').1, (h.dK b hb').2.1, Nat.lt_of_lt_of_le (h.dK b hb').2.2 hb.size⟩
  dg := h.dg
  low := h.low
end
theorem infoImg : (Tryd.prog.info? 113).map (fun i => (i.zero, i.size, i.bytes)) = some (some (.slice none 0 0), 1, 24) := by kernel_rfl
theorem infoPgL : (Tryd.prog.info? 63).map (fun i => (i.zero, i.size, i.bytes)) = some (some (.agg zeroPage.toArray), 64, 64) := by kernel_rfl
theorem infoPg : (Tryd.prog.info? 63).map (fun i => (i.zero, i.size, i.bytes)) = some (some (.agg zeros64), 64, 64) := by kernel_rfl
def LookP (g B : Nat) (v : Value) (imgs : List (List (List UInt8))) (img : List (List UInt8)) (K : Nat → Prop) (vs : List Value) (w : World) (e : Ending) (w' : World) : Prop :=
  e = .returned (.tuple #[]) ∧ ∃ v' b cap, w.heap.size ≤ b ∧ SeenW g B (fun j => K j ∨ j = b) v' (vs ++ [Value.slice (some ⟨b, 0, none⟩) img.length cap]) (imgs ++ [img]) w' ∧ Only (fun j => j = g ∨ v.ownBlock = some j) w w' ∧ (∀ j, v'.ownBlock = some j → v.ownBlock = some j ∨ w.heap.size ≤ j)
section
variable {g B gd : Nat} {K F : Nat → Prop} {v : Value} {vs : List Value} {imgs : List (List (List UInt8))} {S : St} {w w' : World}
set_option maxRecDepth 100000 in
set_option maxHeartbeats 4000000 in
/-- Look. -/
theorem look_any (h : SeenW g B K v vs imgs w) (hD : PD S F gd w) (hB : Byt S) (ho : S.off = false) (n : Nat) (hn : S.firm.length = n) (hn1 : 0 < n) (hn2 : n ≤ 4096) (hBw : B ≤ w.heap.size) (hi100 : imgs.length ≤ 100) :
    Calls Tryd.prog 31 #[.pointer (some ⟨g, 0, none⟩), .pointer (some ⟨gd, 0, none⟩)] w (LookP g B v imgs (imgB S) K vs w) := by
  obtain ⟨img, Himg⟩ : ∃ img, Hid (img = imgB S) := ⟨_, rfl⟩
  have himl : img.length = n := by rw [Himg.out, imgB_length, hn]
  have hrd : ∀ i, i < n → readOf S (i : Int) = ((img.getD i []).map cu8, 0) ∧ (img.getD i []).length = 64 := fun i hi => by
    rw [Himg.out]; exact ⟨img_read hB ho (by omega), (imgB_get hB (by omega)).2⟩
  have Hrd := Lib.hid hrd; have Himl := Lib.hid himl
  rw [← Himg.out]
  have hsz := fun W (hW : Below w.heap.size w W) => pd_size (hD.below hW)
  have hof := fun W (hW : Below w.heap.size w W) => pd_off (hD.below hW)
  rw [hn] at hsz
  rw [ho] at hof
  have hred := fun W (hW : Below w.heap.size w W) => fun i => pd_read (hD.below hW) i
  have Hred := Lib.hid hred; have Hsz := Lib.hid hsz; have Hof := Lib.hid hof
  clear hrd himl hsz hof hred hD hn hB
  have hrow0 : w.ownsRow w.heap.size 63 64 (.slice none 0 0) 0 [] := World.ownsRow_nil _ _ _ _
  go_enter Tryd.func31, Tryd.ntmps31
  go_wp2_with (first
    | (go_at_call 49; refine (Hof.out w (Below.refl _ _)).mono ?_; rintro e w1 ⟨rfl, hq⟩; replace hq := hq.symm; subst hq)
    | (go_at_call 39; refine (Hsz.out w (Below.refl _ _)).mono ?_; rintro e w1 ⟨rfl, hq⟩; replace hq := hq.symm; subst hq))
  obtain ⟨i0, hi0, hzz0⟩ := Option.map_eq_some_iff.1 infoPg
  simp only [Prod.mk.injEq] at hzz0
  have Hi0 := Lib.hid (And.intro hi0 hzz0)
  clear hi0 hzz0
  have hlt0 : ∀ i : Nat, i < n → (i : Int) < (n : Int) := fun i hi => by omega
  go_loopg [4, 16] n (fun gg xv i wr => ∃ k : Nat, k ≤ n ∧ gg = n - k ∧ i = .int .i64 k ∧ wr.ownsRow w.heap.size 63 64 xv k (((img.take k).flatten).map cu8) ∧ Below w.heap.size w wr)
  case atStart => exact ⟨0, by omega, by omega, rfl, by simpa using hrow0, Below.refl _ _⟩
  case round =>
    clear hrow0
    obtain ⟨k, hk, rfl, rfl, hown, hbel⟩ := hrel
    by_cases hlt : k < n
    · have hlt' := hlt0 k hlt
      have hred := Hred.out wr hbel (k : Int)
      rw [(Hrd.out k hlt).1] at hred
      obtain ⟨pq, Hpq⟩ : ∃ pq, Hid (pq = img.getD k []) := ⟨_, rfl⟩
      have hpq64 : pq.length = 64 := by rw [Hpq.out]; exact (Hrd.out k hlt).2
      rw [← Hpq.out] at hred
      obtain ⟨qv, Hqv⟩ : ∃ qv : List Value, Hid (qv = pq.map cu8) := ⟨_, rfl⟩
      rw [← Hqv.out] at hred
      have hqvl : qv.length = 64 := by rw [Hqv.out, List.length_map, hpq64]
      have hqi0 : Hid ((Tryd.prog.info? 63).map (·.size) = some qv.length) := by rw [hqvl]; exact info64
      have hqi : Hid ((Tryd.prog.info? 63).map (·.size) = some qv.toArray.size) := by rw [List.size_toArray, hqvl]; exact info64
      have hqz : Hid (zeros64.size = qv.toArray.size) := by rw [show qv.toArray.size = 64 from by rw [List.size_toArray, hqvl]]; exact (rfl : zeros64.size = 64)
      have hq1 : Hid (qv.toArray.all (·.oneCell') = true) := by rw [Hqv.out]; exact bytes_one _
      have hone : Hid (∀ u ∈ qv, u.oneCell' = true) := fun u hu => by rw [Hqv.out] at hu; obtain ⟨y, _, rfl⟩ := List.mem_map.1 hu; rfl
      have Hqvl := Lib.hid hqvl
      clear hqvl
      go_wp2_with (go_at_call 28; refine hred.mono ?_)
      rintro e w2 ⟨ev, rfl, hE, hb2⟩
      obtain rfl := ErrV.zero hE
      have hbel2 := hbel.trans (hb2.mono hbel.size)
      have hown2 := own_keep hown fun b e => hb2.block b (hown.lt b e).2
      clear hE hred hbel hown hb2
      go_upto_region 6 with (first
        | (refine wpList_alloc_arr rfl 63 rfl _ alloc64 ?_)
        | (refine wpList_store_new rfl 63 _ _ rfl w2.heap.size rfl qv.toArray rfl rfl 63 _ hqi.out hqz.out hq1.out ?_))
      have hb3 : Below w2.heap.size w2 (w2.alloc (.cells qv.toArray 63)) := (Below.refl _ _).alloc (Nat.le_refl _) _
      have hy3 : (w2.alloc (.cells qv.toArray 63)).heap[w2.heap.size]? = some (.cells qv.toArray 63 (0, 0)) := heap_alloc_new w2 _
      have hbel3 := hbel2.trans (hb3.mono hbel2.size)
      have hown3 := own_keep hown2 fun b e => hb3.block b (hown2.lt b e).2
      generalize w2.alloc (.cells qv.toArray 63) = w3 at hb3 hy3 hbel3 hown3 ⊢
      obtain ⟨y, hy⟩ : ∃ y, w2.heap.size = y := ⟨_, rfl⟩
      rw [hy] at hy3 ⊢
      clear hy hb3 hown2 hbel2 hqz hq1
      have hcell := Lib.hid (run_loadAt_mid (P := Tryd.prog) w3 y 0 63 qv _ (fun j v hj => by rw [Nat.zero_add, cell_of_row w3 y j _ _ _ hy3]; simpa using hj) Tryd.underlying63 rfl hqi0.out)
      have hnew : ∀ (j : Nat) (u : Value), qv[j]? = some u → (w3.alloc (.cells qv.toArray 63)).cell? ((⟨w3.heap.size, 0, none⟩ : Addr).add j) = some u := fun j u hu => by
        have e : (⟨w3.heap.size, 0, none⟩ : Addr).add j = ⟨w3.heap.size, 0 + j, none⟩ := by unfold Addr.add; split <;> simp_all
        rw [e, Nat.zero_add, cell_of_row _ w3.heap.size j _ _ _ (heap_alloc_new w3 _)]; simpa using hu
      have Hnew := Lib.hid hnew
      have hownA := hown3.alloc (.cells qv.toArray 63)
      have HownA := Lib.hid hownA; have Hbel3 := Lib.hid hbel3; have Hown3 := Lib.hid hown3
      have hws : w.heap.size ≤ w3.heap.size := hbel3.size
      clear hownA hnew hbel3 hown3 hy3
      go_wp2_with (first
        | (refine wpList_load_page _ rfl y 0 rfl _ hcell.out (by rfl) ?_)
        | (refine wpList_row1 113 63 _ rfl rfl qv 64 zeroPage 64 Tryd.underlying113 infoPgL (by omega) (by omega) (by simp [zeroPage]) Hqvl.out rfl ?_)
        | (refine wpList_append_any rfl _ _ 113 rfl w.heap.size 63 i0 _ 64 64 Tryd.underlying113 Hi0.out.1 Hi0.out.2.1 Hi0.out.2.2.1 Hi0.out.2.2.2 rfl (by omega) _ k _ rfl HownA.out (some ⟨w3.heap.size, 0, none⟩) 1 1 qv rfl (fun e => by cases e) (by rw [Hqvl.out]) (fun ad he j u hu => by cases he; exact Hnew.out j u hu) hone.out (by unfold maxLen; omega) (by omega) (Nat.le_trans hws (by simp)) ?_; intro v6 w6 hown6 hg6))
      have hgB : w3.grownBy w6 u4.ownBlock := grownBy_trans (World.grownBy_alloc w3 (.cells qv.toArray 63) u4.ownBlock) hg6
      have hnx : ((img.take k).flatten).map cu8 ++ qv = ((img.take (k + 1)).flatten).map cu8 := by rw [take_flat (by rw [Himl.out]; exact hlt), List.map_append, ← Hpq.out, ← Hqv.out]
      rw [hnx] at hown6
      have hbel6 : Below w.heap.size w w6 := Hbel3.out.grown hgB hws (fun j hj => (Hown3.out.lt j hj).1)
      clear HownA Hown3 Hbel3 hcell Hnew
      go_roundg (n - (k + 1))
      case measure => omega
      case rel => exact ⟨k + 1, by omega, rfl, by go_num, hown6, hbel6⟩
    · obtain rfl : k = n := by omega
      have htk : img.take k = img := List.take_of_length_le (by rw [Himl.out]; exact Nat.le_refl _)
      rw [htk] at hown
      obtain ⟨b, cp, rfl, hbB, himg⟩ : ∃ b cp, u4 = .slice (some ⟨b, 0, none⟩) k cp ∧ w.heap.size ≤ b ∧ ImgAt b img wr := by
        rcases hown.2 with ⟨_, h0⟩ | ⟨b, cap, cur, hv, hB, hg, hc, hm, hs, ht⟩
        · omega
        · refine ⟨b, cap, hv, hB, (Array.getElem?_eq_some_iff.1 hg).1, fun i p hi => ?_⟩
          have hik : i < k := by rw [← Himl.out]; exact (List.getElem?_eq_some_iff.1 hi).1
          have hp := (Hrd.out i hik)
          have e0 : img.getD i [] = p := by rw [List.getD_eq_getElem?_getD, hi]; rfl
          have hp64 : p.length = 64 := by rw [← e0]; exact hp.2
          refine ⟨hp64, fun j u hj => ?_⟩
          have hj64 : j < 64 := by have := (List.getElem?_eq_some_iff.1 hj).1; rw [List.length_map, hp64] at this; exact this
          have hall : ∀ q ∈ img, q.length = 64 := fun q hq => by
            obtain ⟨m, hm, rfl⟩ := List.getElem_of_mem hq
            have := (Hrd.out m (by rw [← Himl.out]; exact hm)).2
            rw [List.getD_eq_getElem?_getD, List.getElem?_eq_getElem hm] at this; exact this
          rw [cell_of_row wr b _ _ _ _ hg, ← Array.getElem?_toList]
          have e : (cur.toList.take (k * 64))[i * 64 + j]? = ((img.flatten).map cu8)[i * 64 + j]? := by rw [ht]
          rw [List.getElem?_take_of_lt (by omega), List.getElem?_map, flat_at hall hi hj64, ← List.getElem?_map, hj] at e
          exact e
      have hS := h.below (w' := wr) (hbel.mono (Nat.le_refl _))
      obtain ⟨i1, hi1, hzz1⟩ := Option.map_eq_some_iff.1 infoImg
      simp only [Prod.mk.injEq] at hzz1
      have Hi1 := Lib.hid (And.intro hi1 hzz1)
      have c0 : wr.cell? ⟨g, 0, none⟩ = some v := by rw [cell_of_row wr g 0 _ _ _ hS.at_]; rfl
      have HS := Lib.hid hS; have Himg := Lib.hid himg; have Hbel := Lib.hid hbel
      have hcellS : ∀ (j : Nat) (u : Value), [Value.slice (some ⟨b, 0, none⟩) k cp][j]? = some u → (wr.alloc (.cells #[.slice (some ⟨b, 0, none⟩) k cp] 113)).cell? ((⟨wr.heap.size, 0, none⟩ : Addr).add j) = some u := fun j u hu => by
        match j with
        | 0 =>
          obtain rfl : Value.slice (some ⟨b, 0, none⟩) k cp = u := by simpa using hu
          exact cell_of_row _ wr.heap.size _ _ _ _ (heap_alloc_new wr _)
        | j + 1 => simp at hu
      have HcellS := Lib.hid hcellS
      have hbw : B ≤ wr.heap.size := Nat.le_trans hBw hbel.size
      have hownS := hS.own.alloc (.cells #[.slice (some ⟨b, 0, none⟩) k cp] 113)
      have HownS := Lib.hid hownS
      clear hi1 hzz1 hS himg hbel hcellS hownS hown
      go_wp2_with (first
        | (refine wpList_append_lies _ rfl _ _ 72 rfl B 113 i1 _ 1 24 Tryd.underlying72 Hi1.out.1 Hi1.out.2.1 Hi1.out.2.2.1 Hi1.out.2.2.2 rfl (by omega) _ imgs.length vs rfl HownS.out ⟨wr.heap.size, 0, none⟩ 1 1 [Value.slice (some ⟨b, 0, none⟩) k cp] rfl rfl HcellS.out (fun u hu => by rw [List.mem_singleton.1 hu]; rfl) (by omega) (by unfold maxLen; omega) (by omega) (Nat.le_trans hbw (by simp)) (wr.heap.size + 1) (by simp) ?_; intro g13 cp13 w13 hown13 hgr13' hg13' hlt13
           have hg13 : v.ownBlock = some g13 ∨ g13 = wr.heap.size + 1 := hg13'
           have hgr13 : (wr.alloc (.cells #[.slice (some ⟨b, 0, none⟩) k cp] 113)).grownBy w13 v.ownBlock := hgr13'
           clear hgr13' hg13'
           have hgg : (wr.alloc (.cells #[.slice (some ⟨b, 0, none⟩) k cp] 113)).heap[g]? = some (.cells #[v, .int .i64 0] 74 (0, 0)) := by
             rw [Below.heap_alloc _ _ _ (HS.out.lt)]; exact HS.out.at_
           have hx13 : w13.heap[g]? = some (.cells #[v, .int .i64 0] 74 (0, 0)) := (hgr13.block g (by have := HS.out.lt; simp; omega) (fun e => HS.out.dg e.symm)).trans hgg
           have c13 : w13.cell? ⟨g, 0, none⟩ = some v := by rw [cell_of_row w13 g 0 _ _ _ hx13]; rfl
           have f13 : w13.frozen? ⟨g, 0, none⟩ = false := thawed_row hx13 0))
      have hx14 : (w13.setCell ⟨g, 0, none⟩ (.slice (some ⟨g13, 0, none⟩) (imgs.length + 1) cp13)).heap[g]? = some (.cells #[.slice (some ⟨g13, 0, none⟩) (imgs.length + 1) cp13, .int .i64 0] 74 (0, 0)) :=
        setCell_row (cs := [v, .int .i64 0]) hx13 0 _
      have hother : ∀ j, j ≠ g → (w13.setCell ⟨g, 0, none⟩ (.slice (some ⟨g13, 0, none⟩) (imgs.length + 1) cp13)).heap[j]? = w13.heap[j]? := fun j hj => by
        simp [World.setCell, Array.getElem?_modify, Ne.symm hj]
      have hsz14 : (w13.setCell ⟨g, 0, none⟩ (.slice (some ⟨g13, 0, none⟩) (imgs.length + 1) cp13)).heap.size = w13.heap.size := by simp [World.setCell]
      have hos14 : (w13.setCell ⟨g, 0, none⟩ (.slice (some ⟨g13, 0, none⟩) (imgs.length + 1) cp13)).os = w13.os ∧ (w13.setCell ⟨g, 0, none⟩ (.slice (some ⟨g13, 0, none⟩) (imgs.length + 1) cp13)).tape = w13.tape ∧ (w13.setCell ⟨g, 0, none⟩ (.slice (some ⟨g13, 0, none⟩) (imgs.length + 1) cp13)).output = w13.output := ⟨rfl, rfl, rfl⟩
      generalize w13.setCell ⟨g, 0, none⟩ (.slice (some ⟨g13, 0, none⟩) (imgs.length + 1) cp13) = w14 at hx14 hother hsz14 hos14 ⊢
      first | go_end0 | refine bodyPost_ret (v := .tuple #[]) (results_none rfl _ _ _) rfl ?_
      have hwrs := Hbel.out.size
      have hlg := h.lt
      have hvl := fun j (e : v.ownBlock = some j) => (h.own.lt j e)
      have hg13c : v.ownBlock = some g13 ∨ w.heap.size ≤ g13 := hg13.imp id (fun e => by omega)
      have hne13 : g13 ≠ g := fun e => by
        rcases hg13 with e' | e'
        · exact h.dg (by rw [e', e])
        · omega
      have hkeep : ∀ j, j < wr.heap.size → j ≠ g → v.ownBlock ≠ some j → w14.heap[j]? = wr.heap[j]? := fun j hj h1 h2 => by
        rw [hother j h1, hgr13.block j (by simp; omega) (fun e => h2 e.symm), Below.heap_alloc _ _ _ hj]
      have hsz : wr.heap.size ≤ w14.heap.size := by
        have := hgr13.size
        simp at this
        omega
      refine ⟨rfl, .slice (some ⟨g13, 0, none⟩) (imgs.length + 1) cp13, b, cp, hbB, ?_, ?_, ?_⟩
      · refine ⟨hx14, ?_, ?_, ?_, ?_, ?_, h.low⟩
        · rw [List.length_append, Himl.out]
          exact own_keep hown13 fun j e => hother j (by
            have : some g13 = some j := e
            have := Option.some.inj this
            omega)
        · simp [h.len]
        · intro i im hi
          rcases Nat.lt_trichotomy i imgs.length with hlt | heq | hgt
          · rw [List.getElem?_append_left hlt] at hi
            obtain ⟨b', c', h1, h2, h3⟩ := HS.out.imgs i im hi
            have hdk := HS.out.dK b' h2
            exact ⟨b', c', by rw [List.getElem?_append_left (by rw [h.len]; exact hlt)]; exact h1, .inl h2, h3.keep hsz (hkeep b' hdk.2.2 hdk.1 hdk.2.1)⟩
          · subst heq
            rw [List.getElem?_append_right (Nat.le_refl _), Nat.sub_self] at hi
            obtain rfl : img = im := by simpa using hi
            refine ⟨b, cp, ?_, .inr rfl, Himg.out.keep hsz (hkeep b Himg.out.1 (by omega) (fun e => by have := hvl b e; omega))⟩
            rw [List.getElem?_append_right (by rw [h.len]; exact Nat.le_refl _), h.len, Nat.sub_self, Himl.out]; rfl
          · rw [List.getElem?_eq_none (by simp; omega)] at hi
            cases hi
        · rintro j (hj | rfl)
          · have hdk := h.dK j hj
            refine ⟨hdk.1, fun e => ?_, by omega⟩
            have : some g13 = some j := e
            have := Option.some.inj this
            subst this
            rcases hg13 with e' | e'
            · exact hdk.2.1 e'
            · omega
          · refine ⟨by omega, fun e => ?_, by have := Himg.out.1; omega⟩
            have : some g13 = some j := e
            have := Option.some.inj this
            subst this
            rcases hg13 with e' | e'
            · have := hvl g13 e'; omega
            · have := Himg.out.1; omega
        · intro e
          have : some g13 = some g := e
          exact hne13 (Option.some.inj this)
      · refine ⟨hos14.1.trans (hgr13.os.trans Hbel.out.os), hos14.2.1.trans (hgr13.tape.trans Hbel.out.tape), hos14.2.2.trans (hgr13.output.trans Hbel.out.output), by omega, fun j hj hn => ?_⟩
        rw [hkeep j (by omega) (fun e => hn (.inl e)) (fun e => hn (.inr e))]
        exact Hbel.out.block j hj
      · intro j e
        have : some g13 = some j := e
        have := Option.some.inj this
        subst this
        exact hg13c
end
end Go.Proofs.YtegdlpllljccgaaDoor
