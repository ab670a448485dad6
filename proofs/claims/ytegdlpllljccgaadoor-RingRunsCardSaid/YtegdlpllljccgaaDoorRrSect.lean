/-
  The reference's Sectors.
-/
import Derived.Test.YtegdlpllljccgaaDoorRrRows
import Derived.Test.YtegdlpllljccgaaDoorPrBad
set_option linter.unusedSimpArgs false
set_option linter.unusedVariables false
namespace Go.Proofs.YtegdlpllljccgaaDoor
open Go.RowKit Sh

def RSectP (m : Mk) (l : List Chg) (w : World) (e : Ending) (w' : World) : Prop :=
  ∃ b cap, e = .returned (.tuple #[.slice (some ⟨b, 0, none⟩) (takes l.length) cap, .agg ((dig (textOf m l)).map cu8).toArray]) ∧ w.heap.size ≤ b ∧ ImgAt b (sectors m l) w' ∧ Below w.heap.size w w'
structure S3 (x : Nat) (mv : List Value) (p : List UInt8) (w wr : World) : Prop where
  pg : PgAt (x + 2) p wr
  mrk : wr.heap[x]? = some (.cells mv.toArray 46 (0, 0))
  z : wr.heap[x + 1]? = some (.cells z32.toArray 23 (0, 0))
  bel : Below x w wr
theorem S3.set {x : Nat} {mv : List Value} {p : List UInt8} {w wr : World} (h : S3 x mv p w wr) (j : Nat) (b : UInt8) : S3 x mv (p.set j b) w (wr.setCell ⟨x + 2, j, none⟩ (cu8 b)) := by
  have hg := PgAt.turned (y := x + 2) (w := wr) j (cu8 b)
  have hl := h.pg.lt
  exact ⟨h.pg.set j b, (hg.block x (by omega) (by simp)).trans h.mrk, (hg.block (x + 1) (by omega) (by simp)).trans h.z, below_of_grown h.bel hg (by omega) (by omega)⟩
section
variable {w : World}
set_option maxRecDepth 100000 in
set_option maxHeartbeats 8000000 in
theorem rsectorsI_any (pl : Int) (m : Mk) (hm : m.last.length = 32) (hnum : m.num < 18446744073709551616) (l : List Chg) (hl : Fit l) (bp : Option Addr) (cap : Nat) (hC : Chgs w.heap.size w bp l) :
    Calls Tryd.prog 34 #[.agg (markI pl m.num m.last).toArray, .slice bp l.length cap] w (RSectP m l w) := by
  obtain ⟨bC, rfl, hbC, hrC⟩ := hC.resolve_left (fun h => by have := hl.one; rw [h] at this; simp at this)
  obtain ⟨K, hK⟩ : ∃ K, l.length = K := ⟨_, rfl⟩
  have hK1 : 1 ≤ K := by rw [← hK]; exact hl.one
  have hK60 : K ≤ 60 := by rw [← hK]; exact hl.le
  obtain ⟨mv, Hmv⟩ : ∃ mv : List Value, Hid (mv = markI pl m.num m.last) := ⟨_, rfl⟩
  rw [← Hmv.out, hK]
  have hbA := ((Below.refl w.heap.size w).alloc (Nat.le_refl _) (.cells mv.toArray 46))
  have hbB := hbA.alloc hbA.size (.cells z32.toArray 23)
  have hbD := hbB.alloc hbB.size (.cells zeros64 63)
  have h1 : (((w.alloc (.cells mv.toArray 46)).alloc (.cells z32.toArray 23)).alloc (.cells zeros64 63)).heap[w.heap.size]? = some (.cells mv.toArray 46 (0, 0)) := by
    rw [Below.heap_alloc _ _ _ (by simp; omega), Below.heap_alloc _ _ _ (by simp)]; exact heap_alloc_new w _
  have h2 : (((w.alloc (.cells mv.toArray 46)).alloc (.cells z32.toArray 23)).alloc (.cells zeros64 63)).heap[w.heap.size + 1]? = some (.cells z32.toArray 23 (0, 0)) := by
    rw [Below.heap_alloc _ _ _ (by simp)]
    have := heap_alloc_new (w.alloc (.cells mv.toArray 46)) (.cells z32.toArray 23)
    simpa using this
  have h3 : (((w.alloc (.cells mv.toArray 46)).alloc (.cells z32.toArray 23)).alloc (.cells zeros64 63)).heap[w.heap.size + 2]? = some (.cells ((pad64 []).map cu8).toArray 63 (0, 0)) := by
    have := heap_alloc_new ((w.alloc (.cells mv.toArray 46)).alloc (.cells z32.toArray 23)) (.cells zeros64 63)
    have e : zeros64 = ((pad64 []).map cu8).toArray := by kernel_rfl
    rw [← e]
    simpa using this
  have hW0 : S3 w.heap.size mv (pad64 []) w (((w.alloc (.cells mv.toArray 46)).alloc (.cells z32.toArray 23)).alloc (.cells zeros64 63)) := ⟨⟨rfl, h3⟩, h1, h2, hbD⟩
  clear h1 h2 h3 hbA hbB hbD
  have HK := Lib.hid hK; have Hl := Lib.hid hl
  clear hK hl hC
  go_enter Tryd.func34, Tryd.ntmps34
  go_upto_region 3 with (first
    | (refine wpList_alloc_arr rfl 23 rfl _ alloc32 ?_)
    | (refine wpList_alloc_arr rfl 63 rfl _ alloc64 ?_))
  try simp only [World.size_alloc, Nat.add_assoc, Nat.reduceAdd]
  generalize ((w.alloc (.cells mv.toArray 46)).alloc (.cells z32.toArray 23)).alloc (.cells zeros64 63) = wa at hW0 ⊢
  obtain ⟨x, hx⟩ : ∃ x, w.heap.size = x := ⟨_, rfl⟩
  rw [hx] at hW0 hbC ⊢
  have Hx := Lib.hid hx
  clear hx
  have c0 := hW0.pg.cell (j := 0) (by omega)
  have f0 := hW0.pg.thawed 0
  have hW1 : S3 x mv (pad64 (84 :: leN 0 m.num)) w (wa.setCell ⟨x + 2, 0, none⟩ (.int .u8 84)) := by
    have := hW0.set 0 84
    have hp1 : (pad64 []).set 0 84 = pad64 (84 :: leN 0 m.num) := pad64_set (A := []) (by decide) 84
    rw [hp1] at this
    exact this
  go_upto_region 5 with (fail)
  generalize wa.setCell ⟨x + 2, 0, none⟩ (.int .u8 84) = wb at hW1 ⊢
  have HW1 := Lib.hid hW1
  clear hW0 hW1 c0 f0
  go_loopg [8] 8 (fun gg i wr => ∃ k : Nat, k ≤ 8 ∧ gg = 8 - k ∧ i = .int .i64 k ∧ S3 x mv (pad64 (84 :: leN k m.num)) w wr)
  case atStart => exact ⟨0, by omega, rfl, rfl, HW1.out⟩
  case round =>
    clear HW1
    obtain ⟨k, hk, rfl, rfl, hW⟩ := hrel
    by_cases hlt : k < 8
    · have hlt' : (k : Int) < 8 := by omega
      have hA : (84 :: leN k m.num).length = 1 + k := by rw [List.length_cons, leN_length]; omega
      have c0 := hW.pg.cell (j := 1 + k) (by omega)
      have f0 := hW.pg.thawed (1 + k)
      have n1 : (8 * (k : Int)).toNat = 8 * k := by omega
      have hv : IntKind.u8.wrap ((m.num : Int) / 2 ^ (8 * k)) = bz (UInt8.ofNat (m.num / 2 ^ (8 * k))) := byteN m.num (8 * k)
      have cn : wr.cell? ⟨x, 1, none⟩ = some (.int .u64 m.num) := by rw [cell_of_row wr x 1 _ _ _ hW.mrk, Hmv.out]; rfl
      have hst := hW.set (1 + k) (UInt8.ofNat (m.num / 2 ^ (8 * k)))
      have hnx : (pad64 (84 :: leN k m.num)).set (1 + k) (UInt8.ofNat (m.num / 2 ^ (8 * k))) = pad64 (84 :: leN (k + 1) m.num) := by
        rw [← hA, pad64_set (by rw [hA]; omega), leN_succ]; rfl
      rw [hnx] at hst
      have Hst := Lib.hid hst
      clear hst hnx hA hW
      go_wp2
      go_roundg (8 - (k + 1))
      case measure => omega
      case rel => exact ⟨k + 1, by omega, rfl, by go_num, Hst.out⟩
    · obtain rfl : k = 8 := by omega
      have hlt' : ¬ (8 : Int) < 8 := by omega
      have hu : IntKind.u8.wrap (K : Int) = bz (UInt8.ofNat K) := by have := byteU K 0; simpa using this
      have c9 := hW.pg.cell (j := 9) (by omega)
      have f9 := hW.pg.thawed 9
      have hst := hW.set 9 (UInt8.ofNat K)
      have hnx : (pad64 (84 :: leN 8 m.num)).set 9 (UInt8.ofNat K) = pad64 (head10 m.num K) := pad64_set (A := 84 :: leN 8 m.num) (by rw [List.length_cons, leN_length]; omega) _
      rw [hnx] at hst
      have hst' : S3 x mv (pad64 (head10 m.num K)) w (wr.setCell ⟨x + 2, 9, none⟩ (.int .u8 (bz (UInt8.ofNat K)))) := hst
      clear hst hnx hW
      go_upto_region 9 with (fail)
      generalize wr.setCell ⟨x + 2, 9, none⟩ (.int .u8 (bz (UInt8.ofNat K))) = w8 at hst' ⊢
      obtain ⟨B, hB⟩ : ∃ B, w8.heap.size = B := ⟨_, rfl⟩
      have hBx : x + 2 < B := by rw [← hB]; exact hst'.pg.lt
      have HB := Lib.hid hB
      have hT0 : TwoR B w8 (.slice none 0 0) 0 [] (.slice none 0 0) [] w8 := ⟨Below.refl _ _, by rw [hB]; exact Nat.le_refl _, World.ownsRow_nil _ _ _ _, World.ownsRow_nil _ _ _ _, fun j e => by simp [Value.ownBlock] at e⟩
      have hS8 := fun (W : World) (hW : Below B w8 W) => (show S3 x mv (pad64 (head10 m.num K)) w W from
        ⟨⟨hst'.pg.1, (hW.block (x + 2) hBx).trans hst'.pg.2⟩, (hW.block x (by omega)).trans hst'.mrk, (hW.block (x + 1) (by omega)).trans hst'.z, hst'.bel.trans (hW.mono (by omega))⟩)
      have hlast : ∀ W : World, Below B w8 W → Bytes W.heap.size W (some ⟨x, 2, none⟩) 32 32 m.last := fun W hW => by
        have hb := (hS8 W hW).mrk
        refine ⟨hm, Nat.le_refl _, by unfold maxLen; omega, .inr ⟨x, 2, rfl, (Array.getElem?_eq_some_iff.1 hb).1, fun j hj => ?_⟩⟩
        rw [cell_of_row W x _ _ _ _ hb, List.getElem?_toArray, Hmv.out]
        simp only [markI]
        rw [Nat.add_comm 2 j, List.getElem?_cons_succ, List.getElem?_cons_succ, List.getElem?_map, List.getElem?_eq_getElem (show j < m.last.length by omega)]
        simp [at8, List.getD_eq_getElem?_getD, List.getElem?_eq_getElem (show j < m.last.length by omega)]
      have h10 : ((pad64 (head10 m.num K)).drop 0).take 10 = head10 m.num K := by
        have := pad64_take (head10 m.num K)
        rw [head10_length] at this
        rw [List.drop_zero]; exact this
      obtain ⟨hd, Hhd⟩ : ∃ hd, Hid (hd = head10 m.num K) := ⟨_, rfl⟩
      have hhdl : hd.length = 10 := by rw [Hhd.out]; exact head10_length _ _
      have hbel8 : Below w.heap.size w w8 := by rw [Hx.out]; exact hst'.bel
      rw [← Hhd.out] at hS8 h10
      have HS8 := Lib.hid hS8; have Hlast := Lib.hid hlast; have H10 := Lib.hid h10; have HT0 := Lib.hid hT0
      obtain ⟨pv, Hpv⟩ : ∃ pv : List Value, Hid (pv = (pad64 hd).map cu8) := ⟨_, rfl⟩
      have hp64 : (pad64 hd).length = 64 := pad64_len (by omega)
      have hpvl : pv.length = 64 := by rw [Hpv.out, List.length_map, hp64]
      have hpvi : Hid ((Tryd.prog.info? 63).map (·.size) = some pv.toArray.size) := by rw [List.size_toArray, hpvl]; exact info64
      have hpvq : Hid (pv.toArray = ((pad64 hd).map cu8).toArray) := by show pv.toArray = _; rw [Hpv.out]
      have Hpvl := Lib.hid hpvl; have Hp64 := Lib.hid hp64
      clear hS8 hlast h10 hT0 hst' hB c9 f9 hu hpvl hp64
      go_upto_region 10 with (first
        | (refine wpList_joinT rfl _ _ rfl rfl HT0.out _ _ 32 32 m.last rfl (Hlast.out w8 HT0.out.bel) 32 rfl (by omega) ?_; intro v9 w9 HT9 hg9))
      go_upto_region 11 with (first
        | (refine wpList_joinT rfl _ _ rfl rfl HT9.out _ _ 10 64 hd rfl (H10.out ▸ (HS8.out w9 HT9.out.bel).pg.bytes 0 10 (by omega)) 42 rfl (by omega) ?_; intro v10 w10 HT10 hg10))
      have hpx := (HS8.out w10 HT10.out.bel).pg.2
      rw [← Hpv.out] at hpx
      go_upto_region 13 with (first
        | (refine wpList_load_row rfl 63 _ rfl (x + 2) rfl 63 pv.toArray (0, 0) _ hpx Tryd.underlying63 rfl hpvi.out ?_)
        | (refine wpList_row1 80 63 _ rfl rfl pv 64 zeroPage 64 Tryd.underlying80 infoPgZ (by omega) (by omega) (by simp [zeroPage]) Hpvl.out rfl ?_)
        | (refine wpList_addPage rfl _ _ rfl rfl HT10.out (pad64 hd) Hp64.out pv.toArray hpvq.out rfl rfl (by simp) ?_; intro g11 cp11 w11 HT11 hb11))
      obtain ⟨p0, Hp0⟩ : ∃ p0, Hid (p0 = pad64 hd) := ⟨_, rfl⟩
      obtain ⟨tx, Htx⟩ : ∃ tx, Hid (tx = m.last ++ hd) := ⟨_, rfl⟩
      have hT1 : TwoR B w8 v10 42 tx (.slice (some ⟨g11, 0, none⟩) (0 + 1) cp11) (p0 :: (List.range 0).map (numsPage l)) w11 := by
        have := HT11.out
        rw [← Hp0.out] at this
        rw [Htx.out]
        exact this
      have HT1 := Lib.hid hT1
      obtain ⟨J, hJ⟩ : ∃ J, (K + 15) / 16 = J := ⟨_, rfl⟩
      have hrow : ∀ (W : World), Below B w8 W → ∀ j c, l[j]? = some c → W.rangeAt bC (j * 65) (chgC c) := fun W hW j c hj => range_keep (hrC j c hj) ((hW.block bC (by omega)).trans (hbel8.block bC (by have := Hx.out; omega)))
      have Hrow := Lib.hid hrow
      have Hbel8 := Lib.hid hbel8
      clear hT1 HT11 HT10 HT9 HT0 hg9 hg10 hb11 hpx Hlast H10 hpvi hpvq Hpvl Hp64 Hpv hrow hrC hbel8
      go_loopg [6, 10] J (fun gg ov i wr => ∃ (j g cp : Nat), j ≤ J ∧ gg = J - j ∧ i = .int .i64 ((16 * j : Nat) : Int) ∧ ov = .slice (some ⟨g, 0, none⟩) (j + 1) cp ∧ TwoR B w8 v10 42 tx ov (p0 :: (List.range j).map (numsPage l)) wr)
      case atStart => exact ⟨0, g11, cp11, by omega, by omega, rfl, rfl, HT1.out⟩
      case round =>
        clear HT1
        obtain ⟨j, g, cp, hj, rfl, rfl, rfl, hT⟩ := hrel
        rename World => wl
        obtain ⟨I, hI⟩ : ∃ I, 16 * j = I := ⟨_, rfl⟩
        rw [hI]
        by_cases hlt : j < J
        · have hlt' : (I : Int) < (K : Int) := by omega
          have hbelw : Below B w8 wl := hT.bel
          have hq0 : PgAt wl.heap.size (pad64 []) (wl.alloc (.cells zeros64 63)) := ⟨rfl, by
            have e : zeros64 = ((pad64 []).map cu8).toArray := by kernel_rfl
            rw [e]; exact heap_alloc_new wl _⟩
          have hbq : Below wl.heap.size wl (wl.alloc (.cells zeros64 63)) := (Below.refl _ _).alloc (Nat.le_refl _) _
          go_upto_region 17 with (first
            | (refine wpList_alloc_arr rfl 63 rfl _ alloc64 ?_))
          generalize wl.alloc (.cells zeros64 63) = wq at hq0 hbq ⊢
          obtain ⟨y, hy⟩ : ∃ y, wl.heap.size = y := ⟨_, rfl⟩
          rw [hy] at hq0 hbq ⊢
          have Hy := Lib.hid hy; have Hq0 := Lib.hid hq0; have HT := Lib.hid hT
          have hBy : B ≤ y := by rw [← hy]; exact hT.le
          clear hy hq0 hT
          go_loopg [12, 13] 16 (fun gg i xv wr => ∃ c : Nat, c ≤ 16 ∧ I + c ≤ K ∧ gg = 16 - c ∧ i = .int .i64 c ∧ PgAt y (pad64 (((l.drop I).take c).flatMap fun a => le4 a.at_)) wr ∧ Below y wl wr)
          case atStart => exact ⟨0, by omega, by omega, rfl, rfl, Hq0.out, hbq⟩
          case round =>
            clear Hq0 hbq
            obtain ⟨c, hc, hcK, rfl, rfl, hP0, hby0⟩ := hrel
            by_cases hin : c < 16 ∧ I + c < K
            case pos =>
              obtain ⟨h16, hIK⟩ := hin
              have h16' : (c : Int) < 16 := by omega
              obtain ⟨s, hs⟩ : ∃ s, I + c = s := ⟨_, rfl⟩
              have w1 : IntKind.i64.wrap ((I : Int) + (c : Int)) = (s : Int) := by rw [IntWalk.i64_in _ (by omega)]; omega
              have w1b : IntKind.i64.wrap (s : Int) = (s : Int) := IntWalk.i64_in _ (by omega)
              have hsK : (s : Int) < (K : Int) := by omega
              obtain ⟨ch, hch⟩ : ∃ ch, l[s]? = some ch := ⟨_, List.getElem?_eq_getElem (by rw [HK.out]; omega)⟩
              have hrg := Hrow.out wr (by exact (hbelw.trans (hby0.mono hBy))) s ch hch
              obtain ⟨X, hX⟩ : ∃ X, ch.at_ = X := ⟨_, rfl⟩
              have hX32 : X < 4294967296 := by rw [← hX]; exact Hl.out.at_ ch (List.mem_of_getElem? hch)
              have cX : wr.cell? ⟨bC, s * 65, none⟩ = some (.int .i64 X) := by
                have := hrg 0 (.int .i64 X) (by rw [← hX]; rfl)
                simpa using this
              have w2 : IntKind.u32.wrap (X : Int) = (X : Int) := by rw [IntKind.wrap_u32]; omega
              have hv0 : IntKind.u8.wrap (X : Int) = bz (UInt8.ofNat X) := by have := byteU X 0; simpa using this
              have hv1 : IntKind.u8.wrap ((X : Int) / 256) = bz (UInt8.ofNat (X / 256)) := by have := byteU X 8; simpa using this
              have hv2 : IntKind.u8.wrap ((X : Int) / 65536) = bz (UInt8.ofNat (X / 65536)) := by have := byteU X 16; simpa using this
              have hv3 : IntKind.u8.wrap ((X : Int) / 16777216) = bz (UInt8.ofNat (X / 16777216)) := by have := byteU X 24; simpa using this
              have n0 : (4 * (c : Int)).toNat = 4 * c := by omega
              have n1 : (4 * (c : Int) + 1).toNat = 4 * c + 1 := by omega
              have n2 : (4 * (c : Int) + 2).toNat = 4 * c + 2 := by omega
              have n3 : (4 * (c : Int) + 3).toNat = 4 * c + 3 := by omega
              have hflm : ((l.drop I).take (c + 1)).flatMap (fun a => le4 a.at_) = ((l.drop I).take c).flatMap (fun a => le4 a.at_) ++ [UInt8.ofNat X, UInt8.ofNat (X / 256), UInt8.ofNat (X / 65536), UInt8.ofNat (X / 16777216)] := by
                rw [List.take_add_one, List.getElem?_drop, hs, hch, List.flatMap_append, ← hX]
                simp [le4]
              obtain ⟨bs0, hbs0⟩ : ∃ b, ((l.drop I).take c).flatMap (fun a => le4 a.at_) = b := ⟨_, rfl⟩
              have hl0 : bs0.length = 4 * c := by
                rw [← hbs0, flatMap_le4_length, List.length_take, List.length_drop, HK.out]; omega
              rw [hbs0] at hP0 hflm
              have Hflm := Lib.hid hflm
              clear hflm hrg hch hX hs hbs0
              go_upto_region 20 with (fail)
              clear w1 w1b hsK cX
              have c0 := hP0.cell (j := 4 * c) (by omega)
              have f0 := hP0.thawed (4 * c)
              have hs0 := hP0.set (4 * c) (UInt8.ofNat (X))
              have hg0 := PgAt.turned (y := y) (w := wr) (4 * c) (cu8 (UInt8.ofNat (X)))
              have hs0' : PgAt y (pad64 (bs0 ++ [UInt8.ofNat (X)])) (wr.setCell ⟨y, 4 * c, none⟩ (.int .u8 (bz (UInt8.ofNat (X))))) := by
                have e := pad64_set (A := bs0) (by omega) (UInt8.ofNat (X))
                rw [hl0] at e
                rw [← e]; exact hs0
              have hg0' : wr.grownBy (wr.setCell ⟨y, 4 * c, none⟩ (.int .u8 (bz (UInt8.ofNat (X))))) (some y) := hg0
              clear hs0 hg0
              go_upto_region 21 with (fail)
              generalize wr.setCell ⟨y, 4 * c, none⟩ (.int .u8 (bz (UInt8.ofNat (X)))) = wz1 at hs0' hg0' ⊢
              have hby1 : Below y wl wz1 := below_of_grown hby0 hg0' (Nat.le_trans (Nat.le_of_eq Hy.out.symm) hby0.size) (Nat.le_refl _)
              obtain ⟨bs1, hbs1⟩ : ∃ b, bs0 ++ [UInt8.ofNat (X)] = b := ⟨_, rfl⟩
              have hl1 : bs1.length = 4 * c + 1 := by rw [← hbs1, List.length_append, hl0]; rfl
              rw [hbs1] at hs0'
              have hP1 := hs0'
              have Hbs1 := Lib.hid hbs1
              clear c0 f0 hg0' hs0' hP0 hbs1 hby0
              have c1 := hP1.cell (j := 4 * c + 1) (by omega)
              have f1 := hP1.thawed (4 * c + 1)
              have hs1 := hP1.set (4 * c + 1) (UInt8.ofNat (X / 256))
              have hg1 := PgAt.turned (y := y) (w := wz1) (4 * c + 1) (cu8 (UInt8.ofNat (X / 256)))
              have hs1' : PgAt y (pad64 (bs1 ++ [UInt8.ofNat (X / 256)])) (wz1.setCell ⟨y, 4 * c + 1, none⟩ (.int .u8 (bz (UInt8.ofNat (X / 256))))) := by
                have e := pad64_set (A := bs1) (by omega) (UInt8.ofNat (X / 256))
                rw [hl1] at e
                rw [← e]; exact hs1
              have hg1' : wz1.grownBy (wz1.setCell ⟨y, 4 * c + 1, none⟩ (.int .u8 (bz (UInt8.ofNat (X / 256))))) (some y) := hg1
              clear hs1 hg1
              go_upto_region 22 with (fail)
              generalize wz1.setCell ⟨y, 4 * c + 1, none⟩ (.int .u8 (bz (UInt8.ofNat (X / 256)))) = wz2 at hs1' hg1' ⊢
              have hby2 : Below y wl wz2 := below_of_grown hby1 hg1' (Nat.le_trans (Nat.le_of_eq Hy.out.symm) hby1.size) (Nat.le_refl _)
              obtain ⟨bs2, hbs2⟩ : ∃ b, bs1 ++ [UInt8.ofNat (X / 256)] = b := ⟨_, rfl⟩
              have hl2 : bs2.length = 4 * c + 2 := by rw [← hbs2, List.length_append, hl1]; rfl
              rw [hbs2] at hs1'
              have hP2 := hs1'
              have Hbs2 := Lib.hid hbs2
              clear c1 f1 hg1' hs1' hP1 hbs2 hby1
              have c2 := hP2.cell (j := 4 * c + 2) (by omega)
              have f2 := hP2.thawed (4 * c + 2)
              have hs2 := hP2.set (4 * c + 2) (UInt8.ofNat (X / 65536))
              have hg2 := PgAt.turned (y := y) (w := wz2) (4 * c + 2) (cu8 (UInt8.ofNat (X / 65536)))
              have hs2' : PgAt y (pad64 (bs2 ++ [UInt8.ofNat (X / 65536)])) (wz2.setCell ⟨y, 4 * c + 2, none⟩ (.int .u8 (bz (UInt8.ofNat (X / 65536))))) := by
                have e := pad64_set (A := bs2) (by omega) (UInt8.ofNat (X / 65536))
                rw [hl2] at e
                rw [← e]; exact hs2
              have hg2' : wz2.grownBy (wz2.setCell ⟨y, 4 * c + 2, none⟩ (.int .u8 (bz (UInt8.ofNat (X / 65536))))) (some y) := hg2
              clear hs2 hg2
              go_upto_region 23 with (fail)
              generalize wz2.setCell ⟨y, 4 * c + 2, none⟩ (.int .u8 (bz (UInt8.ofNat (X / 65536)))) = wz3 at hs2' hg2' ⊢
              have hby3 : Below y wl wz3 := below_of_grown hby2 hg2' (Nat.le_trans (Nat.le_of_eq Hy.out.symm) hby2.size) (Nat.le_refl _)
              obtain ⟨bs3, hbs3⟩ : ∃ b, bs2 ++ [UInt8.ofNat (X / 65536)] = b := ⟨_, rfl⟩
              have hl3 : bs3.length = 4 * c + 3 := by rw [← hbs3, List.length_append, hl2]; rfl
              rw [hbs3] at hs2'
              have hP3 := hs2'
              have Hbs3 := Lib.hid hbs3
              clear c2 f2 hg2' hs2' hP2 hbs3 hby2
              have c3 := hP3.cell (j := 4 * c + 3) (by omega)
              have f3 := hP3.thawed (4 * c + 3)
              have hs3 := hP3.set (4 * c + 3) (UInt8.ofNat (X / 16777216))
              have hg3 := PgAt.turned (y := y) (w := wz3) (4 * c + 3) (cu8 (UInt8.ofNat (X / 16777216)))
              have hs3' : PgAt y (pad64 (bs3 ++ [UInt8.ofNat (X / 16777216)])) (wz3.setCell ⟨y, 4 * c + 3, none⟩ (.int .u8 (bz (UInt8.ofNat (X / 16777216))))) := by
                have e := pad64_set (A := bs3) (by omega) (UInt8.ofNat (X / 16777216))
                rw [hl3] at e
                rw [← e]; exact hs3
              have hg3' : wz3.grownBy (wz3.setCell ⟨y, 4 * c + 3, none⟩ (.int .u8 (bz (UInt8.ofNat (X / 16777216))))) (some y) := hg3
              clear hs3 hg3
              go_upto_region 18 with (fail)
              generalize wz3.setCell ⟨y, 4 * c + 3, none⟩ (.int .u8 (bz (UInt8.ofNat (X / 16777216)))) = wz4 at hs3' hg3' ⊢
              have hby4 : Below y wl wz4 := below_of_grown hby3 hg3' (Nat.le_trans (Nat.le_of_eq Hy.out.symm) hby3.size) (Nat.le_refl _)
              obtain ⟨bs4, hbs4⟩ : ∃ b, bs3 ++ [UInt8.ofNat (X / 16777216)] = b := ⟨_, rfl⟩
              have hl4 : bs4.length = 4 * c + 4 := by rw [← hbs4, List.length_append, hl3]; rfl
              rw [hbs4] at hs3'
              have hP4 := hs3'
              have Hbs4 := Lib.hid hbs4
              clear c3 f3 hg3' hs3' hP3 hbs4 hby3
              have hcat : bs4 = ((l.drop I).take (c + 1)).flatMap (fun a => le4 a.at_) := by
                rw [Hflm.out, ← Hbs4.out, ← Hbs3.out, ← Hbs2.out, ← Hbs1.out]
                simp
              rw [hcat] at hP4
              clear hcat Hbs1 Hbs2 Hbs3 Hbs4 hl1 hl2 hl3 hl4 hv0 hv1 hv2 hv3 n0 n1 n2 n3 w2
              go_wp2
              go_roundg (16 - (c + 1))
              case measure => omega
              case rel => exact ⟨c + 1, by omega, by omega, rfl, by go_num, hP4, hby4⟩
            case' neg =>
              have htk : (l.drop I).take c = (l.drop I).take 16 := by
                by_cases h16 : c = 16
                · rw [h16]
                · have hlen : (l.drop I).length = K - I := by rw [List.length_drop, HK.out]
                  rw [List.take_of_length_le (by omega), List.take_of_length_le (by omega)]
              have hnp : pad64 (((l.drop I).take c).flatMap fun a => le4 a.at_) = numsPage l j := by
                unfold numsPage
                rw [htk, hI]
              rw [hnp] at hP0
              by_cases h16 : c < 16
              case' pos =>
                have h16' : (c : Int) < 16 := by omega
                obtain ⟨s, hs⟩ : ∃ s, I + c = s := ⟨_, rfl⟩
                have w1 : IntKind.i64.wrap ((I : Int) + (c : Int)) = (s : Int) := by rw [IntWalk.i64_in _ (by omega)]; omega
                have hsK : ¬ (s : Int) < (K : Int) := by omega
                go_upto_region 24 with (fail)
                clear h16' hsK w1 hs
              case' neg =>
                have h16' : ¬ (c : Int) < 16 := by omega
                go_upto_region 24 with (fail)
                clear h16'
              all_goals
                have hT2 := HT.out.keep (by rw [Hy.out]; exact hby0)
                obtain ⟨np, Hnp⟩ : ∃ np, Hid (np = numsPage l j) := ⟨_, rfl⟩
                rw [← Hnp.out] at hP0
                obtain ⟨qv, Hqv⟩ : ∃ qv : List Value, Hid (qv = np.map cu8) := ⟨_, rfl⟩
                have hqvl : qv.length = 64 := by rw [Hqv.out, List.length_map]; exact hP0.1
                have hqi : Hid ((Tryd.prog.info? 63).map (·.size) = some qv.toArray.size) := by rw [List.size_toArray, hqvl]; exact info64
                have hqx := hP0.2
                rw [← Hqv.out] at hqx
                have hqq : Hid (qv.toArray = (np.map cu8).toArray) := by show qv.toArray = _; rw [Hqv.out]
                obtain ⟨pgs, hpgs⟩ : ∃ pgs, p0 :: (List.range j).map (numsPage l) = pgs := ⟨_, rfl⟩
                have hpl : pgs.length = j + 1 := by rw [← hpgs]; simp
                rw [hpgs, ← hpl] at hT2
                rw [← hpl]
                have HT2 := Lib.hid hT2; have Hqvl := Lib.hid hqvl; have HP0 := Lib.hid hP0; have Hpgs := Lib.hid hpgs; have Hpl := Lib.hid hpl
                clear hT2 hqvl hP0 hby0 hnp htk hpgs hpl HT
                have wI : IntKind.i64.wrap ((I : Int) + 16) = ((I + 16 : Nat) : Int) := by rw [IntWalk.i64_in _ (by omega)]; omega
                go_upto_region 14 with (first
                  | (refine wpList_load_row rfl 63 _ rfl y rfl 63 qv.toArray (0, 0) _ hqx Tryd.underlying63 rfl hqi.out ?_)
                  | (refine wpList_row1 80 63 _ rfl rfl qv 64 zeroPage 64 Tryd.underlying80 infoPgZ (by omega) (by omega) (by simp [zeroPage]) Hqvl.out rfl ?_)
                  | (refine wpList_addPage rfl _ _ rfl rfl HT2.out np HP0.out.1 qv.toArray hqq.out rfl rfl (by have := Hpl.out; omega) ?_; intro g12 cp12 w12 HT12 hb12))
                go_wp2
                go_roundg (J - (j + 1))
                case measure => omega
                case rel =>
                  refine ⟨j + 1, g12, cp12, by omega, rfl, ?_, by rw [Hpl.out], ?_⟩
                  · have e : 16 * (j + 1) = I + 16 := by omega
                    rw [e]; go_num
                  · have e : p0 :: (List.range (j + 1)).map (numsPage l) = pgs ++ [np] := by rw [List.range_succ, List.map_append, ← Hpgs.out, Hnp.out]; rfl
                    rw [e]; exact HT12.out
        · obtain rfl : j = J := by omega
          have hlt' : ¬ (I : Int) < (K : Int) := by omega
          have HT := Lib.hid hT
          clear hT
          go_upto_region 26 with (fail)
          clear hlt' hlt
          go_loopg [6, 14] K (fun gg ov i wr => ∃ (c g cp : Nat), c ≤ K ∧ gg = K - c ∧ i = .int .i64 c ∧ ov = .slice (some ⟨g, 0, none⟩) (j + 1 + c) cp ∧ TwoR B w8 v10 42 tx ov (p0 :: ((List.range j).map (numsPage l) ++ (l.take c).map (·.what))) wr)
          case atStart => exact ⟨0, g, cp, by omega, by omega, rfl, rfl, by rw [List.take_zero, List.map_nil, List.append_nil]; exact HT.out⟩
          case round =>
            clear HT
            obtain ⟨c, g, cp, hc, rfl, rfl, rfl, hT⟩ := hrel
            by_cases hlt : c < K
            · have hlt' : (c : Int) < (K : Int) := by omega
              obtain ⟨ch, hch⟩ : ∃ ch, l[c]? = some ch := ⟨_, List.getElem?_eq_getElem (by rw [HK.out]; omega)⟩
              have hrg := Hrow.out wr hT.bel c ch hch
              have hw64 : ch.what.length = 64 := Hl.out.what ch (List.mem_of_getElem? hch)
              obtain ⟨qv, Hqv⟩ : ∃ qv : List Value, Hid (qv = ch.what.map cu8) := ⟨_, rfl⟩
              have hrg2 : wr.rangeAt bC (c * 65 + 1) qv := fun jj v hv => by
                rw [Hqv.out] at hv
                have := hrg (jj + 1) v (by simpa [chgC] using hv)
                rw [show c * 65 + 1 + jj = c * 65 + (jj + 1) from by omega]; exact this
              have hqvl : qv.length = 64 := by rw [Hqv.out, List.length_map]; exact hw64
              have hqi : Hid ((Tryd.prog.info? 63).map (·.size) = some qv.length) := by rw [hqvl]; exact info64
              have hqq : Hid (qv.toArray = (ch.what.map cu8).toArray) := by show qv.toArray = _; rw [Hqv.out]
              obtain ⟨pgs, hpgs⟩ : ∃ pgs, p0 :: ((List.range j).map (numsPage l) ++ (l.take c).map (·.what)) = pgs := ⟨_, rfl⟩
              have hpl : pgs.length = j + 1 + c := by rw [← hpgs]; simp [HK.out]; omega
              rw [hpgs, ← hpl] at hT
              rw [← hpl]
              have HT2 := Lib.hid hT; have Hqvl := Lib.hid hqvl; have Hw64 := Lib.hid hw64; have Hpgs := Lib.hid hpgs; have Hpl := Lib.hid hpl; have Hch := Lib.hid hch; have Hrg := Lib.hid hrg2
              clear hT hqvl hw64 hpgs hpl hch hrg hrg2
              go_upto_region 27 with (first
                | (refine wpList_load_mid rfl 63 _ rfl bC (c * 65 + 1) rfl qv _ Hrg.out Tryd.underlying63 rfl hqi.out ?_)
                | (refine wpList_row1 80 63 _ rfl rfl qv 64 zeroPage 64 Tryd.underlying80 infoPgZ (by omega) (by omega) (by simp [zeroPage]) Hqvl.out rfl ?_)
                | (refine wpList_addPage rfl _ _ rfl rfl HT2.out ch.what Hw64.out qv.toArray hqq.out rfl rfl (by have := Hpl.out; omega) ?_; intro g12 cp12 w12 HT12 hb12))
              go_wp2
              go_roundg (K - (c + 1))
              case measure => omega
              case rel =>
                refine ⟨c + 1, g12, cp12, by omega, rfl, by go_num, by rw [Hpl.out, Nat.add_assoc], ?_⟩
                have e : p0 :: ((List.range j).map (numsPage l) ++ (l.take (c + 1)).map (·.what)) = pgs ++ [ch.what] := by rw [List.take_add_one, Hch.out, ← Hpgs.out]; simp
                rw [e]; exact HT12.out
            · obtain rfl : c = K := by omega
              have hlt' : ¬ (c : Int) < (c : Int) := by omega
              have htk : l.take c = l := List.take_of_length_le (by rw [HK.out]; exact Nat.le_refl _)
              have hbody : (List.range j).map (numsPage l) ++ (l.take c).map (·.what) = body l := by
                unfold body
                rw [htk, HK.out, hJ]
              rw [hbody] at hT
              obtain ⟨T, hT65⟩ : ∃ T, j + 1 + c = T := ⟨_, rfl⟩
              have hTk : takes l.length = T := by rw [HK.out]; unfold takes; omega
              have hbl : (body l).length + 1 = T := by rw [body_length, hTk]; omega
              rw [hT65] at hT ⊢
              obtain ⟨bd, Hbd⟩ : ∃ bd, Hid (bd = body l) := ⟨_, rfl⟩
              rw [← Hbd.out] at hT hbl
              have hb64 : ∀ p ∈ p0 :: bd, p.length = 64 := fun p hp => by
                rcases List.mem_cons.1 hp with rfl | hp
                · rw [Hp0.out]; exact pad64_len (by omega)
                · rw [Hbd.out] at hp; exact body_pages Hl.out p hp
              have HT := Lib.hid hT; have Hb64 := Lib.hid hb64; have Hbl := Lib.hid hbl; have HTk := Lib.hid hTk
              have hT3 : 3 ≤ T := by omega
              have hT65' : T ≤ 65 := by omega
              clear hT htk hbody hb64 hbl hTk hT65 Hrow hlt
              go_upto_region 30 with (fail)
              clear hlt'
              go_loopg [9, 15] (T - 1) (fun gg av i wr => ∃ (q : Nat), q + 1 ≤ T ∧ gg = T - (q + 1) ∧ i = .int .i64 ((q + 1 : Nat) : Int) ∧ TwoR B w8 av (42 + 64 * q) (tx ++ (bd.take q).flatten) (.slice (some ⟨g, 0, none⟩) T cp) (p0 :: bd) wr)
              case atStart => exact ⟨0, by omega, rfl, rfl, by rw [List.take_zero, List.flatten_nil, List.append_nil]; exact HT.out⟩
              case round =>
                clear HT
                obtain ⟨q, hq, rfl, rfl, hT⟩ := hrel
                obtain ⟨q1, hq1⟩ : ∃ q1, q + 1 = q1 := ⟨_, rfl⟩
                rw [hq1]
                by_cases hlt : q1 < T
                · have hlt' : (q1 : Int) < (T : Int) := by omega
                  obtain ⟨pg, hpg⟩ : ∃ pg, bd[q]? = some pg := ⟨_, List.getElem?_eq_getElem (by have := Hbl.out; omega)⟩
                  have hB := hT.pageBytes (by rw [List.length_cons]; exact Hbl.out) Hb64.out (i := q1) (p := pg) (by rw [← hq1, List.getElem?_cons_succ]; exact hpg)
                  have HT := Lib.hid hT; have HBB := Lib.hid hB; have Hpg := Lib.hid hpg
                  clear hT hB hpg
                  go_upto_region 31 with (first
                    | (refine wpList_joinT rfl _ _ rfl rfl HT.out _ _ 64 64 pg rfl HBB.out (42 + 64 * q1) (by omega) (by omega) ?_; intro v12 w12 HT12 hg12))
                  go_wp2
                  go_roundg (T - (q1 + 1))
                  case measure => omega
                  case rel =>
                    refine ⟨q1, by omega, rfl, by go_num, ?_⟩
                    have e : tx ++ (bd.take q1).flatten = tx ++ (bd.take q).flatten ++ pg := by rw [← hq1, List.take_add_one, Hpg.out, List.flatten_append, List.append_assoc]; simp
                    rw [e]; exact HT12.out
                · obtain rfl : T = q1 := by omega
                  have hlt' : ¬ (T : Int) < (T : Int) := by omega
                  have htk : bd.take q = bd := List.take_of_length_le (by have := Hbl.out; omega)
                  have htext : tx ++ (bd.take q).flatten = textOf m l := by
                    rw [htk, Htx.out, Hbd.out, Hhd.out]
                    unfold textOf
                    rw [HK.out, List.append_assoc]
                  rw [htext] at hT
                  obtain ⟨txt, Htxt⟩ : ∃ txt, Hid (txt = textOf m l) := ⟨_, rfl⟩
                  rw [← Htxt.out] at hT
                  obtain ⟨abp, acp, rfl, hB⟩ := hT.bytes
                  obtain ⟨LT, hLT⟩ : ∃ LT, 42 + 64 * q = LT := ⟨_, rfl⟩
                  rw [hLT] at hB hT ⊢
                  have hsum := rsum_any abp LT acp txt wr hB (by omega)
                  obtain ⟨dv, Hdv⟩ : ∃ dv : Array Value, Hid (dv = ((dig txt).map cu8).toArray) := ⟨_, rfl⟩
                  rw [← Hdv.out] at hsum
                  have hdi : Hid ((Tryd.prog.info? 23).map (·.size) = some dv.size) := by rw [Hdv.out]; exact (by kernel_rfl : (Tryd.prog.info? 23).map (·.size) = some 32)
                  have hdz : Hid (z32.toArray.size = dv.size) := by rw [Hdv.out]; exact (rfl : z32.toArray.size = 32)
                  have hd1 : Hid (dv.all (·.oneCell') = true) := by rw [Hdv.out]; exact bytes_one _
                  have HT := Lib.hid hT; have Hsum := Lib.hid hsum
                  clear hT hB hsum htext htk hlt hLT
                  go_wp2_with (go_at_call 54; refine Hsum.out.mono ?_)
                  rintro e w13 ⟨rv, hrv, rfl, hb13⟩
                  obtain rfl := hrv.out
                  have hT13 := HT.out.keep hb13
                  clear hrv hb13 HT Hsum hlt'
                  go_upto_region 34 with (first
                    | (refine wpList_alloc_arr rfl 23 rfl _ alloc32 ?_)
                    | (refine wpList_store_new rfl 23 _ _ rfl w13.heap.size rfl rv rfl rfl 23 _ hdi.out hdz.out hd1.out ?_))
                  have hb14 : Below w13.heap.size w13 (w13.alloc (.cells rv 23)) := (Below.refl _ _).alloc (Nat.le_refl _) _
                  have hy14 : (w13.alloc (.cells rv 23)).heap[w13.heap.size]? = some (.cells rv 23 (0, 0)) := heap_alloc_new w13 _
                  have hT14 := hT13.keep hb14
                  generalize w13.alloc (.cells rv 23) = w14 at hb14 hy14 hT14 ⊢
                  obtain ⟨u, hu⟩ : ∃ u, w13.heap.size = u := ⟨_, rfl⟩
                  have hgu : g < u := by rw [← hu]; exact (hT13.out.lt g rfl).2
                  rw [hu] at hy14 ⊢
                  clear hu hb14 hT13 hdz hd1
                  obtain ⟨cur, hcur, hcap, hctk⟩ : ∃ cur : List Value, w14.heap[g]? = some (.cells cur.toArray 63 (0, 0)) ∧ T * 64 ≤ cur.length ∧ cur.take (T * 64) = (p0 :: bd).flatten.map cu8 := by
                    have ho := hT14.out
                    rw [List.length_cons, Hbl.out] at ho
                    rcases ho.2 with ⟨h0, _⟩ | ⟨g', cap', cur', hv, _, hg', hc', _, hs', ht'⟩
                    · cases h0
                    · simp only [Value.slice.injEq, Option.some.injEq, Addr.mk.injEq, and_true] at hv
                      obtain ⟨rfl, _, rfl⟩ := hv
                      refine ⟨cur'.toList, by rw [Array.toArray_toList]; exact hg', ?_, ht'⟩
                      rw [Array.length_toList, hs']
                      exact Nat.mul_le_mul_right 64 hc'
                  have hT0 : ¬ T = 0 := by omega
                  have hT1 : 1 ≤ T := by omega
                  refine wp_region_up 4 (fun w' => Below w14.heap.size w14 w') (by kernel_rfl) ?_
                  have hb9 : Below w14.heap.size w14 { w14 with drawn := w14.drawn + 1 } := ⟨rfl, rfl, rfl, Nat.le_refl _, fun _ _ => rfl⟩
                  obtain ⟨wd, hdr⟩ : ∃ wd : World, ({ w14 with drawn := w14.drawn + 1 } : World) = wd := ⟨_, rfl⟩
                  rw [hdr] at hb9 ⊢
                  have hTd := hT14.keep hb9
                  have hyd := (hb9.block u (Array.getElem?_eq_some_iff.1 hy14).1).trans hy14
                  have hcurd := (hb9.block g (Array.getElem?_eq_some_iff.1 hcur).1).trans hcur
                  have hsl10 := fun W => run_sliceArr (P := Tryd.prog) 63 5 64 Tryd.underlying63 (by kernel_rfl) g 0 10 42 (by omega) (by omega) (by omega) W
                  have hdl := dig_len txt
                  rw [Hdv.out] at hyd
                  clear hdr hT14 hy14 hcur
                  refine up_take (i := 0) (v := .slice (some ⟨g, 0, none⟩) T cp) rfl (by kernel_rfl) (by kernel_rfl) (fun _ _ _ h => h) (Or.inl ⟨by rfl, ?_⟩) hb9 ?_
                  · intro w' _; go_simp
                  try simp only [List.getElem_toArray, List.getElem_cons_succ, List.getElem_cons_zero, Act.put, List.setIfInBounds_toArray, List.set]
                  refine up_take (i := 1) (v := .pointer (some ⟨g, 0, none⟩)) rfl (by kernel_rfl) (by kernel_rfl) (fun _ _ _ h => h) (Or.inl ⟨by rfl, ?_⟩) hb9 ?_
                  · intro w' _; go_simp
                  try simp only [List.getElem_toArray, List.getElem_cons_succ, List.getElem_cons_zero, Act.put, List.setIfInBounds_toArray, List.set]
                  refine up_take (i := 2) (v := .slice (some ⟨g, 10, none⟩) 32 54) rfl (by kernel_rfl) (by kernel_rfl) (fun _ _ _ h => h) (Or.inl ⟨by rfl, ?_⟩) hb9 ?_
                  · intro w' _; go_simp
                  try simp only [List.getElem_toArray, List.getElem_cons_succ, List.getElem_cons_zero, Act.put, List.setIfInBounds_toArray, List.set]
                  refine up_take (i := 3) (v := .slice (some ⟨u, 0, none⟩) 32 32) rfl (by kernel_rfl) (by kernel_rfl) (fun _ _ _ h => h) (Or.inl ⟨by rfl, ?_⟩) hb9 ?_
                  · intro w' _; go_simp
                  try simp only [List.getElem_toArray, List.getElem_cons_succ, List.getElem_cons_zero, Act.put, List.setIfInBounds_toArray, List.set]
                  refine up_tail ?_
                  refine up_last 4 _ rfl (by kernel_rfl) (by decide) (by rfl) (fun K hK => ?_)
                  refine wp_copy_into rfl _ _ 122 122 rfl 5 Tryd.underlying122 (by kernel_rfl) g 10 32 54 ⟨u, 0, none⟩ 32 32 rfl rfl cur 63 hcurd ((dig txt).map cu8) (by rw [List.length_map, hdl]; rfl) (byte_range hyd) (by rw [List.length_map, hdl]; omega) (fun v hv => by obtain ⟨q, _, rfl⟩ := List.mem_map.1 hv; rfl) ?_
                  intro w5 Hs5 Hg5
                  refine hK _ _ ?_
                  clear hK K
                  try simp only [List.getElem_toArray, List.getElem_cons_succ, List.getElem_cons_zero, Act.put, List.setIfInBounds_toArray, List.set]
                  refine up_done (by kernel_rfl) ?_ _
                  have hgB : B ≤ g := (hTd.out.lt g rfl).1
                  have hbel5 : Below B w8 w5 := below_of_grown hTd.bel Hg5.out hTd.le hgB
                  have hbw5 : Below w.heap.size w w5 := Hbel8.out.trans (hbel5.mono (by have := Hbel8.out.size; have := HB.out; omega))
                  have hS5 := HS8.out w5 hbel5
                  have hy5 : w5.heap[u]? = some (.cells ((dig txt).map cu8).toArray 23 (0, 0)) := (Hg5.out.block u (Array.getElem?_eq_some_iff.1 hyd).1 (fun e => by have := Option.some.inj e; omega)).trans hyd
                  rw [← Hdv.out] at hy5
                  have himg : ImgAt g (sectors m l) w5 := by
                    have hsp : (splice cur 10 ((dig txt).map cu8)).take (T * 64) = (sectors m l).flatten.map cu8 := by
                      have h64 : 10 + ((dig txt).map cu8).length ≤ T * 64 := by rw [List.length_map, hdl]; omega
                      have e1 : (splice cur 10 ((dig txt).map cu8)).take (T * 64) = splice (cur.take (T * 64)) 10 ((dig txt).map cu8) := splice_take_of _ _ _ _ h64 hcap
                      rw [e1, hctk, splice_mapB]
                      congr 1
                      have := rec_digest (m := m) Hl.out.what
                      rw [recK_all, HK.out, ← Hhd.out, ← Hp0.out, ← Hbd.out, ← Htxt.out] at this
                      exact this
                    refine ⟨(Array.getElem?_eq_some_iff.1 Hs5.out).1, fun i p hi => ?_⟩
                    have hs64 : ∀ p ∈ sectors m l, p.length = 64 := fun p hp => by
                      rcases List.mem_cons.1 hp with rfl | hp
                      · simp [firstOf, head10_length, dig_len]
                      · exact body_pages Hl.out p hp
                    have hiT : i < T := by have := (List.getElem?_eq_some_iff.1 hi).1; rw [sectors_length, HTk.out] at this; exact this
                    refine ⟨hs64 p (List.mem_of_getElem? hi), fun jj v hv => ?_⟩
                    have hjj : jj < 64 := by have := (List.getElem?_eq_some_iff.1 hv).1; rw [List.length_map, hs64 p (List.mem_of_getElem? hi)] at this; exact this
                    rw [cell_of_row w5 g _ _ _ _ Hs5.out, List.getElem?_toArray]
                    have e2 : ((splice cur 10 ((dig txt).map cu8)).take (T * 64))[i * 64 + jj]? = ((sectors m l).flatten.map cu8)[i * 64 + jj]? := by rw [hsp]
                    rw [List.getElem?_take_of_lt (by omega), List.getElem?_map, flat_at hs64 hi hjj, ← List.getElem?_map] at e2
                    rw [e2]; exact hv
                  have Himg := Lib.hid himg; have HS5 := Lib.hid hS5; have Hbw5 := Lib.hid hbw5
                  clear himg hS5 hbw5 hbel5 Hs5 Hg5 hTd hyd hcurd hcap hctk hb9 hsl10 hdl
                  go_upto_region 35 with (fail)
                  refine wp_region_still_tail 3 (by kernel_rfl) (by kernel_rfl) ?_
                  have hbe : Below w5.heap.size w5 ({ w5 with drawn := w5.drawn + 1 } : World) := ⟨rfl, rfl, rfl, Nat.le_refl _, fun _ _ => rfl⟩
                  have hbel6 := Hbw5.out.trans (hbe.mono Hbw5.out.size)
                  have himg6 := Himg.out.below hbe
                  have hz6 : ({ w5 with drawn := w5.drawn + 1 } : World).heap[x + 1]? = some (.cells z32.toArray 23 (0, 0)) := HS5.out.z
                  have hy6 : ({ w5 with drawn := w5.drawn + 1 } : World).heap[u]? = some (.cells rv 23 (0, 0)) := hy5
                  obtain ⟨we, hde⟩ : ∃ we : World, ({ w5 with drawn := w5.drawn + 1 } : World) = we := ⟨_, rfl⟩
                  rw [hde] at hbel6 himg6 hz6 hy6 ⊢
                  have HL := Lib.hid (run_loadAt_mid (P := Tryd.prog) we u 0 23 rv.toList _ (fun j v hj => by rw [Nat.zero_add, cell_of_row we u j _ _ _ hy6]; simpa using hj) Tryd.underlying23 rfl (by rw [Array.length_toList]; exact hdi.out))
                  have hdz : Hid (z32.toArray.size = rv.size) := by rw [Hdv.out]; exact (rfl : z32.toArray.size = 32)
                  have hd1 : Hid (rv.all (·.oneCell') = true) := by rw [Hdv.out]; exact bytes_one _
                  have hxg : x + 1 < g := by omega
                  clear hde hbe hy5
                  simp only [List.take_succ_cons, List.take_zero, List.drop_succ_cons, List.drop_zero]
                  still_step
                  refine wpStill_val rfl (v := .agg rv) ?_ ?_
                  · unfold execOp
                    rw [Sem.run_bind]
                    exact (congrArg (fun r : Result Value => r.andThen fun v w' => (pure (Next.value v) : Sem Next).run Tryd.prog w') HL.out).trans rfl
                  still_step
                  refine wpStill_nil ?_
                  go_wp2_with (first
                    | (refine wpList_store_row rfl 23 _ _ rfl (x + 1) rv rfl rfl 23 z32.toArray hz6 hdi.out hdz.out hd1.out ?_))
                  have hres3 : (we.setRow (x + 1) rv).heap[x + 1]? = some (.cells rv 23 (0, 0)) := setRow_heap _ _ _ _ _ _ hz6
                  have hg3 : we.grownBy (we.setRow (x + 1) rv) (some (x + 1)) := ⟨rfl, rfl, rfl, by simp, fun k _ hne => setRow_other we (x + 1) k _ (fun e => hne (by rw [e]))⟩
                  have hbel7 : Below w.heap.size w (we.setRow (x + 1) rv) := below_setRow hbel6 (by have := Hx.out; omega) _
                  have himg7 : ImgAt g (sectors m l) (we.setRow (x + 1) rv) := ⟨Nat.lt_of_lt_of_le himg6.1 hg3.size, fun i p hi => ⟨(himg6.2 i p hi).1, range_keep (himg6.2 i p hi).2 (hg3.block g himg6.1 (fun e => by have := Option.some.inj e; omega))⟩⟩
                  generalize we.setRow (x + 1) rv = wf at hres3 hbel7 himg7 ⊢
                  refine bodyPost_ret (v := .tuple #[.slice (some ⟨g, 0, none⟩) T cp, .agg rv]) ?_ rfl ⟨g, cp, by rw [HTk.out, ← Htxt.out, ← Hdv.out], by have := Hx.out; omega, himg7, hbel7⟩
                  exact results_tmp_cell_row (ty := 23) rfl _ _ (x + 1) 23 _ (0, 0) _ rfl hres3 Tryd.underlying23 rfl hdi.out _ rfl
/-- Sectors, at a mark whose place is one. -/
theorem rsectors_any (m : Mk) (hm : m.last.length = 32) (hnum : m.num < 18446744073709551616) (l : List Chg) (hl : Fit l) (bp : Option Addr) (cap : Nat) (hC : Chgs w.heap.size w bp l) :
    Calls Tryd.prog 34 #[.agg (markCells m).toArray, .slice bp l.length cap] w (RSectP m l w) := rsectorsI_any m.place m hm hnum l hl bp cap hC
end
end Go.Proofs.YtegdlpllljccgaaDoor
