/-
  The reference's digest of bytes at once: the walk of the function 'Sum' of package bulkheadref01.
-/
import Derived.Test.YtegdlpllljccgaaDoorJSha
import Derived.Test.YtegdlpllljccgaaDoorShaRef
set_option linter.unusedSimpArgs false
set_option linter.unusedVariables false
namespace Go.Proofs.YtegdlpllljccgaaDoor
open Go.RowKit Sh

theorem Tryd.infoByte : (Tryd.prog.info? 5).map (fun i => (i.zero, i.size, i.bytes)) = some (some (.int .u8 0), 1, 1) := by kernel_rfl

/-- The world of 'Sum': all that is told so far. -/
structure RsW (w : World) (l : List UInt8) (n : Nat) (v : Value) (wr : World) : Prop where
  below : Below w.heap.size w wr
  own : wr.ownsRow (w.heap.size + 1) 5 1 v n (l.map cu8)
  res : ∃ c : Array Value, c.size = 32 ∧ wr.heap[w.heap.size]? = some (.cells c 23 (0, 0))

section
variable {w wr : World} {l : List UInt8} {n : Nat} {v : Value}
theorem RsW.lt (h : RsW w l n v wr) : w.heap.size < wr.heap.size := by
  obtain ⟨c, _, h3⟩ := h.res
  exact (Array.getElem?_eq_some_iff.1 h3).1
theorem RsW.far (h : RsW w l n v wr) (k : Nat) (e : v.ownBlock = some k) : w.heap.size + 1 ≤ k := (h.own.lt k e).1
theorem RsW.form (h : RsW w l n v wr) : ∃ bp cap, v = .slice bp n cap ∧ Bytes wr.heap.size wr bp n cap l := Bytes.of_own h.own
/-- One append more, behind new blocks and draws. -/
theorem RsW.push {wm w1 : World} {bs : List UInt8} {m : Nat} {v' : Value} (h : RsW w l n v wr) (hm : Below wr.heap.size wr wm)
    (hown : w1.ownsRow (w.heap.size + 1) 5 1 v' (n + m) (l.map cu8 ++ bs.map cu8)) (hgr : wm.grownBy w1 v.ownBlock) : RsW w (l ++ bs) (n + m) v' w1 := by
  have hlt := h.lt
  have hb : Below w.heap.size w wm := h.below.trans (hm.mono (by omega))
  obtain ⟨c, h1, h2⟩ := h.res
  have hf := h.far
  have hs := hm.size
  refine ⟨hb.grown hgr hb.size (fun j hj => by have := hf j hj; omega), by rw [List.map_append]; exact hown, c, h1, ?_⟩
  rw [hgr.block _ (by omega) (fun e => by have := hf _ e.symm; omega), hm.block _ hlt]
  exact h2
theorem RsW.keep {wm : World} (h : RsW w l n v wr) (hm : Below wr.heap.size wr wm) : RsW w l n v wm := by
  have hlt := h.lt
  have hg : wr.grownBy wm none := grownBy_of_below hm
  obtain ⟨c, h1, h2⟩ := h.res
  exact ⟨h.below.trans (hm.mono (by omega)), h.own.kept hg (by cases hv : v.ownBlock <;> simp), c, h1, (hm.block _ hlt).trans h2⟩
end

theorem be8_take (m k : Nat) (hk : k < 8) : (be8 m).take (k + 1) = (be8 m).take k ++ [UInt8.ofNat (m / 2 ^ (8 * (7 - k)))] := by
  have hl : k < (be8 m).length := hk
  rw [List.take_add_one, List.getElem?_eq_getElem hl]
  simp [be8]

theorem at8_blk (l : List UInt8) (j i : Nat) (hi : i < 64) : at8 (blk l j) i = at8 l (64 * j + i) := by
  simp only [at8, blk, List.getD_eq_getElem?_getD, List.getElem?_take, List.getElem?_drop]
  rw [if_pos hi]
theorem all_ending (bs : List UInt8) (len z : Nat) (hz : z = pad0 len) : (bs ++ 128 :: List.replicate z 0) ++ be8 (len * 8) = bs ++ ending len := by
  rw [hz, ending, List.append_assoc, List.cons_append]

/-- A byte of the digest. -/
theorem byte_at (T : S8) (q r : Nat) (hq : q < 8) (hr : r < 4) : IntKind.u8.wrap (uz (at32 T.list q) / 2 ^ (24 - 8 * r)) = bz (at8 (digS T) (4 * q + r)) := by
  obtain ⟨d0, d1, d2, d3⟩ := digS_at T q hq
  obtain rfl | rfl | rfl | rfl : r = 0 ∨ r = 1 ∨ r = 2 ∨ r = 3 := by omega
  · rw [Nat.add_zero, d0]; show IntKind.u8.wrap (uz (at32 T.list q) / (16777216 : Int)) = _; rw [shr24, low8]
  · rw [d1]; show IntKind.u8.wrap (uz (at32 T.list q) / (65536 : Int)) = _; rw [shr16, low8]
  · rw [d2]; show IntKind.u8.wrap (uz (at32 T.list q) / (256 : Int)) = _; rw [shr8, low8]
  · rw [d3]; show IntKind.u8.wrap (uz (at32 T.list q) / (1 : Int)) = _; rw [Int.ediv_one, low8]
/-- The row of the digest behind k bytes. -/
def oRow (T : S8) (k : Nat) (j : Nat) : Value := if j < k then cu8 (at8 (digS T) j) else .int .u8 0
theorem oRow_step (T : S8) (k j : Nat) : (if j = k then cu8 (at8 (digS T) k) else oRow T k j) = oRow T (k + 1) j := by
  unfold oRow
  by_cases e : j = k
  · subst e; rw [if_pos rfl, if_pos (by omega)]
  · rw [if_neg e]
    by_cases h : j < k
    · rw [if_pos h, if_pos (by omega)]
    · rw [if_neg h, if_neg (by omega)]

set_option maxRecDepth 100000 in
set_option maxHeartbeats 1600000 in
theorem rsum_any (bp : Option Addr) (len cap : Nat) (bs : List UInt8) (w : World) (hB : Bytes w.heap.size w bp len cap bs) (hlen : len ≤ 140737488351232) :
    Calls Tryd.prog 54 #[.slice bp len cap] w (AggPost (fun r => r = ((dig bs).map cu8).toArray) w) := by
  obtain ⟨i0, hi, hz0, hz1, hz2⟩ := info_parts Tryd.infoByte
  have HI := Lib.hid (And.intro hi (And.intro hz0 (And.intro hz1 hz2)))
  clear hi hz0 hz1 hz2
  have HB := Lib.hid hB; clear hB
  have hbl : bs.length = len := HB.out.hlen
  go_enter Tryd.func54, Tryd.ntmps54
  have hB1 : ∀ o : Obj, Bytes w.heap.size (w.alloc o) bp len cap bs := fun o => HB.out.below ((Below.refl _ _).alloc (Nat.le_refl _) _)
  have hS0 : ∀ c : Array Value, c.size = 32 → RsW w [] 0 (.slice none 0 0) (w.alloc (.cells c 23)) := fun c hc =>
    ⟨(Below.refl _ _).alloc (Nat.le_refl _) _, World.ownsRow_nil _ _ _ _, c, hc, heap_alloc_new _ _⟩
  go_wp2_with (first
    | (refine wpList_append_bytes _ rfl (.const (.slice none 0 0)) _ 122 rfl (w.heap.size + 1) 5 i0 (.int .u8 0) 1 Tryd.underlying122 HI.out.1 HI.out.2.1 HI.out.2.2.1 HI.out.2.2.2 rfl (.slice none 0 0) 0 [] rfl (World.ownsRow_nil _ _ _ _) w.heap.size bp len cap bs rfl (hB1 _) (by unfold maxLen; omega) (by omega) (by simp) ?_
       intro v1 w1 hown1 hgr1 hat1
       clear hat1
       have hS1 : RsW w bs (0 + len) v1 w1 := (hS0 _ (by kernel_rfl)).push (Below.refl _ _) hown1 hgr1
       rw [Nat.zero_add] at hS1
       clear hown1 hgr1 hB1 hS0)
    | (refine wpList_append_bytes _ rfl _ _ 122 rfl (w.heap.size + 1) 5 i0 (.int .u8 0) 1 Tryd.underlying122 HI.out.1 HI.out.2.1 HI.out.2.2.1 HI.out.2.2.2 rfl v1 len (bs.map cu8) rfl (hS1.own.kept (World.grownBy_alloc _ _ none) (by cases v1.ownBlock <;> simp)) (w1.heap.size + 1) _ 1 1 [128] rfl (Bytes.one w1 _ 128) (by unfold maxLen; omega) (by omega) (by have := hS1.lt; simp; omega) ?_
       intro v2 w2 hown2 hgr2 hat2
       clear hat2
       have hS2 : RsW w (bs ++ [128]) (len + 1) v2 w2 := hS1.push ((Below.refl _ _).alloc (Nat.le_refl _) _) hown2 hgr2
       clear hown2 hgr2 hS1))
  obtain ⟨bq2, cq2, rfl, _⟩ := hS2.form
  have hz : pad0 len < 64 := by unfold pad0; omega
  have hz2 : (len + 1 + pad0 len) % 64 = 56 := by unfold pad0; omega
  obtain ⟨z, hzz⟩ : ∃ z, z = pad0 len := ⟨_, rfl⟩
  rw [← hzz] at hz hz2
  have Hz := Lib.hid hzz; clear hzz
  go_loopg [3] z (fun g v wr => ∃ (k n : Nat) (bq : Option Addr) (cq : Nat), k ≤ z ∧ g = z - k ∧ Hid (n = len + 1 + k) ∧ v = .slice bq n cq ∧ RsW w (bs ++ 128 :: List.replicate k 0) n (.slice bq n cq) wr)
  case atStart => exact ⟨0, len + 1, bq2, cq2, by omega, rfl, rfl, rfl, hS2⟩
  case round =>
    clear hS2
    obtain ⟨k, n, bq, cq, hk, rfl, Hn, rfl, hS⟩ := hrel
    have hn1 : len + 1 + k = n := Hn.out.symm
    have hn63 : n ≤ 140737488351297 := by omega
    have hn630 : (n : Int) ≤ 140737488351297 := by omega
    by_cases hlt : k < z
    · have hne : n % 64 ≠ 56 := by omega
      have hne' : ((n : Int) % 64 == 56) = false := by rw [beq_eq_false_iff_ne]; omega
      go_wp2_with (refine wpList_append_bytes _ rfl _ _ 122 rfl (w.heap.size + 1) 5 i0 (.int .u8 0) 1 Tryd.underlying122 HI.out.1 HI.out.2.1 HI.out.2.2.1 HI.out.2.2.2 rfl _ n _ rfl (hS.own.kept (World.grownBy_alloc _ _ none) (by cases bq <;> simp [Value.ownBlock])) (wr.heap.size + 1) _ 1 1 [0] rfl (Bytes.one wr _ 0) (by unfold maxLen; omega) (by omega) (by have := hS.lt; simp; omega) ?_
                   intro v3 w3 hown3 hgr3 hat3
                   clear hat3
                   have hS3 : RsW w ((bs ++ 128 :: List.replicate k 0) ++ [0]) (n + 1) v3 w3 := hS.push ((Below.refl _ _).alloc (Nat.le_refl _) _) hown3 hgr3
                   clear hown3 hgr3)
      obtain ⟨bq3, cq3, rfl, _⟩ := hS3.form
      go_roundg (z - (k + 1))
      case measure => omega
      case rel =>
        refine ⟨k + 1, n + 1, bq3, cq3, by omega, rfl, Lib.hid (by omega), rfl, ?_⟩
        rw [List.append_assoc, List.cons_append, ← List.replicate_succ'] at hS3
        exact hS3
    · obtain rfl : k = z := by omega
      have hne : (n : Int) % 64 = 56 := by omega
      go_wp2_with fail
      have hS2 := hS
      clear hS hne
      generalize hpre : bs ++ 128 :: List.replicate k 0 = pre at hS2
      have Hpre := Lib.hid hpre; clear hpre
      go_loopg [3, 5] 8 (fun g v i wr => ∃ (j n' : Nat) (bq : Option Addr) (cq : Nat), j ≤ 8 ∧ g = 8 - j ∧ Hid (n' = n + j) ∧ i = .int .i64 j ∧ v = .slice bq n' cq ∧ RsW w (pre ++ (be8 (len * 8)).take j) n' (.slice bq n' cq) wr)
      case atStart => exact ⟨0, n, bq, cq, by omega, rfl, rfl, rfl, rfl, by rw [List.take_zero, List.append_nil]; exact hS2⟩
      case round =>
        clear hS2
        obtain ⟨j, n', bq', cq', hj, rfl, Hn', rfl, rfl, hS⟩ := hrel
        have hn1' : n + j = n' := Hn'.out.symm
        by_cases hlt : j < 8
        · have hlt' : (j : Int) < 8 := by omega
          have hn0 : (56 - 8 * (j : Int)).toNat = 56 - 8 * j := by omega
          have hv : IntKind.u8.wrap ((len : Int) * 8 / 2 ^ (56 - 8 * j)) = bz (UInt8.ofNat (len * 8 / 2 ^ (8 * (7 - j)))) := by
            have := byteN (len * 8) (56 - 8 * j)
            have e : 8 * (7 - j) = 56 - 8 * j := by omega
            rw [e]; simpa using this
          obtain ⟨x, hx⟩ : ∃ x, x = UInt8.ofNat (len * 8 / 2 ^ (8 * (7 - j))) := ⟨_, rfl⟩
          rw [← hx] at hv
          have Hx := Lib.hid hx; clear hx
          go_wp2_with (refine wpList_append_bytes _ rfl _ _ 122 rfl (w.heap.size + 1) 5 i0 (.int .u8 0) 1 Tryd.underlying122 HI.out.1 HI.out.2.1 HI.out.2.2.1 HI.out.2.2.2 rfl _ n' _ rfl (hS.own.kept (World.grownBy_alloc _ _ none) (by cases bq' <;> simp [Value.ownBlock])) (wr.heap.size + 1) _ 1 1 [x] rfl (Bytes.one wr _ x) (by unfold maxLen; omega) (by omega) (by have := hS.lt; simp; omega) ?_
                       intro v3 w3 hown3 hgr3 hat3
                       clear hat3
                       have hS3 := hS.push ((Below.refl _ _).alloc (Nat.le_refl _) _) hown3 hgr3
                       clear hown3 hgr3)
          obtain ⟨bq3, cq3, rfl, _⟩ := hS3.form
          go_roundg (8 - (j + 1))
          case measure => omega
          case rel =>
            refine ⟨j + 1, n' + 1, bq3, cq3, by omega, rfl, Lib.hid (by omega), by go_num, rfl, ?_⟩
            rw [List.append_assoc, Hx.out, ← be8_take _ _ hlt] at hS3
            exact hS3
        · obtain rfl : j = 8 := by omega
          rename World => w4
          obtain ⟨l, hl⟩ : ∃ l, l = bs ++ ending len := ⟨_, rfl⟩
          have hl2 : pre ++ List.take 8 (be8 (len * 8)) = l := by rw [List.take_of_length_le (Nat.le_refl 8), ← Hpre.out, all_ending _ _ _ Hz.out, hl]
          rw [hl2] at hS
          have HL := Lib.hid hl; clear hl hl2
          obtain ⟨K, hK⟩ : ∃ K, n' = 64 * K := ⟨n' / 64, by omega⟩
          have hK0 : 0 < n' := by omega
          have hn64 : n' ≤ 140737488351305 := by omega
          have HK := Lib.hid hK; clear hK hn1'
          obtain ⟨gb, cb, hvv, hgb0, hgb1⟩ := hS.own.form hK0
          cases hvv
          have hcb : n' ≤ cq' ∧ cq' ≤ maxLen := by obtain ⟨_, _, hv, hb⟩ := hS.form; cases hv; exact ⟨hb.hroom, hb.hmax⟩
          have hcell : ∀ i, i < n' → w4.cell? ⟨gb, i, none⟩ = some (cu8 (at8 l i)) := fun i hi => by
            have hll : l.length = n' := by have := hS.own.1; simpa using this
            rw [hS.own.cellAt i (by omega), List.getElem?_map]
            have hi' : i < l.length := by omega
            simp [at8, List.getD_eq_getElem?_getD, List.getElem?_eq_getElem hi']
          have Hcell := Lib.hid hcell; clear hcell
          go_wp2_with fail
          have hH : ∀ c : Array Value, c = s64 initS → (w4.alloc (.cells c 22)).rowIs w4.heap.size 22 8 (wRow64 initS.list) := fun c hc => by
            subst hc
            exact World.rowIs_alloc w4 (s64 initS) 22 (wRow64 initS.list) (fun i hi => by
              have hi' : i < 8 := hi
              obtain rfl | rfl | rfl | rfl | rfl | rfl | rfl | rfl : i = 0 ∨ i = 1 ∨ i = 2 ∨ i = 3 ∨ i = 4 ∨ i = 5 ∨ i = 6 ∨ i = 7 := by omega
              all_goals rfl)
          have hbelow : ∀ o : Obj, Below w4.heap.size w4 (w4.alloc o) := fun o => (Below.refl _ _).alloc (Nat.le_refl _) _
          go_loopg [6, 7] K (fun g h a wx => ∃ (j at' gh : Nat) (T : S8), j ≤ K ∧ g = K - j ∧ Hid (at' = 64 * j) ∧ a = .int .i64 at' ∧ h = .slice (some ⟨gh, 0, none⟩) 8 8 ∧ Hid (T = stateOf l j) ∧ Below w4.heap.size w4 wx ∧ gh < wx.heap.size ∧ wx.rowIs gh 22 8 (wRow64 T.list))
          case atStart => exact ⟨0, 0, w4.heap.size, initS, by omega, rfl, rfl, rfl, rfl, rfl, hbelow _, by simp, hH _ (by kernel_rfl)⟩
          case round =>
            clear hH hbelow
            obtain ⟨j, at', gh, T, hj, rfl, Hat, rfl, rfl, HT, hb, hgh, hrow⟩ := hrel
            by_cases hlt : j < K
            · have ha : at' = 64 * j := Hat.out
              have hlt1 : at' + 64 ≤ n' := by have := HK.out; omega
              have hlt' : (at' : Int) < (n' : Int) := by omega
              have hle' : (at' : Int) + 64 ≤ 140737488351400 := by omega
              have hsl : ∀ w : World, (Instr.sliceAt 122 (.slice (some ⟨gb, 0, none⟩) n' cq') (some (.int .i64 (at' : Int))) (some (.int .i64 ((at' : Int) + 64))) none).run Tryd.prog w = .ok (.slice (some ⟨gb, at', none⟩) 64 (cq' - at')) w := fun w => by
                have := run_slice_mid (P := Tryd.prog) 122 5 Tryd.underlying122 (by kernel_rfl) (some ⟨gb, 0, none⟩) n' cq' at' (at' + 64) (by omega) (by omega) w
                have e : ((at' + 64 : Nat) : Int) = (at' : Int) + 64 := by omega
                have e2 : cutAt (some ⟨gb, 0, none⟩) cq' at' = some ⟨gb, at', none⟩ := by
                  unfold cutAt
                  rw [if_neg (by omega), Option.map_some]
                  unfold Addr.add; split <;> simp_all
                have e3 : at' + 64 - at' = 64 := by omega
                rw [e, e2, e3] at this
                exact this
              clear ha
              have hgb2 : gb < wr.heap.size := Nat.lt_of_lt_of_le hgb1 hb.size
              have hh : ∀ i, i < 8 → wr.cell? ⟨gh, 0 + i, none⟩ = some (.int .u64 (uz (at32 T.list i))) := fun i hi => by rw [Nat.zero_add]; exact hrow.cell (i := i) hi
              obtain ⟨p, Hp⟩ : ∃ p, Hid (p = blk l j) := ⟨_, rfl⟩
              have hp : ∀ i, i < 64 → wr.cell? ⟨gb, at' + i, none⟩ = some (.int .u8 (bz (at8 p i))) := fun i hi => by
                have ha : at' = 64 * j := Hat.out
                rw [hb.cell (p := ⟨gb, at' + i, none⟩) hgb1, Hcell.out (at' + i) (by omega), Hp.out, at8_blk l j i hi, ← ha]; rfl
              have Hh := Lib.hid hh; clear hh
              have HP := Lib.hid hp; clear hp
              go_wp2_with (go_at_call 68; refine (round_any T p gh 0 8 gb at' (cq' - at') wr hgh hgb2 Hh.out HP.out).mono ?_; rintro e w3 ⟨g3, rfl, hg3, hrow3, hb3⟩)
              go_roundg (K - (j + 1))
              case measure => omega
              case rel =>
                refine ⟨j + 1, at' + 64, g3, comp T p, by omega, rfl, Lib.hid (by have := Hat.out; omega), by go_num, rfl, ?_, hb.trans (hb3.mono hb.size), hrow3.lt, hrow3⟩
                exact Lib.hid (by show comp T p = comp (stateOf l j) (blk l j); rw [HT.out, Hp.out])
            · obtain rfl : j = K := by omega
              have hge : ¬ ((at' : Int) < (n' : Int)) := by have := HK.out; have := Hat.out; omega
              rename World => w5
              go_wp2_with fail
              have hO : ∀ c : Array Value, c = (List.replicate 32 (Value.int .u8 0)).toArray → (w5.alloc (.cells c 23)).rowIs w5.heap.size 23 32 (oRow T 0) := fun c hc => by
                have h3 : c.size = 32 := by rw [hc, List.size_toArray, List.length_replicate]
                have := World.rowIs_alloc w5 c 23 (oRow T 0) (fun i hi => by
                  subst hc
                  rw [List.size_toArray, List.length_replicate] at hi
                  rw [List.getElem?_toArray, List.getElem?_replicate, if_pos hi]; rfl)
                rw [h3] at this
                exact this
              have hR : ∀ o : Obj, Below w5.heap.size w5 (w5.alloc o) := fun o => (Below.refl _ _).alloc (Nat.le_refl _) _
              have hs5 : w.heap.size < w5.heap.size := by have := hS.lt; have := hb.size; omega
              obtain ⟨c5, hc5, hr5⟩ := hS.res
              have hr5' : w5.heap[w.heap.size]? = some (.cells c5 23 (0, 0)) := (hb.block _ hS.lt).trans hr5
              have hbw : Below w.heap.size w w5 := hS.below.trans (hb.mono (Nat.le_of_lt hS.lt))
              have Hc5 := Lib.hid hc5; clear hc5 hr5
              have Hr5 := Lib.hid hr5'; clear hr5'
              have hdig : digS T = dig bs := by
                have h1 := HT.out; have h2 := HL.out; have h3 := HK.out
                rw [h1, h2, dig, hbl]
                congr 2
                have : (bs ++ ending len).length = n' := by rw [← h2]; have := hS.own.1; simpa using this
                rw [List.length_append, hbl] at this
                omega
              have Hdig := Lib.hid hdig; clear hdig
              clear hge HL HK HT Hat hS Hcell
              go_loopg [9] 32 (fun g i wx => ∃ q : Nat, q ≤ 32 ∧ g = 32 - q ∧ i = .int .i64 q ∧ Below w5.heap.size w5 wx ∧ wx.rowIs w5.heap.size 23 32 (oRow T q))
              case atStart => exact ⟨0, by omega, rfl, rfl, hR _, hO _ (by kernel_rfl)⟩
              case round =>
                clear hO hR
                obtain ⟨q, hq, rfl, rfl, hb6, hO⟩ := hrel
                by_cases hlt : q < 32
                · have hlt' : (q : Int) < 32 := by omega
                  obtain ⟨u, r, hu, hr, Hq⟩ : ∃ u r : Nat, u < 8 ∧ r < 4 ∧ Hid (q = 4 * u + r) := ⟨q / 4, q % 4, by omega, by omega, Lib.hid (by omega)⟩
                  have hq4 : (q : Int) / 4 = (u : Int) := by have := Hq.out; omega
                  have hqr : (q : Int) % 4 = (r : Int) := by have := Hq.out; omega
                  have hu' : (u : Int) < 8 := by omega
                  have n0 : (24 - 8 * (r : Int)).toNat = 24 - 8 * r := by omega
                  have hv := byte_at T u r hu hr
                  rw [← Hq.out] at hv
                  have c0 : wr.cell? ⟨gh, u, none⟩ = some (.int .u64 (uz (at32 T.list u))) := (hb6.cell (p := ⟨gh, u, none⟩) hgh).trans (hrow.cell (i := u) hu)
                  have f0 : wr.frozen? ⟨w5.heap.size, q, none⟩ = false := hO.frozen q
                  have c1 := hO.cell (i := q) hlt
                  go_wp2_with fail
                  go_roundg (32 - (q + 1))
                  case measure => omega
                  case rel =>
                    exact ⟨q + 1, by omega, rfl, by go_num, hb6.setCell (p := ⟨w5.heap.size, q, none⟩) (Nat.le_refl _) _, (hO.set _ _).congr fun j _ => oRow_step T q j⟩
                · obtain rfl : q = 32 := by omega
                  have HR := rowIs_eq (hO.congr (g := fun j => cu8 (at8 (digS T) j)) (fun j hj => by unfold oRow; rw [if_pos hj]))
                  rw [list8_eq_range (digS T) 32 rfl] at HR
                  obtain ⟨rv, Hrv⟩ : ∃ rv : Array Value, Hid (rv = ((dig bs).map cu8).toArray) := ⟨_, rfl⟩
                  have hrv : ((digS T).map cu8).toArray = rv := by rw [Hrv.out, Hdig.out]
                  rw [hrv] at HR
                  have H1 := Lib.hid HR; clear HR hrv
                  have Hr6 : Hid (wr.heap[w.heap.size]? = some (.cells c5 23 (0, 0))) := Lib.hid ((hb6.block _ hs5).trans Hr5.out)
                  clear hO hlt hq
                  go_wp2_with (first
                    | (refine wpList_load_row rfl 23 _ rfl w5.heap.size rfl 23 rv (0, 0) _ H1.out Tryd.underlying23 rfl (by rw [(dig_size Hrv).out]; kernel_rfl) ?_)
                    | (refine wpList_store_row rfl 23 _ _ rfl w.heap.size rv rfl rfl 23 c5 Hr6.out (by rw [(dig_size Hrv).out]; kernel_rfl) (by rw [(dig_size Hrv).out, Hc5.out]) (dig_one Hrv).out ?_))
                  refine bodyPost_ret (v := .agg rv) ?_ rfl ⟨rv, Hrv, rfl, below_setRow (hbw.trans (hb6.mono (Nat.le_of_lt hs5))) (Nat.le_refl _) _⟩
                  exact results_cell_row (ty := 23) rfl _ _ w.heap.size 23 _ (0, 0) _ rfl (setRow_heap _ _ _ _ _ _ Hr6.out) Tryd.underlying23 rfl (by rw [(dig_size Hrv).out]; kernel_rfl)
end Go.Proofs.YtegdlpllljccgaaDoor
