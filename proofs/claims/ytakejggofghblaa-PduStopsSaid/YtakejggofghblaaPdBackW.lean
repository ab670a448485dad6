/-
  PduBack: the walk.
-/
import Derived.Test.YtakejggofghblaaPdList
set_option linter.unusedSimpArgs false
set_option linter.unusedVariables false
namespace Go.Proofs.Ytakejggofghblaa
open Go.RowKit Sh Cr Pd

theorem range_lt {N : Nat} {w w' : World} {b o : Nat} {cs : List Value} (h : w.rangeAt b o cs) (hb : b < N) (hB : Below N w w') : w'.rangeAt b o cs := fun j v hv =>
  (hB.cell (p := ⟨b, o + j, none⟩) hb).trans (h j v hv)
def cur (l : List P) (h d : Bool) (k : Nat) : List UInt8 := (l[k]?.map fun p => encB p h d).getD []
theorem strB_extract (S : List UInt8) (q : Nat) : (strB S).extract q (q + 1) = strB ((S.drop q).take 1) := by
  apply ByteArray.ext
  rw [ByteArray.data_extract]
  unfold strB
  simp
structure BkI (w : World) (A : Option Addr) (l : List P) (g : Nat) (B : List UInt8) (W : World) : Prop where
  rd : RS g B false W
  row : PdR w.heap.size W A l
  bel : Below w.heap.size w W
theorem BkI.below {w W W' : World} {A : Option Addr} {l : List P} {g : Nat} {B : List UInt8} (h : BkI w A l g B W) (hb : Below W.heap.size W W') : BkI w A l g B W' :=
  ⟨h.rd.below hb, h.row.below (hb.mono h.bel.size), addb h.bel hb⟩
structure SmI (w : World) (A : Option Addr) (l : List P) (g : Nat) (p : P) (b o : Nat) (pv : List Value) (x : Nat) (cs : Array Value) (W : World) : Prop where
  bk : BkI w A l g [] W
  hx : W.heap[x]? = some (.cells cs 28 (0, 0))
  hv : PduV W p cs
  pn : PduN w.heap.size W p pv.toArray
  rg : W.rangeAt b o pv
  hb : b < w.heap.size
theorem SmI.next {w W W' : World} {A : Option Addr} {l : List P} {g : Nat} {p : P} {b o : Nat} {pv : List Value} {x : Nat} {cs : Array Value} (h : SmI w A l g p b o pv x cs W) (hB : Below W.heap.size W W') : SmI w A l g p b o pv x cs W' :=
  ⟨h.bk.below hB, (hB.block _ (Array.getElem?_eq_some_iff.1 h.hx).1).trans h.hx, h.hv.below hB, h.pn.below (hB.mono h.bk.bel.size), range_lt h.rg h.hb (hB.mono h.bk.bel.size), h.hb⟩
theorem SmI.drew {w W : World} {A : Option Addr} {l : List P} {g : Nat} {p : P} {b o : Nat} {pv : List Value} {x : Nat} {cs : Array Value} (h : SmI w A l g p b o pv x cs W) : SmI w A l g p b o pv x cs W.drew :=
  h.next (Below.refl _ W).drew
set_option maxRecDepth 100000 in
theorem pduBack_long (A : Option Addr) (n cap : Nat) (hn : 30 < n) (h d : Bool) (w : World) :
    Calls Try.prog 5 #[.slice A n cap, .bool h, .bool d] w (TrueP w) := by
  have g3 : (30 : Int) < (n : Int) := by omega
  clear hn
  have HST := Lib.hid (stands_any w)
  go_enter Try.func5, Try.ntmps5
  go_wp2_with (go_at_call 9; refine HST.out.mono ?_; rintro e w2 ⟨rfl, hb2⟩; have HB2 := Lib.hid hb2; clear hb2 HST)
  go_ret
  exact ⟨rfl, HB2.out⟩
set_option maxRecDepth 100000 in
set_option maxHeartbeats 32000000 in
theorem pduBack_ok (A : Option Addr) (n cap : Nat) (l : List P) (hl : l.length = n) (hn : n ≤ 30) (hok : ∀ p ∈ l, p.Ok) (h d : Bool) (w : World) (hr : PdR w.heap.size w A l) :
    Calls Try.prog 5 #[.slice A n cap, .bool h, .bool d] w (TrueP w) := by
  have g3 : ¬ (30 : Int) < (n : Int) := by omega
  have HR := Lib.hid hr
  have HL := Lib.hid hl
  have HOK := Lib.hid hok
  clear hr hl hok
  have HST := Lib.hid (stands_any w)
  have hbR := builtR
  go_enter Try.func5, Try.ntmps5
  go_upto_region 5 with (go_at_call 9; refine HST.out.mono ?_; rintro e w2 ⟨rfl, hb2⟩; have HB2 := Lib.hid hb2; clear hb2 HST)
  clear g3
  have HI2 : Hid (BkI w A l w2.heap.size [] (w2.alloc (.cells #[.slice none 0 0, .bool false] 36))) := Lib.hid (by
    have hb := (Below.refl w2.heap.size w2).alloc (Nat.le_refl _) (.cells #[.slice none 0 0, .bool false] 36)
    exact ⟨RS.new w2, HR.out.below (addb HB2.out hb), addb HB2.out hb⟩)
  go_upto_region 6 with (fail)
  obtain ⟨g, hg⟩ : ∃ g, Hid (w2.heap.size = g) := ⟨_, Lib.hid rfl⟩
  have hgw : w.heap.size ≤ g := by rw [← hg.out]; exact HB2.out.size
  rw [hg.out] at HI2 ⊢
  generalize w2.alloc (.cells #[.slice none 0 0, .bool false] 36) = w3 at HI2 ⊢
  clear HB2 HR hg
  obtain ⟨M, hM⟩ : ∃ M : Nat → Prop, Hid (M = fun i => ∀ (j : Nat) (p : P), j < i → l[j]? = some p → mayB p = true) := ⟨_, Lib.hid rfl⟩
  have hM0 : Hid (M 0) := Lib.hid (by rw [hM.out]; intro j p hj; omega)
  have HX : Hid (∀ W i (hi : i < l.length), BkI w A l g [] W → ∃ b o pv, A = some ⟨b, o, none⟩ ∧ PduV W l[i] pv.toArray ∧ W.rangeAt b (o + i * 16) pv) := Lib.hid (fun W i hi hI => by
    obtain ⟨b, o, pv, e1, e2, e3, e4⟩ := hI.row.at hi
    exact ⟨b, o, pv, e1, e3.v hI.bel.size, e4⟩)
  go_wp2
  go_loopg [8, 24] n (fun m s v wr => ∃ i : Nat, m = n - i ∧ i ≤ n ∧ v = .int .i64 i ∧ s = .string (strB (encs (l.take i) h d)) ∧ M i ∧ BkI w A l g [] wr)
  case atStart => exact ⟨0, rfl, by omega, rfl, rfl, hM0.out, HI2.out⟩
  case round =>
    clear HI2 hM0
    obtain ⟨i, rfl, hin, rfl, rfl, hMi, hI⟩ := hrel
    by_cases hlt : i < n
    case neg =>
      have hlt' : ¬ ((i : Int) < (n : Int)) := by omega
      obtain rfl : i = n := by omega
      have hall : ∀ p ∈ l, mayB p = true := fun p hp => by
        rw [hM.out] at hMi
        obtain ⟨j, hj, rfl⟩ := List.getElem_of_mem hp
        exact hMi j _ (by have := HL.out; omega) (List.getElem?_eq_getElem hj)
      have HALL := Lib.hid hall
      have HSL := encs_few hall h d
      have hx : encs (l.take i) h d = encs l h d := by rw [List.take_of_length_le (by rw [HL.out]; exact Nat.le_refl _)]
      rw [hx]
      clear hx hMi hall hlt hlt'
      have HI := Lib.hid hI
      clear hI hM
      obtain ⟨S, hS⟩ : ∃ S, Hid (encs l h d = S) := ⟨_, Lib.hid rfl⟩
      obtain ⟨sl, hsl⟩ : ∃ n, Hid (S.length = n) := ⟨_, Lib.hid rfl⟩
      rw [hS.out, hsl.out, HL.out] at HSL
      rw [hS.out]
      have hszS : (strB S).size = sl := by rw [strB_size, hsl.out]
      have HOA := Lib.hid (show off l h d i = sl by rw [← HL.out, off_all, hS.out, hsl.out])
      have HOL := Lib.hid (fun k (hk : k < l.length) => show off l h d k + (encB l[k] h d).length ≤ sl by rw [← hsl.out, ← hS.out]; exact off_le l h d k hk)
      have HCU : Hid (∀ k (hk : k < l.length), cur l h d k = encB l[k] h d) := Lib.hid (fun k hk => by unfold cur; rw [List.getElem?_eq_getElem hk]; rfl)
      have HC0 : Hid (cur l h d i = []) := Lib.hid (by unfold cur; rw [List.getElem?_eq_none (by rw [HL.out]; exact Nat.le_refl _)]; rfl)
      go_wp2
      go_loopg [46, 11] sl (fun m v vk wr => ∃ k r : Nat, m = sl - (off l h d k + r) ∧ k ≤ i ∧ (k < i → r < (cur l h d k).length) ∧ (k = i → r = 0) ∧ v = .int .i64 ((off l h d k + r : Nat) : Int) ∧ vk = .int .i64 (k : Int) ∧ BkI w A l g ((cur l h d k).take r) wr)
      case atStart => exact ⟨0, 0, rfl, by omega, fun h0 => by rw [HCU.out 0 (by rw [HL.out]; exact h0)]; have := (enc_few (HALL.out _ (List.getElem_mem (by rw [HL.out]; exact h0))) h d).1; omega, fun _ => rfl, rfl, rfl, HI.out⟩
      case round =>
        clear HI
        obtain ⟨k, r, rfl, hki, hr1, hr0, rfl, rfl, hI⟩ := hrel
        obtain ⟨q, hq⟩ : ∃ q, Hid (off l h d k + r = q) := ⟨_, Lib.hid rfl⟩
        rw [hq.out]
        by_cases hlt : q < sl
        case neg =>
          have hlt' : ¬ ((q : Int) < (sl : Int)) := by omega
          obtain rfl : k = i := by
            rcases Nat.lt_or_ge k i with h1 | h1
            · have h2 := hr1 h1
              have h3 := HOL.out k (by rw [HL.out]; exact h1)
              rw [HCU.out k (by rw [HL.out]; exact h1)] at h2
              have := hq.out
              omega
            · omega
          rw [HC0.out, List.take_nil] at hI
          have HLF := Lib.hid hI.rd.left
          have HB := Lib.hid hI.bel
          clear hI hr0 hr1 hlt
          go_wp2_with (go_at_call 19; refine HLF.out.mono ?_; rintro e wb ⟨rfl, rfl⟩; clear HLF)
          go_ret
          exact ⟨rfl, HB.out⟩
        have hlt' : (q : Int) < (sl : Int) := by omega
        have hk : k < i := by
          rcases Nat.lt_or_ge k i with h1 | h1
          · exact h1
          · exfalso
            obtain rfl : k = i := by omega
            have h2 := hr0 rfl
            have h3 := HOA.out
            have := hq.out
            omega
        have hkl : k < l.length := by rw [HL.out]; exact hk
        have hr2 := hr1 hk
        rw [HCU.out k hkl] at hI hr2
        have HI := Lib.hid hI
        have HBY : Hid ((S.drop q).take 1 = ((encB l[k] h d).drop r).take 1) := Lib.hid (by rw [← hS.out, ← hq.out]; exact encs_byte l h d k r hkl hr2)
        have HTK := Lib.hid (take_byte (encB l[k] h d) r hr2)
        have hfew := (enc_few (HALL.out _ (List.getElem_mem hkl)) h d)
        have HFD := Lib.hid (hI.rd.feed ((S.drop q).take 1) (by rw [List.length_take, List.length_take]; omega))
        rw [HBY.out] at HFD
        clear hI hr0 hr1
        rw [← HBY.out, ← strB_extract, HBY.out, show feedB ((encB l[k] h d).take r) false (((encB l[k] h d).drop r).take 1) = (encB l[k] h d).take (r + 1) from HTK.out] at HFD
        go_upto_region 19 with (go_at_call 15; refine HFD.out.mono ?_; rintro e w5 ⟨rfl, hs5, hb5⟩; have HS5 : Hid (RS g ((encB l[k] h d).take (r + 1)) false w5) := Lib.hid hs5; have HR5 := Lib.hid (HI.out.row.below (hb5.mono hgw)); have HA5 := Lib.hid (HI.out.bel.trans (hb5.mono hgw)); clear hs5 hb5)
        clear HFD HBY HTK HI
        have HNX := Lib.hid (HS5.out.next h d)
        have hmk := HALL.out _ (List.getElem_mem hkl)
        have hkk : l[k].Ok := HOK.out _ (List.getElem_mem hkl)
        by_cases hend : r + 1 < (encB l[k] h d).length
        · rw [next_part hmk h d (r + 1) hend] at HNX
          go_upto_region 20 with (first
            | (go_at_call 16; refine HNX.out.mono ?_; rintro e w8 ⟨cs8, rfl, ho8, hs8, hb8⟩; have HS8 : Hid (RS g ((encB l[k] h d).take (r + 1)) false w8) := Lib.hid hs8; have HR8 := Lib.hid (HR5.out.below (hb8.mono hgw)); have HA8 := Lib.hid (HA5.out.trans (hb8.mono hgw)); have hz8 := ho8.size; have h18 := ho8.one; clear hs8 hb8 ho8 HNX)
            | (refine wpList_alloc_arr rfl 28 rfl _ allocPdu ?_)
            | (refine wpList_store_new rfl 28 _ _ rfl _ rfl cs8 rfl rfl 28 zP (by rw [hz8.out]; exact infoPdu) (by rw [hz8.out]; rfl) h18.out ?_))
          have HI9 : Hid (BkI w A l g ((encB l[k] h d).take (r + 1)) (w8.alloc (.cells cs8 28))) := Lib.hid ((⟨HS8.out, HR8.out, HA8.out⟩ : BkI w A l g _ w8).below ((Below.refl _ _).alloc (Nat.le_refl _) _))
          clear HS5 HR5 HA5 HS8 HR8 HA8
          generalize w8.alloc (.cells cs8 28) = w9 at HI9 ⊢
          go_wp2
          go_roundg (sl - (off l h d k + (r + 1)))
          case measure => have := hq.out; omega
          case rel =>
            refine ⟨k, r + 1, rfl, by omega, fun _ => by rw [HCU.out k hkl]; exact hend, fun h0 => by omega, ?_, rfl, by rw [HCU.out k hkl]; exact HI9.out⟩
            have := hq.out
            go_num
        · have hlen : (encB l[k] h d).length = r + 1 := by omega
          have hnb := next_back hmk hkk h d []
          rw [List.append_nil] at hnb
          rw [List.take_of_length_le (by omega), hnb] at HNX
          clear hnb
          obtain ⟨b, o, pv, hA, hbl, hpv, hrg⟩ := HR5.out.at hkl
          subst hA
          obtain ⟨p, hp⟩ : ∃ p, Hid (l[k] = p) := ⟨_, Lib.hid rfl⟩
          rw [hp.out] at HNX hpv
          have hpl : Hid (pv.length = 16) := Lib.hid (by rw [← List.size_toArray]; exact hpv.size.out)
          have HP5 : Hid (PduN w.heap.size w5 p pv.toArray ∧ w5.rangeAt b (o + k * 16) pv) := Lib.hid ⟨hpv, hrg⟩
          clear hpv hrg
          go_upto_region 20 with (first
            | (go_at_call 16; refine HNX.out.mono ?_; rintro e w8 ⟨cs8, rfl, ho8, hs8, hb8⟩; have HS8 : Hid (RS g [] false w8) := Lib.hid hs8; have HR8 := Lib.hid (HR5.out.below (hb8.mono hgw)); have HA8 := Lib.hid (HA5.out.trans (hb8.mono hgw)); have HP8 : Hid (PduN w.heap.size w8 p pv.toArray ∧ w8.rangeAt b (o + k * 16) pv) := Lib.hid ⟨HP5.out.1.below (hb8.mono hgw), range_lt HP5.out.2 hbl (hb8.mono hgw)⟩; have HV8 : Hid (PduV w8 p cs8) := Lib.hid ho8.v; have hz8 := ho8.size; have h18 := ho8.one; clear hs8 hb8 ho8 HNX)
            | (refine wpList_alloc_arr rfl 28 rfl _ allocPdu ?_)
            | (refine wpList_store_new rfl 28 _ _ rfl _ rfl cs8 rfl rfl 28 zP (by rw [hz8.out]; exact infoPdu) (by rw [hz8.out]; rfl) h18.out ?_))
          have hba : Below w8.heap.size w8 (w8.alloc (.cells cs8 28)) := (Below.refl _ _).alloc (Nat.le_refl _) _
          have HSM : Hid (SmI w (some ⟨b, o, none⟩) l g p b (o + k * 16) pv w8.heap.size cs8 (w8.alloc (.cells cs8 28))) := Lib.hid
            ⟨(⟨HS8.out, HR8.out, HA8.out⟩ : BkI w _ l g _ w8).below hba, heap_alloc_new w8 _, HV8.out.below hba, HP8.out.1.below (hba.mono HA8.out.size), range_lt HP8.out.2 hbl (hba.mono HA8.out.size), hbl⟩
          clear HS5 HR5 HA5 HS8 HR8 HA8 HP5 HP8 HV8 hba
          obtain ⟨x, hx⟩ : ∃ x, Hid (w8.heap.size = x) := ⟨_, Lib.hid rfl⟩
          rw [hx.out] at HSM ⊢
          generalize w8.alloc (.cells cs8 28) = wa at HSM ⊢
          clear hx
          have hki2 : ¬ ((k : Int) = (i : Int)) := by omega
          go_upto_region 21 with (fail)
          -- MARK A
          refine wp_region_held (S := SmI w (some ⟨b, o, none⟩) l g p b (o + k * 16) pv x cs8) (by kernel_rfl) ?_
          change wpAnyH _ _ _ _ _ _ _ _ (World.drew _)
          have hS := HSM.out.drew
          clear HSM
          generalize wa.drew = w9 at hS ⊢
          refine wpAnyH_take (i := 0) (v := .int .i64 1) rfl (by kernel_rfl) (by kernel_rfl) (by kernel_rfl) (fun _ _ _ h => h) (Or.inl ⟨by rfl, ?_⟩) hS ?_
          · intro w hw; go_simp
          try simp only [List.getElem_toArray, List.getElem_cons_succ, List.getElem_cons_zero, Act.put, List.setIfInBounds_toArray, List.set]
          refine wpAnyH_take (i := 1) (v := .bool false) rfl (by kernel_rfl) (by kernel_rfl) (by kernel_rfl) (fun _ _ _ h => h) (Or.inl ⟨by rfl, ?_⟩) hS ?_
          · intro w hw; go_simp
          try simp only [List.getElem_toArray, List.getElem_cons_succ, List.getElem_cons_zero, Act.put, List.setIfInBounds_toArray, List.set]
          refine wpAnyH_take (i := 2) (v := .bool false) rfl (by kernel_rfl) (by kernel_rfl) (by kernel_rfl) (fun _ _ _ h => h) (Or.inl ⟨by rfl, ?_⟩) hS ?_
          · intro w hw; go_simp
          try simp only [List.getElem_toArray, List.getElem_cons_succ, List.getElem_cons_zero, Act.put, List.setIfInBounds_toArray, List.set]
          refine wpAnyH_take (i := 3) (v := .int .i64 (k : Int)) rfl (by kernel_rfl) (by kernel_rfl) (by kernel_rfl) (fun _ _ _ h => h) (Or.inl ⟨by rfl, ?_⟩) hS ?_
          · intro w hw; go_simp
          try simp only [List.getElem_toArray, List.getElem_cons_succ, List.getElem_cons_zero, Act.put, List.setIfInBounds_toArray, List.set]
          refine wpAnyH_take (i := 4) (v := .slice (some ⟨b, o, none⟩) i cap) rfl (by kernel_rfl) (by kernel_rfl) (by kernel_rfl) (fun _ _ _ h => h) (Or.inl ⟨by rfl, ?_⟩) hS ?_
          · intro w hw; go_simp
          try simp only [List.getElem_toArray, List.getElem_cons_succ, List.getElem_cons_zero, Act.put, List.setIfInBounds_toArray, List.set]
          refine wpAnyH_take (i := 5) (v := .int .i64 (i : Int)) rfl (by kernel_rfl) (by kernel_rfl) (by kernel_rfl) (fun _ _ _ h => h) (Or.inl ⟨by rfl, ?_⟩) hS ?_
          · intro w hw; go_simp
          try simp only [List.getElem_toArray, List.getElem_cons_succ, List.getElem_cons_zero, Act.put, List.setIfInBounds_toArray, List.set]
          refine wpAnyH_take (i := 6) (v := .bool false) rfl (by kernel_rfl) (by kernel_rfl) (by kernel_rfl) (fun _ _ _ h => h) (Or.inl ⟨by rfl, ?_⟩) hS ?_
          · intro w hw; go_simp
          try simp only [List.getElem_toArray, List.getElem_cons_succ, List.getElem_cons_zero, Act.put, List.setIfInBounds_toArray, List.set]
          refine wpAnyH_take (i := 7) (v := .bool false) rfl (by kernel_rfl) (by kernel_rfl) (by kernel_rfl) (fun _ _ _ h => h) (Or.inl ⟨by rfl, ?_⟩) hS ?_
          · intro w hw; go_simp
          try simp only [List.getElem_toArray, List.getElem_cons_succ, List.getElem_cons_zero, Act.put, List.setIfInBounds_toArray, List.set]
          refine wpAnyH_take (i := 8) (v := .bool false) rfl (by kernel_rfl) (by kernel_rfl) (by kernel_rfl) (fun _ _ _ h => h) (Or.inl ⟨by rfl, ?_⟩) hS ?_
          · intro w hw; go_simp
          try simp only [List.getElem_toArray, List.getElem_cons_succ, List.getElem_cons_zero, Act.put, List.setIfInBounds_toArray, List.set]
          refine wpAnyH_take (i := 9) (v := .agg cs8) rfl (by kernel_rfl) (by kernel_rfl) (by kernel_rfl) (fun _ _ _ h => h) (Or.inl ⟨by rfl, fun W hW => exec_load _ _ 28 _ rfl x 0 rfl cs8 (load_pdu hW.hx hz8)⟩) hS ?_
          try simp only [List.getElem_toArray, List.getElem_cons_succ, List.getElem_cons_zero, Act.put, List.setIfInBounds_toArray, List.set]
          refine wpAnyH_take (i := 10) (v := .slice (some ⟨b, o, none⟩) i cap) rfl (by kernel_rfl) (by kernel_rfl) (by kernel_rfl) (fun _ _ _ h => h) (Or.inl ⟨by rfl, ?_⟩) hS ?_
          · intro w hw; go_simp
          try simp only [List.getElem_toArray, List.getElem_cons_succ, List.getElem_cons_zero, Act.put, List.setIfInBounds_toArray, List.set]
          refine wpAnyH_take (i := 11) (v := .int .i64 (k : Int)) rfl (by kernel_rfl) (by kernel_rfl) (by kernel_rfl) (fun _ _ _ h => h) (Or.inl ⟨by rfl, ?_⟩) hS ?_
          · intro w hw; go_simp
          try simp only [List.getElem_toArray, List.getElem_cons_succ, List.getElem_cons_zero, Act.put, List.setIfInBounds_toArray, List.set]
          refine wpAnyH_take (i := 12) (v := .pointer (some ⟨b, o + k * 16, none⟩)) rfl (by kernel_rfl) (by kernel_rfl) (by kernel_rfl) (fun _ _ _ h => h) (Or.inl ⟨by rfl, ?_⟩) hS ?_
          · intro w hw; go_simp
          try simp only [List.getElem_toArray, List.getElem_cons_succ, List.getElem_cons_zero, Act.put, List.setIfInBounds_toArray, List.set]
          refine wpAnyH_take (i := 13) (v := .agg pv.toArray) rfl (by kernel_rfl) (by kernel_rfl) (by kernel_rfl) (fun _ _ _ h => h) (Or.inl ⟨by rfl, fun W hW => exec_load _ _ 28 _ rfl b (o + k * 16) rfl pv.toArray (run_loadAt_mid W b (o + k * 16) 28 pv _ hW.rg Try.underlying28 rfl (by rw [hpl.out]; exact infoPdu))⟩) hS ?_
          try simp only [List.getElem_toArray, List.getElem_cons_succ, List.getElem_cons_zero, Act.put, List.setIfInBounds_toArray, List.set]
          refine wpAnyH_one 14 _ rfl (by kernel_rfl) (by rfl) (fun K hK => ?_)
          go_simp
          refine (same_any p cs8 pv.toArray w9 hS.hv (hS.pn.v hS.bk.bel.size)).mono ?_
          rintro e w10 ⟨rfl, hb10⟩
          have hS10 := hS.next hb10
          refine hK _ _ hS10 ?_
          clear hK K
          try simp only [List.getElem_toArray, List.getElem_cons_succ, List.getElem_cons_zero, Act.put, List.setIfInBounds_toArray, List.set]
          refine wpAnyH_take (i := 15) (v := .bool false) rfl (by kernel_rfl) (by kernel_rfl) (by kernel_rfl) (fun _ _ _ h => h) (Or.inl ⟨by rfl, ?_⟩) hS10 ?_
          · intro w hw; go_simp
          try simp only [List.getElem_toArray, List.getElem_cons_succ, List.getElem_cons_zero, Act.put, List.setIfInBounds_toArray, List.set]
          refine wpAnyH_take (i := 16) (v := .bool false) rfl (by kernel_rfl) (by kernel_rfl) (by kernel_rfl) (fun _ _ _ h => h) (Or.inl ⟨by rfl, ?_⟩) hS10 ?_
          · intro w hw; go_simp
          try simp only [List.getElem_toArray, List.getElem_cons_succ, List.getElem_cons_zero, Act.put, List.setIfInBounds_toArray, List.set]
          refine wpAnyH_done (by kernel_rfl) ?_ _
          -- MARK B
          have HI10 := Lib.hid hS10.bk
          have HON : Hid (off l h d (k + 1) = q + 1) := Lib.hid (by rw [off_next l h d k hkl, hlen, ← hq.out]; omega)
          clear hS hS10 hb10
          go_wp2
          go_roundg (sl - (off l h d (k + 1) + 0))
          case measure => have := HON.out; have := hq.out; omega
          case rel =>
            refine ⟨k + 1, 0, rfl, by omega, fun h0 => ?_, fun _ => rfl, ?_, by go_num, by rw [List.take_zero]; exact HI10.out⟩
            · have hk1 : k + 1 < l.length := by rw [HL.out]; exact h0
              rw [HCU.out _ hk1]
              have := (enc_few (HALL.out _ (List.getElem_mem hk1)) h d).1
              omega
            · have := HON.out
              rw [Nat.add_zero, HON.out]
              go_num
    have hlt' : (i : Int) < (n : Int) := by omega
    have hil : i < l.length := by rw [HL.out]; exact hlt
    obtain ⟨b, o, pv, hA, hpv, hrg⟩ := HX.out wr i hil hI
    subst hA
    have HPV := Lib.hid hpv
    have hpz : Hid (pv.toArray.size = 16) := hpv.size
    have hpl : Hid (pv.length = 16) := Lib.hid (by rw [← List.size_toArray]; exact hpz.out)
    have hp1 : Hid (pv.toArray.all (·.oneCell') = true) := hpv.one
    have hba : Below wr.heap.size wr (wr.alloc (.cells pv.toArray 28)) := (Below.refl _ _).alloc (Nat.le_refl _) _
    have HX1 : Hid ((wr.alloc (.cells pv.toArray 28)).heap[wr.heap.size]? = some (.cells pv.toArray 28 (0, 0))) := Lib.hid (heap_alloc_new wr _)
    have HI1 := Lib.hid (hI.below hba)
    have HV1 := Lib.hid (hpv.below hba)
    have HRG := Lib.hid hrg
    have HM := Lib.hid hMi
    clear hI hpv hba hrg hMi
    go_upto_region 10 with (first
      | (refine wpList_load_mid rfl 28 _ rfl b (o + i * 16) rfl pv _ HRG.out Try.underlying28 rfl (by rw [hpl.out]; exact infoPdu) ?_)
      | (refine wpList_alloc_arr rfl 28 rfl _ allocPdu ?_)
      | (refine wpList_store_new rfl 28 _ _ rfl wr.heap.size rfl pv.toArray rfl rfl 28 zP (by rw [hpz.out]; exact infoPdu) (by rw [hpz.out]; rfl) hp1.out ?_))
    have hxl : wr.heap.size < (wr.alloc (.cells pv.toArray 28)).heap.size := (Array.getElem?_eq_some_iff.1 HX1.out).1
    generalize wr.alloc (.cells pv.toArray 28) = w4 at HI1 HV1 HX1 hxl ⊢
    generalize wr.heap.size = x at HX1 hxl ⊢
    clear HPV HRG
    have hki : l[i].Ok := HOK.out _ (List.getElem_mem hil)
    obtain ⟨p, hp⟩ : ∃ p, Hid (l[i] = p) := ⟨_, Lib.hid rfl⟩
    rw [hp.out] at HV1 hki
    have HLD1 := Lib.hid (load_pdu HX1.out hpz)
    have HSH := Lib.hid (short_v hki HV1.out)
    obtain ⟨s, hs⟩ : ∃ s, Hid (shortB p = s) := ⟨_, Lib.hid rfl⟩
    obtain ⟨m, hm⟩ : ∃ s, Hid (mayB p = s) := ⟨_, Lib.hid rfl⟩
    rw [hs.out] at HSH
    have HMY := Lib.hid (fun W (hW : Below w4.heap.size w4 W) => may_v hki (HV1.out.below hW))
    rw [hm.out] at HMY
    cases s
    · go_wp2_with (first
        | (refine wpList_val (by rfl) (exec_load _ _ 28 _ rfl x 0 rfl pv.toArray HLD1.out) ?_; clear HLD1)
        | (go_at_call 10; refine HSH.out.mono ?_; rintro e w5 ⟨rfl, hb5⟩; have HB5 := Lib.hid hb5; clear hb5 HSH))
      go_ret
      exact ⟨rfl, addb HI1.out.bel HB5.out⟩
    cases m
    · go_wp2_with (first
        | (refine wpList_val (by rfl) (exec_load _ _ 28 _ rfl x 0 rfl pv.toArray HLD1.out) ?_; clear HLD1)
        | (refine wpList_val (by rfl) (exec_load _ _ 28 _ rfl x 0 rfl pv.toArray HLD5.out) ?_; clear HLD5)
        | (go_at_call 10; refine HSH.out.mono ?_; rintro e w5 ⟨rfl, hb5⟩; have HB5 := Lib.hid hb5; have HLD5 := Lib.hid (load_pdu ((HB5.out.block _ hxl).trans HX1.out) hpz); have HMZ := Lib.hid (HMY.out _ hb5); clear hb5 HSH)
        | (go_at_call 13; refine HMZ.out.mono ?_; rintro e w6 ⟨rfl, hb6⟩; have HB6 := Lib.hid (addb HB5.out hb6); clear hb6 HMZ))
      go_ret
      exact ⟨rfl, addb HI1.out.bel HB6.out⟩
    go_upto_region 12 with (first
      | (refine wpList_val (by rfl) (exec_load _ _ 28 _ rfl x 0 rfl pv.toArray HLD1.out) ?_; clear HLD1)
      | (refine wpList_val (by rfl) (exec_load _ _ 28 _ rfl x 0 rfl pv.toArray HLD5.out) ?_; clear HLD5)
      | (go_at_call 10; refine HSH.out.mono ?_; rintro e w5 ⟨rfl, hb5⟩; have HB5 := Lib.hid hb5; have HLD5 := Lib.hid (load_pdu ((HB5.out.block _ hxl).trans HX1.out) hpz); have HMZ := Lib.hid (HMY.out _ hb5); clear hb5 HSH)
      | (go_at_call 13; refine HMZ.out.mono ?_; rintro e w6 ⟨rfl, hb6⟩; have HB6 := Lib.hid (addb HB5.out hb6); clear hb6 HMZ))
    have HI6 := Lib.hid (HI1.out.below HB6.out)
    have HV6 := Lib.hid (HV1.out.below HB6.out)
    have HLD6 := Lib.hid (load_pdu ((HB6.out.block _ hxl).trans HX1.out) hpz)
    have HEN := Lib.hid (enc_v hki HV6.out h d)
    obtain ⟨E, hE⟩ : ∃ E, Hid (encB p h d = E) := ⟨_, Lib.hid rfl⟩
    obtain ⟨N, hN⟩ : ∃ n, Hid (E.length = n) := ⟨_, Lib.hid rfl⟩
    rw [hE.out] at HEN
    have hbig : ¬ 9223372036854775807 < (strB (encs (l.take i) h d)).size + (strB E).size := by
      have h1 := HM.out
      rw [hM.out] at h1
      have h2 := encs_few (l := l.take i) (fun q hq => by
        obtain ⟨j, hj, rfl⟩ := List.getElem_of_mem hq
        rw [List.getElem_take]
        have hj' : j < i := by rw [List.length_take] at hj; omega
        exact h1 j _ hj' (List.getElem?_eq_getElem _)) h d
      have h3 := (enc_few hm.out h d).2
      rw [hE.out] at h3
      rw [List.length_take] at h2
      rw [strB_size, strB_size]
      omega
    clear HI1 HV1 HX1 HB5 HB6 HMY
    go_upto_region 13 with (first
      | (refine wpList_val (by rfl) (exec_load _ _ 28 _ rfl x 0 rfl pv.toArray HLD6.out) ?_; clear HLD6)
      | (go_at_call 11; refine HEN.out.mono ?_; rintro e w7 ⟨v7, rfl, hO7⟩; obtain ⟨bp, cp, rfl, hB7⟩ := hO7.bytes; have HB7 := Lib.hid hO7.below; rw [hN.out] at hB7; rw [hN.out]; have hst := hB7.str; clear hO7 hB7 HEN))
    clear hst
    have HI7 := Lib.hid (HI6.out.below HB7.out)
    clear HI6 HV6 HB7
    go_wp2
    clear hbig
    go_roundg (n - (i + 1))
    case measure => omega
    case rel =>
      refine ⟨i + 1, rfl, by omega, by go_num, ?_, ?_, HI7.out⟩
      · rw [strB_append, take_next l i hil, encs_snoc, hp.out, hE.out]
      · have h1 := HM.out
        rw [hM.out] at h1 ⊢
        intro j q hj hq
        by_cases hji : j = i
        · subst hji
          rw [List.getElem?_eq_getElem hil, hp.out] at hq
          obtain rfl := Option.some.inj hq
          exact hm.out
        · exact h1 j q (by omega) hq
theorem pduBack_any (A : Option Addr) (n cap : Nat) (l : List P) (hl : l.length = n) (hok : ∀ p ∈ l, p.Ok) (h d : Bool) (w : World) (hr : PdR w.heap.size w A l) :
    Calls Try.prog 5 #[.slice A n cap, .bool h, .bool d] w (TrueP w) := by
  rcases Nat.lt_or_ge 30 n with hn | hn
  · exact pduBack_long A n cap hn h d w
  · exact pduBack_ok A n cap l hl hn hok h d w hr
end Go.Proofs.Ytakejggofghblaa
