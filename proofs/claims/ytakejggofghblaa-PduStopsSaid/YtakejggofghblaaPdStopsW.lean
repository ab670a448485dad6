/-
  PduStops: the walk.
-/
import Derived.Test.YtakejggofghblaaPdBackW
set_option linter.unusedSimpArgs false
set_option linter.unusedVariables false
namespace Go.Proofs.Ytakejggofghblaa
open Go.RowKit Sh Cr Pd

theorem RS.shrink {g : Nat} {l : List UInt8} {k : Bool} {W : World} (h : RS g l k W) : ∃ F : Nat → Prop, RdAt 36 F g l k W ∧ ∀ j, F j → g ≤ j ∧ j < W.heap.size := by
  obtain ⟨F, ⟨hF, v, hg, hw⟩, hge⟩ := h
  refine ⟨fun j => F j ∧ j < W.heap.size, ⟨⟨hF, (Array.getElem?_eq_some_iff.1 hg).1⟩, v, hg, ?_⟩, fun j hj => ⟨hge j hj.1, hj.2⟩⟩
  rcases hw with h0 | ⟨b, off, cap, cur, h1, h2, h3, h4⟩
  · exact .inl h0
  · exact .inr ⟨b, off, cap, cur, h1, ⟨h2, (Array.getElem?_eq_some_iff.1 h3).1⟩, h3, h4⟩
/-- Next, behind a block of the law's own: the block is left as it is. -/
theorem RS.next_new {g : Nat} {l : List UInt8} {k : Bool} {W : World} (h : RS g l k W) (ob : Obj) (hh d : Bool) :
    Calls Try.prog 16 #[.pointer (some ⟨g, 0, none⟩), .bool hh, .bool d] (W.alloc ob) (fun e w' => RsNextP g (nextB l k hh d) (W.alloc ob) e w' ∧ w'.heap[W.heap.size]? = (W.alloc ob).heap[W.heap.size]?) := by
  obtain ⟨F, h1, h2⟩ := h.shrink
  have hl := h1.lt
  have h3 := h1.below ((Below.refl _ W).alloc (Nat.le_refl _) ob)
  refine (next_any h3).mono fun e w' ⟨cs, e1, e2, e3, e4⟩ => ⟨⟨cs, e1, e2, ⟨F, e3, fun j hj => (h2 j hj).1⟩, e4.below (by rw [World.size_alloc]; omega) (fun j hj => (h2 j hj).1)⟩, ?_⟩
  exact e4.block _ (by rw [World.size_alloc]; omega) (fun hj => by have := (h2 _ hj).2; omega)
structure BkJ (w : World) (A : Option Addr) (l : List P) (g : Nat) (B : List UInt8) (kb : Bool) (W : World) : Prop where
  rd : RS g B kb W
  row : PdR w.heap.size W A l
  bel : Below w.heap.size w W
theorem BkJ.below {w W W' : World} {A : Option Addr} {l : List P} {g : Nat} {B : List UInt8} {kb : Bool} (h : BkJ w A l g B kb W) (hb : Below W.heap.size W W') : BkJ w A l g B kb W' :=
  ⟨h.rd.below hb, h.row.below (hb.mono h.bel.size), addb h.bel hb⟩
theorem builtZ14 : Try.prog.built 28 [] = some zP := by kernel_rfl
theorem BkJ.drew {w W : World} {A : Option Addr} {l : List P} {g : Nat} {B : List UInt8} {kb : Bool} (h : BkJ w A l g B kb W) : BkJ w A l g B kb W.drew := h.below (Below.refl _ W).drew
theorem one_bytes (w : World) (c : UInt8) : Bytes (w.alloc (.cells #[.int .u8 (bz c)] 5)).heap.size (w.alloc (.cells #[.int .u8 (bz c)] 5)) (some ⟨w.heap.size, 0, none⟩) 1 1 [c] :=
  ⟨rfl, by omega, by unfold maxLen; omega, .inr ⟨w.heap.size, 0, rfl, by simp, fun j hj => by
    rw [cell_of_row _ w.heap.size _ _ _ _ (heap_alloc_new w _)]
    obtain rfl : j = 0 := by omega
    rfl⟩⟩
theorem z47_bytes (w : World) : Bytes (w.alloc (.cells ((List.replicate 47 (0 : UInt8)).map cu8).toArray 5)).heap.size (w.alloc (.cells ((List.replicate 47 (0 : UInt8)).map cu8).toArray 5)) (some ⟨w.heap.size, 0, none⟩) 47 47 (List.replicate 47 0) := by
  have h := row_bytes (l := List.replicate 47 (0 : UInt8)) (t := 5) (heap_alloc_new w (.cells ((List.replicate 47 (0 : UInt8)).map cu8).toArray 5)) (by unfold maxLen; decide)
  rw [List.length_replicate] at h
  exact h
set_option maxRecDepth 100000 in
theorem or128 (c : UInt8) : bits .or .u8 (bz c) 128 = bz (c ||| 128) := by
  have h : ∀ n : Fin 256, bits .or .u8 (n.1 : Int) 128 = bz (UInt8.ofNat n.1 ||| 128) := by decide
  have := h ⟨c.toNat, c.toNat_lt⟩
  rwa [UInt8.ofNat_toNat] at this
set_option maxRecDepth 100000 in
theorem or128_hi (c : UInt8) : 128 ≤ (c ||| 128).toNat := by
  have h : ∀ n : Fin 256, 128 ≤ (UInt8.ofNat n.1 ||| 128).toNat := by decide
  have := h ⟨c.toNat, c.toNat_lt⟩
  rwa [UInt8.ofNat_toNat] at this
theorem next_break (c : UInt8) (T : List UInt8) (hc : 128 ≤ c.toNat) (hT : 47 ≤ T.length) (h d : Bool) : nextB (c :: T) false h d = (({}, 3), ([], true)) := by
  have e : firstB (c :: T) h d = ({}, 3, 0) := by
    unfold firstB
    rw [if_neg (by simp; omega), if_pos]
    have : ¬ at0 (c :: T) 0 < 128 := by show ¬ c.toNat < 128; omega
    unfold soundB
    rw [decide_eq_false this]; rfl
  unfold nextB
  rw [e]; rfl
set_option maxRecDepth 100000 in
theorem pduStops_long (A : Option Addr) (n cap : Nat) (bad : UInt8) (rest : List UInt8) (hn : 10 < n ∨ n ≤ 10 ∧ 2000 < rest.length) (w : World) :
    Calls Try.prog 8 #[.slice A n cap, .int .u8 (bz bad), .string (strB rest)] w (TrueP w) := by
  have HST := Lib.hid (stands_any w)
  have hz := strB_size rest
  rcases hn with hn | ⟨hn, hr⟩
  · have g3 : (10 : Int) < (n : Int) := by omega
    clear hn
    go_enter Try.func8, Try.ntmps8
    go_wp2_with (go_at_call 9; refine HST.out.mono ?_; rintro e w2 ⟨rfl, hb2⟩; have HB2 := Lib.hid hb2; clear hb2 HST)
    go_ret
    exact ⟨rfl, HB2.out⟩
  · have g3 : ¬ (10 : Int) < (n : Int) := by omega
    have g4 : (2000 : Int) < (rest.length : Int) := by omega
    clear hn hr
    go_enter Try.func8, Try.ntmps8
    go_wp2_with (go_at_call 9; refine HST.out.mono ?_; rintro e w2 ⟨rfl, hb2⟩; have HB2 := Lib.hid hb2; clear hb2 HST)
    go_ret
    exact ⟨rfl, HB2.out⟩
set_option maxRecDepth 100000 in
set_option maxHeartbeats 32000000 in
theorem pduStops_ok (A : Option Addr) (n cap : Nat) (l : List P) (hl : l.length = n) (hn : n ≤ 10) (hok : ∀ p ∈ l, p.Ok) (bad : UInt8) (rest : List UInt8) (hre : rest.length ≤ 2000) (w : World) (hr : PdR w.heap.size w A l) :
    Calls Try.prog 8 #[.slice A n cap, .int .u8 (bz bad), .string (strB rest)] w (TrueP w) := by
  have g3 : ¬ (10 : Int) < (n : Int) := by omega
  have hz := strB_size rest
  have g4 : ¬ (2000 : Int) < (rest.length : Int) := by omega
  have HR := Lib.hid hr
  have HL := Lib.hid hl
  have HOK := Lib.hid hok
  clear hr hl hok
  have HST := Lib.hid (stands_any w)
  have hbR := builtR
  go_enter Try.func8, Try.ntmps8
  go_upto_region 5 with (go_at_call 9; refine HST.out.mono ?_; rintro e w2 ⟨rfl, hb2⟩; have HB2 := Lib.hid hb2; clear hb2 HST)
  clear g3 g4 hz
  have HI2 : Hid (BkJ w A l w2.heap.size [] false (w2.alloc (.cells #[.slice none 0 0, .bool false] 36))) := Lib.hid (by
    have hb := (Below.refl w2.heap.size w2).alloc (Nat.le_refl _) (.cells #[.slice none 0 0, .bool false] 36)
    exact ⟨RS.new w2, HR.out.below (addb HB2.out hb), addb HB2.out hb⟩)
  go_upto_region 6 with (fail)
  obtain ⟨g, hg⟩ : ∃ g, Hid (w2.heap.size = g) := ⟨_, Lib.hid rfl⟩
  have hgw : w.heap.size ≤ g := by rw [← hg.out]; exact HB2.out.size
  rw [hg.out] at HI2 ⊢
  generalize w2.alloc (.cells #[.slice none 0 0, .bool false] 36) = w3 at HI2 ⊢
  clear HB2 HR hg
  obtain ⟨M, hM⟩ : ∃ M : Nat → Prop, Hid (M = fun i => ∀ (j : Nat) (p : P), j < i → l[j]? = some p → mayB p = true) := ⟨_, Lib.hid rfl⟩
  have hM0 : Hid (M 0) := Lib.hid (by rw [hM.out]; intro j p hj; omega)
  have HX : Hid (∀ W i B (hi : i < l.length), BkJ w A l g B false W → ∃ b o pv, A = some ⟨b, o, none⟩ ∧ PduV W l[i] pv.toArray ∧ W.rangeAt b (o + i * 16) pv) := Lib.hid (fun W i B hi hI => by
    obtain ⟨b, o, pv, e1, e2, e3, e4⟩ := hI.row.at hi
    exact ⟨b, o, pv, e1, e3.v hI.bel.size, e4⟩)
  go_wp2
  go_loopg [30] n (fun m v wr => ∃ i : Nat, m = n - i ∧ i ≤ n ∧ v = .int .i64 i ∧ M i ∧ BkJ w A l g (encs (l.take i) false false) false wr)
  case atStart => exact ⟨0, rfl, by omega, rfl, hM0.out, HI2.out⟩
  case round =>
    clear HI2 hM0
    obtain ⟨i, rfl, hin, rfl, hMi, hI⟩ := hrel
    by_cases hlt : i < n
    case neg =>
      have hlt' : ¬ ((i : Int) < (n : Int)) := by omega
      obtain rfl : i = n := by omega
      have hall : ∀ p ∈ l, mayB p = true := fun p hp => by
        rw [hM.out] at hMi
        obtain ⟨j, hj, rfl⟩ := List.getElem_of_mem hp
        exact hMi j _ (by have := HL.out; omega) (List.getElem?_eq_getElem hj)
      have HALL := Lib.hid hall
      have HSL := encs_few hall false false
      have hx : encs (l.take i) false false = encs l false false := by rw [List.take_of_length_le (by rw [HL.out]; exact Nat.le_refl _)]
      rw [hx] at hI
      clear hx hMi hall hlt hlt'
      have HI := Lib.hid hI
      clear hI hM
      rw [HL.out] at HSL
      go_upto_region 13 with (fail)
      obtain ⟨D, hD⟩ : ∃ D, Hid (encs l false false = D) := ⟨_, Lib.hid rfl⟩
      rw [hD.out] at HI HSL
      obtain ⟨Z, hZ⟩ : ∃ Z, Hid (List.replicate 47 (0 : UInt8) = Z) := ⟨_, Lib.hid rfl⟩
      obtain ⟨zc, hzc⟩ : ∃ zc : Array Value, Hid (((List.replicate 47 (0 : UInt8)).map cu8).toArray = zc) := ⟨_, Lib.hid rfl⟩
      have HMK : Hid (∀ W : World, (Instr.makeSlice 23 (.int .i64 47) (.int .i64 47)).run Try.prog W = .ok (.slice (some ⟨W.heap.size, 0, none⟩) 47 47) (W.alloc (.cells zc 5))) := Lib.hid (fun W => by rw [← hzc.out]; exact made47 W)
      have HZB : Hid (∀ W : World, Bytes (W.alloc (.cells zc 5)).heap.size (W.alloc (.cells zc 5)) (some ⟨W.heap.size, 0, none⟩) 47 47 (List.replicate 47 0)) := Lib.hid (fun W => by rw [← hzc.out]; exact z47_bytes W)
      obtain ⟨bd, hbd⟩ : ∃ c, Hid (bad ||| 128 = c) := ⟨_, Lib.hid rfl⟩
      have hor : bits .or .u8 (bz bad) 128 = bz bd := by rw [← hbd.out]; exact or128 bad
      have hz7 : ¬ 9223372036854775807 < (strB [bd]).size + (strB Z).size := by rw [strB_size, strB_size, ← hZ.out]; simp
      have hz9 : (strB [bd]).size + (strB Z).size + (strB rest).size ≤ 9223372036854775807 := by rw [strB_size, strB_size, strB_size, ← hZ.out, List.length_replicate, List.length_singleton]; omega
      have HFD : Hid (∀ W, BkJ w A l g D false W → Calls Try.prog 15 #[.pointer (some ⟨g, 0, none⟩), .string (strB [bd] ++ strB Z ++ strB rest)] W fun e W' => e = .returned (.tuple #[]) ∧ BkJ w A l g (D ++ (bd :: (Z ++ rest))) false W') := Lib.hid (fun W hW => by
        have e : strB [bd] ++ strB Z ++ strB rest = strB (bd :: (Z ++ rest)) := by rw [strB_append, strB_append]; rfl
        rw [e]
        refine (hW.rd.feed (bd :: (Z ++ rest)) (by simp only [List.length_cons, List.length_append, ← hZ.out, List.length_replicate]; omega)).mono fun e W' ⟨h1, h2, h3⟩ => ⟨h1, h2, hW.row.below (h3.mono hgw), hW.bel.trans (h3.mono hgw)⟩)
      go_cut [58] (fun s58 wd => Hid (BkJ w A l g (D ++ (bd :: (Z ++ rest))) false wd))
      case first =>
        -- MARK A
          refine wp_region_held (S := fun _ => True) (by kernel_rfl) ?_
          change wpAnyH _ _ _ _ _ _ _ _ (World.drew _)
          have hS0 := HI.out.drew
          clear HI
          generalize wr.drew = wq0 at hS0 ⊢
          refine wpAnyH_take (i := 0) (v := .pointer (some ⟨g, 0, none⟩)) rfl (by kernel_rfl) (by kernel_rfl) (by kernel_rfl) (fun _ _ _ h => h) (Or.inl ⟨by rfl, ?_⟩) trivial ?_
          · intro w hw; go_simp
          try simp only [List.getElem_toArray, List.getElem_cons_succ, List.getElem_cons_zero, Act.put, List.setIfInBounds_toArray, List.set]
          refine wpAnyH_take (i := 1) (v := .int .u8 (bz bad)) rfl (by kernel_rfl) (by kernel_rfl) (by kernel_rfl) (fun _ _ _ h => h) (Or.inl ⟨by rfl, ?_⟩) trivial ?_
          · intro w hw; go_simp
          try simp only [List.getElem_toArray, List.getElem_cons_succ, List.getElem_cons_zero, Act.put, List.setIfInBounds_toArray, List.set]
          refine wpAnyH_take (i := 2) (v := .int .u8 (bz bd)) rfl (by kernel_rfl) (by kernel_rfl) (by kernel_rfl) (fun _ _ _ h => h) (Or.inl ⟨by rfl, ?_⟩) trivial ?_
          · intro w hw; go_simp
          try simp only [List.getElem_toArray, List.getElem_cons_succ, List.getElem_cons_zero, Act.put, List.setIfInBounds_toArray, List.set]
          refine wpAnyH_take (i := 8) (v := .string (strB rest)) rfl (by kernel_rfl) (by kernel_rfl) (by kernel_rfl) (fun _ _ _ h => h) (Or.inl ⟨by rfl, ?_⟩) trivial ?_
          · intro w hw; go_simp
          try simp only [List.getElem_toArray, List.getElem_cons_succ, List.getElem_cons_zero, Act.put, List.setIfInBounds_toArray, List.set]
          refine wpAnyH_two 3 5 _ _ rfl rfl (by kernel_rfl) (by rfl) (by rfl) (fun K hK => ?_) (fun K hK => ?_)
          · skip
            go_simp
            have hb1 : Below wq0.heap.size wq0 (wq0.alloc (.cells #[.int .u8 (bz bd)] 5)) := (Below.refl _ _).alloc (Nat.le_refl _) _
            have hS1 := hS0.below hb1
            have b3_1 := Lib.hid (one_bytes wq0 bd)
            refine hK _ _ trivial ?_
            clear hK K
            try simp only [List.getElem_toArray, List.getElem_cons_succ, List.getElem_cons_zero, Act.put, List.setIfInBounds_toArray, List.set]
            generalize wq0.alloc (.cells #[.int .u8 (bz bd)] 5) = wq1 at hS1 b3_1 ⊢
            refine wpAnyH_two 4 5 _ _ rfl rfl (by kernel_rfl) (by rfl) (by rfl) (fun K hK => ?_) (fun K hK => ?_)
            · skip
              have hst := b3_1.out.str
              go_simp
              clear hst
              refine hK _ _ trivial ?_
              clear hK K
              try simp only [List.getElem_toArray, List.getElem_cons_succ, List.getElem_cons_zero, Act.put, List.setIfInBounds_toArray, List.set]
              refine wpAnyH_one 5 _ rfl (by kernel_rfl) (by rfl) (fun K hK => ?_)
              have hmk := HMK.out wq1
              go_simp
              clear hmk
              have hb2 : Below wq1.heap.size wq1 (wq1.alloc (.cells zc 5)) := (Below.refl _ _).alloc (Nat.le_refl _) _
              have hS2 := hS1.below hb2
              have b3_2 := Lib.hid ((b3_1.out.below hb2).mono hb2.size)
              have b5_2 := Lib.hid (HZB.out wq1)
              refine hK _ _ trivial ?_
              clear hK K
              try simp only [List.getElem_toArray, List.getElem_cons_succ, List.getElem_cons_zero, Act.put, List.setIfInBounds_toArray, List.set]
              generalize wq1.alloc (.cells zc 5) = wq2 at hS2 b3_2 b5_2 ⊢
              refine wpAnyH_one 6 _ rfl (by kernel_rfl) (by rfl) (fun K hK => ?_)
              have hst := b5_2.out.str
              rw [hZ.out] at hst
              go_simp
              clear hst
              refine hK _ _ trivial ?_
              clear hK K
              try simp only [List.getElem_toArray, List.getElem_cons_succ, List.getElem_cons_zero, Act.put, List.setIfInBounds_toArray, List.set]
              refine wpAnyH_take (i := 7) (v := .string (strB [bd] ++ strB Z)) rfl (by kernel_rfl) (by kernel_rfl) (by kernel_rfl) (fun _ _ _ h => h) (Or.inl ⟨by rfl, ?_⟩) trivial ?_
              · intro w hw; go_simp
              try simp only [List.getElem_toArray, List.getElem_cons_succ, List.getElem_cons_zero, Act.put, List.setIfInBounds_toArray, List.set]
              refine wpAnyH_take (i := 9) (v := .string (strB [bd] ++ strB Z ++ strB rest)) rfl (by kernel_rfl) (by kernel_rfl) (by kernel_rfl) (fun _ _ _ h => h) (Or.inl ⟨by rfl, ?_⟩) trivial ?_
              · intro w hw; go_simp
              try simp only [List.getElem_toArray, List.getElem_cons_succ, List.getElem_cons_zero, Act.put, List.setIfInBounds_toArray, List.set]
              refine wpAnyH_one 10 _ rfl (by kernel_rfl) (by rfl) (fun K hK => ?_)
              go_simp
              refine (HFD.out _ hS2).mono ?_
              rintro e wz ⟨rfl, hzz⟩
              refine hK _ _ trivial ?_
              clear hK K
              try simp only [List.getElem_toArray, List.getElem_cons_succ, List.getElem_cons_zero, Act.put, List.setIfInBounds_toArray, List.set]
              refine wpAnyH_done (by kernel_rfl) ?_ _
              rename_i hmt
              refine hmt _ _ ?_
              go_meet
              exact Lib.hid hzz
            · skip
              have hmk := HMK.out wq1
              go_simp
              clear hmk
              have hb2 : Below wq1.heap.size wq1 (wq1.alloc (.cells zc 5)) := (Below.refl _ _).alloc (Nat.le_refl _) _
              have hS2 := hS1.below hb2
              have b3_2 := Lib.hid ((b3_1.out.below hb2).mono hb2.size)
              have b5_2 := Lib.hid (HZB.out wq1)
              refine hK _ _ trivial ?_
              clear hK K
              try simp only [List.getElem_toArray, List.getElem_cons_succ, List.getElem_cons_zero, Act.put, List.setIfInBounds_toArray, List.set]
              generalize wq1.alloc (.cells zc 5) = wq2 at hS2 b3_2 b5_2 ⊢
              refine wpAnyH_two 4 6 _ _ rfl rfl (by kernel_rfl) (by rfl) (by rfl) (fun K hK => ?_) (fun K hK => ?_)
              · skip
                have hst := b3_2.out.str
                go_simp
                clear hst
                refine hK _ _ trivial ?_
                clear hK K
                try simp only [List.getElem_toArray, List.getElem_cons_succ, List.getElem_cons_zero, Act.put, List.setIfInBounds_toArray, List.set]
                refine wpAnyH_one 6 _ rfl (by kernel_rfl) (by rfl) (fun K hK => ?_)
                have hst := b5_2.out.str
                rw [hZ.out] at hst
                go_simp
                clear hst
                refine hK _ _ trivial ?_
                clear hK K
                try simp only [List.getElem_toArray, List.getElem_cons_succ, List.getElem_cons_zero, Act.put, List.setIfInBounds_toArray, List.set]
                refine wpAnyH_take (i := 7) (v := .string (strB [bd] ++ strB Z)) rfl (by kernel_rfl) (by kernel_rfl) (by kernel_rfl) (fun _ _ _ h => h) (Or.inl ⟨by rfl, ?_⟩) trivial ?_
                · intro w hw; go_simp
                try simp only [List.getElem_toArray, List.getElem_cons_succ, List.getElem_cons_zero, Act.put, List.setIfInBounds_toArray, List.set]
                refine wpAnyH_take (i := 9) (v := .string (strB [bd] ++ strB Z ++ strB rest)) rfl (by kernel_rfl) (by kernel_rfl) (by kernel_rfl) (fun _ _ _ h => h) (Or.inl ⟨by rfl, ?_⟩) trivial ?_
                · intro w hw; go_simp
                try simp only [List.getElem_toArray, List.getElem_cons_succ, List.getElem_cons_zero, Act.put, List.setIfInBounds_toArray, List.set]
                refine wpAnyH_one 10 _ rfl (by kernel_rfl) (by rfl) (fun K hK => ?_)
                go_simp
                refine (HFD.out _ hS2).mono ?_
                rintro e wz ⟨rfl, hzz⟩
                refine hK _ _ trivial ?_
                clear hK K
                try simp only [List.getElem_toArray, List.getElem_cons_succ, List.getElem_cons_zero, Act.put, List.setIfInBounds_toArray, List.set]
                refine wpAnyH_done (by kernel_rfl) ?_ _
                rename_i hmt
                refine hmt _ _ ?_
                go_meet
                exact Lib.hid hzz
              · skip
                have hst := b5_2.out.str
                rw [hZ.out] at hst
                go_simp
                clear hst
                refine hK _ _ trivial ?_
                clear hK K
                try simp only [List.getElem_toArray, List.getElem_cons_succ, List.getElem_cons_zero, Act.put, List.setIfInBounds_toArray, List.set]
                refine wpAnyH_one 4 _ rfl (by kernel_rfl) (by rfl) (fun K hK => ?_)
                have hst := b3_2.out.str
                go_simp
                clear hst
                refine hK _ _ trivial ?_
                clear hK K
                try simp only [List.getElem_toArray, List.getElem_cons_succ, List.getElem_cons_zero, Act.put, List.setIfInBounds_toArray, List.set]
                refine wpAnyH_take (i := 7) (v := .string (strB [bd] ++ strB Z)) rfl (by kernel_rfl) (by kernel_rfl) (by kernel_rfl) (fun _ _ _ h => h) (Or.inl ⟨by rfl, ?_⟩) trivial ?_
                · intro w hw; go_simp
                try simp only [List.getElem_toArray, List.getElem_cons_succ, List.getElem_cons_zero, Act.put, List.setIfInBounds_toArray, List.set]
                refine wpAnyH_take (i := 9) (v := .string (strB [bd] ++ strB Z ++ strB rest)) rfl (by kernel_rfl) (by kernel_rfl) (by kernel_rfl) (fun _ _ _ h => h) (Or.inl ⟨by rfl, ?_⟩) trivial ?_
                · intro w hw; go_simp
                try simp only [List.getElem_toArray, List.getElem_cons_succ, List.getElem_cons_zero, Act.put, List.setIfInBounds_toArray, List.set]
                refine wpAnyH_one 10 _ rfl (by kernel_rfl) (by rfl) (fun K hK => ?_)
                go_simp
                refine (HFD.out _ hS2).mono ?_
                rintro e wz ⟨rfl, hzz⟩
                refine hK _ _ trivial ?_
                clear hK K
                try simp only [List.getElem_toArray, List.getElem_cons_succ, List.getElem_cons_zero, Act.put, List.setIfInBounds_toArray, List.set]
                refine wpAnyH_done (by kernel_rfl) ?_ _
                rename_i hmt
                refine hmt _ _ ?_
                go_meet
                exact Lib.hid hzz
          · skip
            have hmk := HMK.out wq0
            go_simp
            clear hmk
            have hb1 : Below wq0.heap.size wq0 (wq0.alloc (.cells zc 5)) := (Below.refl _ _).alloc (Nat.le_refl _) _
            have hS1 := hS0.below hb1
            have b5_1 := Lib.hid (HZB.out wq0)
            refine hK _ _ trivial ?_
            clear hK K
            try simp only [List.getElem_toArray, List.getElem_cons_succ, List.getElem_cons_zero, Act.put, List.setIfInBounds_toArray, List.set]
            generalize wq0.alloc (.cells zc 5) = wq1 at hS1 b5_1 ⊢
            refine wpAnyH_two 3 6 _ _ rfl rfl (by kernel_rfl) (by rfl) (by rfl) (fun K hK => ?_) (fun K hK => ?_)
            · skip
              go_simp
              have hb2 : Below wq1.heap.size wq1 (wq1.alloc (.cells #[.int .u8 (bz bd)] 5)) := (Below.refl _ _).alloc (Nat.le_refl _) _
              have hS2 := hS1.below hb2
              have b5_2 := Lib.hid ((b5_1.out.below hb2).mono hb2.size)
              have b3_2 := Lib.hid (one_bytes wq1 bd)
              refine hK _ _ trivial ?_
              clear hK K
              try simp only [List.getElem_toArray, List.getElem_cons_succ, List.getElem_cons_zero, Act.put, List.setIfInBounds_toArray, List.set]
              generalize wq1.alloc (.cells #[.int .u8 (bz bd)] 5) = wq2 at hS2 b5_2 b3_2 ⊢
              refine wpAnyH_two 4 6 _ _ rfl rfl (by kernel_rfl) (by rfl) (by rfl) (fun K hK => ?_) (fun K hK => ?_)
              · skip
                have hst := b3_2.out.str
                go_simp
                clear hst
                refine hK _ _ trivial ?_
                clear hK K
                try simp only [List.getElem_toArray, List.getElem_cons_succ, List.getElem_cons_zero, Act.put, List.setIfInBounds_toArray, List.set]
                refine wpAnyH_one 6 _ rfl (by kernel_rfl) (by rfl) (fun K hK => ?_)
                have hst := b5_2.out.str
                rw [hZ.out] at hst
                go_simp
                clear hst
                refine hK _ _ trivial ?_
                clear hK K
                try simp only [List.getElem_toArray, List.getElem_cons_succ, List.getElem_cons_zero, Act.put, List.setIfInBounds_toArray, List.set]
                refine wpAnyH_take (i := 7) (v := .string (strB [bd] ++ strB Z)) rfl (by kernel_rfl) (by kernel_rfl) (by kernel_rfl) (fun _ _ _ h => h) (Or.inl ⟨by rfl, ?_⟩) trivial ?_
                · intro w hw; go_simp
                try simp only [List.getElem_toArray, List.getElem_cons_succ, List.getElem_cons_zero, Act.put, List.setIfInBounds_toArray, List.set]
                refine wpAnyH_take (i := 9) (v := .string (strB [bd] ++ strB Z ++ strB rest)) rfl (by kernel_rfl) (by kernel_rfl) (by kernel_rfl) (fun _ _ _ h => h) (Or.inl ⟨by rfl, ?_⟩) trivial ?_
                · intro w hw; go_simp
                try simp only [List.getElem_toArray, List.getElem_cons_succ, List.getElem_cons_zero, Act.put, List.setIfInBounds_toArray, List.set]
                refine wpAnyH_one 10 _ rfl (by kernel_rfl) (by rfl) (fun K hK => ?_)
                go_simp
                refine (HFD.out _ hS2).mono ?_
                rintro e wz ⟨rfl, hzz⟩
                refine hK _ _ trivial ?_
                clear hK K
                try simp only [List.getElem_toArray, List.getElem_cons_succ, List.getElem_cons_zero, Act.put, List.setIfInBounds_toArray, List.set]
                refine wpAnyH_done (by kernel_rfl) ?_ _
                rename_i hmt
                refine hmt _ _ ?_
                go_meet
                exact Lib.hid hzz
              · skip
                have hst := b5_2.out.str
                rw [hZ.out] at hst
                go_simp
                clear hst
                refine hK _ _ trivial ?_
                clear hK K
                try simp only [List.getElem_toArray, List.getElem_cons_succ, List.getElem_cons_zero, Act.put, List.setIfInBounds_toArray, List.set]
                refine wpAnyH_one 4 _ rfl (by kernel_rfl) (by rfl) (fun K hK => ?_)
                have hst := b3_2.out.str
                go_simp
                clear hst
                refine hK _ _ trivial ?_
                clear hK K
                try simp only [List.getElem_toArray, List.getElem_cons_succ, List.getElem_cons_zero, Act.put, List.setIfInBounds_toArray, List.set]
                refine wpAnyH_take (i := 7) (v := .string (strB [bd] ++ strB Z)) rfl (by kernel_rfl) (by kernel_rfl) (by kernel_rfl) (fun _ _ _ h => h) (Or.inl ⟨by rfl, ?_⟩) trivial ?_
                · intro w hw; go_simp
                try simp only [List.getElem_toArray, List.getElem_cons_succ, List.getElem_cons_zero, Act.put, List.setIfInBounds_toArray, List.set]
                refine wpAnyH_take (i := 9) (v := .string (strB [bd] ++ strB Z ++ strB rest)) rfl (by kernel_rfl) (by kernel_rfl) (by kernel_rfl) (fun _ _ _ h => h) (Or.inl ⟨by rfl, ?_⟩) trivial ?_
                · intro w hw; go_simp
                try simp only [List.getElem_toArray, List.getElem_cons_succ, List.getElem_cons_zero, Act.put, List.setIfInBounds_toArray, List.set]
                refine wpAnyH_one 10 _ rfl (by kernel_rfl) (by rfl) (fun K hK => ?_)
                go_simp
                refine (HFD.out _ hS2).mono ?_
                rintro e wz ⟨rfl, hzz⟩
                refine hK _ _ trivial ?_
                clear hK K
                try simp only [List.getElem_toArray, List.getElem_cons_succ, List.getElem_cons_zero, Act.put, List.setIfInBounds_toArray, List.set]
                refine wpAnyH_done (by kernel_rfl) ?_ _
                rename_i hmt
                refine hmt _ _ ?_
                go_meet
                exact Lib.hid hzz
            · skip
              have hst := b5_1.out.str
              rw [hZ.out] at hst
              go_simp
              clear hst
              refine hK _ _ trivial ?_
              clear hK K
              try simp only [List.getElem_toArray, List.getElem_cons_succ, List.getElem_cons_zero, Act.put, List.setIfInBounds_toArray, List.set]
              refine wpAnyH_one 3 _ rfl (by kernel_rfl) (by rfl) (fun K hK => ?_)
              go_simp
              have hb2 : Below wq1.heap.size wq1 (wq1.alloc (.cells #[.int .u8 (bz bd)] 5)) := (Below.refl _ _).alloc (Nat.le_refl _) _
              have hS2 := hS1.below hb2
              have b5_2 := Lib.hid ((b5_1.out.below hb2).mono hb2.size)
              have b3_2 := Lib.hid (one_bytes wq1 bd)
              refine hK _ _ trivial ?_
              clear hK K
              try simp only [List.getElem_toArray, List.getElem_cons_succ, List.getElem_cons_zero, Act.put, List.setIfInBounds_toArray, List.set]
              generalize wq1.alloc (.cells #[.int .u8 (bz bd)] 5) = wq2 at hS2 b5_2 b3_2 ⊢
              refine wpAnyH_one 4 _ rfl (by kernel_rfl) (by rfl) (fun K hK => ?_)
              have hst := b3_2.out.str
              go_simp
              clear hst
              refine hK _ _ trivial ?_
              clear hK K
              try simp only [List.getElem_toArray, List.getElem_cons_succ, List.getElem_cons_zero, Act.put, List.setIfInBounds_toArray, List.set]
              refine wpAnyH_take (i := 7) (v := .string (strB [bd] ++ strB Z)) rfl (by kernel_rfl) (by kernel_rfl) (by kernel_rfl) (fun _ _ _ h => h) (Or.inl ⟨by rfl, ?_⟩) trivial ?_
              · intro w hw; go_simp
              try simp only [List.getElem_toArray, List.getElem_cons_succ, List.getElem_cons_zero, Act.put, List.setIfInBounds_toArray, List.set]
              refine wpAnyH_take (i := 9) (v := .string (strB [bd] ++ strB Z ++ strB rest)) rfl (by kernel_rfl) (by kernel_rfl) (by kernel_rfl) (fun _ _ _ h => h) (Or.inl ⟨by rfl, ?_⟩) trivial ?_
              · intro w hw; go_simp
              try simp only [List.getElem_toArray, List.getElem_cons_succ, List.getElem_cons_zero, Act.put, List.setIfInBounds_toArray, List.set]
              refine wpAnyH_one 10 _ rfl (by kernel_rfl) (by rfl) (fun K hK => ?_)
              go_simp
              refine (HFD.out _ hS2).mono ?_
              rintro e wz ⟨rfl, hzz⟩
              refine hK _ _ trivial ?_
              clear hK K
              try simp only [List.getElem_toArray, List.getElem_cons_succ, List.getElem_cons_zero, Act.put, List.setIfInBounds_toArray, List.set]
              refine wpAnyH_done (by kernel_rfl) ?_ _
              rename_i hmt
              refine hmt _ _ ?_
              go_meet
              exact Lib.hid hzz
      -- MARK B
      case rest =>
        obtain ⟨T, hT⟩ : ∃ T, Hid (bd :: (Z ++ rest) = T) := ⟨_, Lib.hid rfl⟩
        rw [hT.out] at hcut
        have HNB : Hid (nextB T false false false = (({}, 3), ([], true))) := Lib.hid (by
          rw [← hT.out]
          exact next_break bd _ (by rw [← hbd.out]; exact or128_hi bad) (by rw [List.length_append, ← hZ.out, List.length_replicate]; omega) _ _)
        have HI := hcut
        clear hcut HFD hz7 hz9 hor HMK HZB
        go_wp2
        go_loopg [61] i (fun m v wr => ∃ k : Nat, m = i - k ∧ k ≤ i ∧ v = .int .i64 (k : Int) ∧ BkJ w A l g (encs (l.drop k) false false ++ T) false wr)
        case atStart => exact ⟨0, rfl, by omega, rfl, by rw [List.drop_zero, hD.out]; exact HI.out⟩
        case round =>
          clear HI
          obtain ⟨k, rfl, hki, rfl, hI⟩ := hrel
          by_cases hlt : k < i
          case neg =>
            have hlt' : ¬ ((k : Int) < (i : Int)) := by omega
            obtain rfl : k = i := by omega
            rw [List.drop_eq_nil_of_le (by rw [HL.out]; exact Nat.le_refl _), encs_nil, List.nil_append] at hI
            have HI := Lib.hid hI
            clear hI hlt
            have hbZ := builtZ14
            go_wp2
            go_loopg [79] 3 (fun m v wr => ∃ (j : Nat) (B : List UInt8) (kb : Bool), m = 3 - j ∧ j ≤ 3 ∧ v = .int .i64 (j : Int) ∧ nextB B kb false false = (({}, 3), ([], true)) ∧ BkJ w A l g B kb wr)
            case atStart => exact ⟨0, T, false, rfl, by omega, rfl, HNB.out, HI.out⟩
            case round =>
              clear HI
              obtain ⟨j, B, kb, rfl, hj, rfl, hnb, hJ⟩ := hrel
              by_cases hlt : j < 3
              case neg =>
                have hlt' : ¬ ((j : Int) < 3) := by omega
                have HB := Lib.hid hJ.bel
                clear hJ hnb
                go_wp2
                go_ret
                exact ⟨rfl, HB.out⟩
              have hlt' : (j : Int) < 3 := by omega
              have HNX := Lib.hid (hJ.rd.next false false)
              rw [hnb] at HNX
              have HJ := Lib.hid hJ
              clear hJ hnb
              go_upto_region 24 with (first
                | (go_at_call 16; refine HNX.out.mono ?_; rintro e w8 ⟨cs8, rfl, ho8, hs8, hb8⟩; have HJ8 : Hid (BkJ w A l g [] true w8) := Lib.hid ⟨hs8, HJ.out.row.below (hb8.mono hgw), HJ.out.bel.trans (hb8.mono hgw)⟩; have HV8 : Hid (PduV w8 {} cs8) := Lib.hid ho8.v; have hz8 := ho8.size; have h18 := ho8.one; clear hs8 hb8 ho8 HNX)
                | (refine wpList_alloc_arr rfl 28 rfl _ allocPdu ?_)
                | (refine wpList_store_new rfl 28 _ _ rfl _ rfl cs8 rfl rfl 28 zP (by rw [hz8.out]; exact infoPdu) (by rw [hz8.out]; rfl) h18.out ?_))
              have hb9 : Below w8.heap.size w8 (w8.alloc (.cells cs8 28)) := (Below.refl _ _).alloc (Nat.le_refl _) _
              have HJ9 := Lib.hid (HJ8.out.below hb9)
              have HV9 := Lib.hid (HV8.out.below hb9)
              have HX9 : Hid ((w8.alloc (.cells cs8 28)).heap[w8.heap.size]? = some (.cells cs8 28 (0, 0))) := Lib.hid (heap_alloc_new w8 _)
              clear hb9 HJ HJ8 HV8
              generalize w8.alloc (.cells cs8 28) = w9 at HJ9 HV9 HX9 ⊢
              generalize w8.heap.size = x at HX9 ⊢
              have HLD := load_pdu HX9.out hz8
              have HSM := Lib.hid (same_any {} cs8 zP w9 HV9.out (PduV.zero w9))
              have HLF := Lib.hid (fun W (hW : BkJ w A l g [] true W) => hW.rd.left)
              go_upto_region 26 with (first
                | (refine wpList_val (by rfl) (exec_load _ _ 28 _ rfl x 0 rfl cs8 HLD) ?_; clear HLD)
                | (go_at_call 18; refine HSM.out.mono ?_; rintro e wa ⟨rfl, hba⟩; have HJa := Lib.hid (HJ9.out.below hba); have HLG := Lib.hid (HLF.out _ HJa.out); clear hba HSM)
                | (go_at_call 19; refine HLG.out.mono ?_; rintro e wb ⟨rfl, rfl⟩; clear HLG))
              have HFD := Lib.hid (HJa.out.rd.feed rest (by rw [List.length_nil]; omega))
              clear HJ9 HV9 HX9 HLF
              go_wp2_with (go_at_call 15; refine HFD.out.mono ?_; rintro e wb ⟨rfl, hsb, hbb⟩; have HJb : Hid (BkJ w A l g [] true wb) := Lib.hid ⟨hsb, HJa.out.row.below (hbb.mono hgw), HJa.out.bel.trans (hbb.mono hgw)⟩; clear hsb hbb HFD)
              go_roundg (3 - (j + 1))
              case measure => omega
              case rel => exact ⟨j + 1, [], true, rfl, by omega, by go_num, rfl, HJb.out⟩
          have hlt' : (k : Int) < (i : Int) := by omega
          have hkl : k < l.length := by rw [HL.out]; exact hlt
          obtain ⟨b, o, pv, hA, hbl, hpn, hrg⟩ := hI.row.at hkl
          have hpv := hpn.v hI.bel.size
          subst hA
          have hpz : Hid (pv.toArray.size = 16) := hpv.size
          have hpl : Hid (pv.length = 16) := Lib.hid (by rw [← List.size_toArray]; exact hpz.out)
          have hp1 : Hid (pv.toArray.all (·.oneCell') = true) := hpv.one
          have hmk := HALL.out _ (List.getElem_mem hkl)
          have hkk : l[k].Ok := HOK.out _ (List.getElem_mem hkl)
          have hnx : nextB (encs (l.drop k) false false ++ T) false false false = ((l[k], 1), (encs (l.drop (k + 1)) false false ++ T, false)) := by
            rw [List.drop_eq_getElem_cons hkl, encs_cons, List.append_assoc]; exact next_back hmk hkk false false _
          have HNX := Lib.hid (hI.rd.next_new (.cells pv.toArray 28) false false)
          rw [hnx] at HNX
          clear hnx
          obtain ⟨p, hp⟩ : ∃ p, Hid (l[k] = p) := ⟨_, Lib.hid rfl⟩
          rw [hp.out] at hpv hpn HNX
          have hba : Below wr.heap.size wr (wr.alloc (.cells pv.toArray 28)) := (Below.refl _ _).alloc (Nat.le_refl _) _
          have HX1 : Hid ((wr.alloc (.cells pv.toArray 28)).heap[wr.heap.size]? = some (.cells pv.toArray 28 (0, 0))) := Lib.hid (heap_alloc_new wr _)
          have HI1 := Lib.hid (hI.below hba)
          have HN1 := Lib.hid (hpn.below (hba.mono hI.bel.size))
          have HRG := Lib.hid hrg
          clear hI hpv hpn hba hrg
          go_upto_region 17 with (first
            | (refine wpList_load_mid rfl 28 _ rfl b (o + k * 16) rfl pv _ HRG.out Try.underlying28 rfl (by rw [hpl.out]; exact infoPdu) ?_)
            | (refine wpList_alloc_arr rfl 28 rfl _ allocPdu ?_)
            | (refine wpList_store_new rfl 28 _ _ rfl wr.heap.size rfl pv.toArray rfl rfl 28 zP (by rw [hpz.out]; exact infoPdu) (by rw [hpz.out]; rfl) hp1.out ?_))
          have HXX : Hid ((wr.alloc (.cells pv.toArray 28)).heap[wr.heap.size]? = some (.cells pv.toArray 28 (0, 0))) := HX1
          generalize wr.alloc (.cells pv.toArray 28) = w4 at HI1 HN1 HX1 HXX HNX ⊢
          generalize wr.heap.size = x at HX1 HXX HNX ⊢
          clear HRG HXX
          go_upto_region 18 with (first
            | (go_at_call 16; refine HNX.out.mono ?_; rintro e w8 ⟨⟨cs8, rfl, ho8, hs8, hb8⟩, hx8⟩; have HI8 : Hid (BkJ w (some ⟨b, o, none⟩) l g (encs (l.drop (k + 1)) false false ++ T) false w8) := Lib.hid ⟨hs8, HI1.out.row.below (hb8.mono hgw), HI1.out.bel.trans (hb8.mono hgw)⟩; have HV8 : Hid (PduV w8 p cs8) := Lib.hid ho8.v; have HN8 := Lib.hid (HN1.out.below (hb8.mono hgw)); have HX8 := Lib.hid (hx8.trans HX1.out); have hz8 := ho8.size; have h18 := ho8.one; clear hs8 hb8 ho8 hx8 HNX)
            | (refine wpList_alloc_arr rfl 28 rfl _ allocPdu ?_)
            | (refine wpList_store_new rfl 28 _ _ rfl _ rfl cs8 rfl rfl 28 zP (by rw [hz8.out]; exact infoPdu) (by rw [hz8.out]; rfl) h18.out ?_))
          have hb9 : Below w8.heap.size w8 (w8.alloc (.cells cs8 28)) := (Below.refl _ _).alloc (Nat.le_refl _) _
          have HI9 := Lib.hid (HI8.out.below hb9)
          have HV9 := Lib.hid (HV8.out.below hb9)
          have HN9 := Lib.hid (HN8.out.below (hb9.mono HI8.out.bel.size))
          have HX9 := Lib.hid ((hb9.block _ (Array.getElem?_eq_some_iff.1 HX8.out).1).trans HX8.out)
          have HY9 : Hid ((w8.alloc (.cells cs8 28)).heap[w8.heap.size]? = some (.cells cs8 28 (0, 0))) := Lib.hid (heap_alloc_new w8 _)
          clear hb9 HI1 HN1 HX1 HI8 HV8 HN8 HX8
          generalize w8.alloc (.cells cs8 28) = w9 at HI9 HV9 HN9 HX9 HY9 ⊢
          generalize w8.heap.size = y at HY9 ⊢
          have HLDa := load_pdu HX9.out hpz
          have HLDb := load_pdu HY9.out hz8
          have HSM := Lib.hid (same_any p pv.toArray cs8 w9 (HN9.out.v HI9.out.bel.size) HV9.out)
          go_wp2_with (first
            | (refine wpList_val (by rfl) (exec_load _ _ 28 _ rfl x 0 rfl pv.toArray HLDa) ?_; clear HLDa)
            | (refine wpList_val (by rfl) (exec_load _ _ 28 _ rfl y 0 rfl cs8 HLDb) ?_; clear HLDb)
            | (go_at_call 18; refine HSM.out.mono ?_; rintro e wa ⟨rfl, hba⟩; have HIa := Lib.hid (HI9.out.below hba); clear hba HSM))
          go_roundg (i - (k + 1))
          case measure => omega
          case rel => exact ⟨k + 1, rfl, by omega, by go_num, HIa.out⟩
    have hlt' : (i : Int) < (n : Int) := by omega
    have hil : i < l.length := by rw [HL.out]; exact hlt
    obtain ⟨b, o, pv, hA, hpv, hrg⟩ := HX.out wr i _ hil hI
    subst hA
    have HPV := Lib.hid hpv
    have hpz : Hid (pv.toArray.size = 16) := hpv.size
    have hpl : Hid (pv.length = 16) := Lib.hid (by rw [← List.size_toArray]; exact hpz.out)
    have hp1 : Hid (pv.toArray.all (·.oneCell') = true) := hpv.one
    have hba : Below wr.heap.size wr (wr.alloc (.cells pv.toArray 28)) := (Below.refl _ _).alloc (Nat.le_refl _) _
    have HX1 : Hid ((wr.alloc (.cells pv.toArray 28)).heap[wr.heap.size]? = some (.cells pv.toArray 28 (0, 0))) := Lib.hid (heap_alloc_new wr _)
    have HI1 := Lib.hid (hI.below hba)
    have HV1 := Lib.hid (hpv.below hba)
    have HRG := Lib.hid hrg
    have HM := Lib.hid hMi
    clear hI hpv hba hrg hMi
    go_upto_region 9 with (first
      | (refine wpList_load_mid rfl 28 _ rfl b (o + i * 16) rfl pv _ HRG.out Try.underlying28 rfl (by rw [hpl.out]; exact infoPdu) ?_)
      | (refine wpList_alloc_arr rfl 28 rfl _ allocPdu ?_)
      | (refine wpList_store_new rfl 28 _ _ rfl wr.heap.size rfl pv.toArray rfl rfl 28 zP (by rw [hpz.out]; exact infoPdu) (by rw [hpz.out]; rfl) hp1.out ?_))
    have hxl : wr.heap.size < (wr.alloc (.cells pv.toArray 28)).heap.size := (Array.getElem?_eq_some_iff.1 HX1.out).1
    generalize wr.alloc (.cells pv.toArray 28) = w4 at HI1 HV1 HX1 hxl ⊢
    generalize wr.heap.size = x at HX1 hxl ⊢
    clear HPV HRG
    have hki : l[i].Ok := HOK.out _ (List.getElem_mem hil)
    obtain ⟨p, hp⟩ : ∃ p, Hid (l[i] = p) := ⟨_, Lib.hid rfl⟩
    rw [hp.out] at HV1 hki
    have HLD1 := Lib.hid (load_pdu HX1.out hpz)
    have HSH := Lib.hid (short_v hki HV1.out)
    obtain ⟨s, hs⟩ : ∃ s, Hid (shortB p = s) := ⟨_, Lib.hid rfl⟩
    obtain ⟨m, hm⟩ : ∃ s, Hid (mayB p = s) := ⟨_, Lib.hid rfl⟩
    rw [hs.out] at HSH
    have HMY := Lib.hid (fun W (hW : Below w4.heap.size w4 W) => may_v hki (HV1.out.below hW))
    rw [hm.out] at HMY
    cases s
    · go_wp2_with (first
        | (refine wpList_val (by rfl) (exec_load _ _ 28 _ rfl x 0 rfl pv.toArray HLD1.out) ?_; clear HLD1)
        | (go_at_call 10; refine HSH.out.mono ?_; rintro e w5 ⟨rfl, hb5⟩; have HB5 := Lib.hid hb5; clear hb5 HSH))
      go_ret
      exact ⟨rfl, addb HI1.out.bel HB5.out⟩
    cases m
    · go_wp2_with (first
        | (refine wpList_val (by rfl) (exec_load _ _ 28 _ rfl x 0 rfl pv.toArray HLD1.out) ?_; clear HLD1)
        | (refine wpList_val (by rfl) (exec_load _ _ 28 _ rfl x 0 rfl pv.toArray HLD5.out) ?_; clear HLD5)
        | (go_at_call 10; refine HSH.out.mono ?_; rintro e w5 ⟨rfl, hb5⟩; have HB5 := Lib.hid hb5; have HLD5 := Lib.hid (load_pdu ((HB5.out.block _ hxl).trans HX1.out) hpz); have HMZ := Lib.hid (HMY.out _ hb5); clear hb5 HSH)
        | (go_at_call 13; refine HMZ.out.mono ?_; rintro e w6 ⟨rfl, hb6⟩; have HB6 := Lib.hid (addb HB5.out hb6); clear hb6 HMZ))
      go_ret
      exact ⟨rfl, addb HI1.out.bel HB6.out⟩
    go_upto_region 11 with (first
      | (refine wpList_val (by rfl) (exec_load _ _ 28 _ rfl x 0 rfl pv.toArray HLD1.out) ?_; clear HLD1)
      | (refine wpList_val (by rfl) (exec_load _ _ 28 _ rfl x 0 rfl pv.toArray HLD5.out) ?_; clear HLD5)
      | (go_at_call 10; refine HSH.out.mono ?_; rintro e w5 ⟨rfl, hb5⟩; have HB5 := Lib.hid hb5; have HLD5 := Lib.hid (load_pdu ((HB5.out.block _ hxl).trans HX1.out) hpz); have HMZ := Lib.hid (HMY.out _ hb5); clear hb5 HSH)
      | (go_at_call 13; refine HMZ.out.mono ?_; rintro e w6 ⟨rfl, hb6⟩; have HB6 := Lib.hid (addb HB5.out hb6); clear hb6 HMZ))
    have HI6 := Lib.hid (HI1.out.below HB6.out)
    have HV6 := Lib.hid (HV1.out.below HB6.out)
    have HLD6 := Lib.hid (load_pdu ((HB6.out.block _ hxl).trans HX1.out) hpz)
    have HEN := Lib.hid (enc_v hki HV6.out false false)
    obtain ⟨E, hE⟩ : ∃ E, Hid (encB p false false = E) := ⟨_, Lib.hid rfl⟩
    obtain ⟨N, hN⟩ : ∃ n, Hid (E.length = n) := ⟨_, Lib.hid rfl⟩
    rw [hE.out] at HEN
    have hsz : (encs (l.take i) false false).length + E.length ≤ 140737488355328 := by
      have h1 := HM.out
      rw [hM.out] at h1
      have h2 := encs_few (l := l.take i) (fun q hq => by
        obtain ⟨j, hj, rfl⟩ := List.getElem_of_mem hq
        rw [List.getElem_take]
        have hj' : j < i := by rw [List.length_take] at hj; omega
        exact h1 j _ hj' (List.getElem?_eq_getElem _)) false false
      have h3 := (enc_few hm.out false false).2
      rw [hE.out] at h3
      rw [List.length_take] at h2
      omega
    clear HI1 HV1 HX1 HB5 HB6 HMY
    go_upto_region 12 with (first
      | (refine wpList_val (by rfl) (exec_load _ _ 28 _ rfl x 0 rfl pv.toArray HLD6.out) ?_; clear HLD6)
      | (go_at_call 11; refine HEN.out.mono ?_; rintro e w7 ⟨v7, rfl, hO7⟩; obtain ⟨bp, cp, rfl, hB7⟩ := hO7.bytes; have HB7 := Lib.hid hO7.below; rw [hN.out] at hB7; rw [hN.out]; have hst := hB7.str; have HI7 := Lib.hid (HI6.out.below HB7.out); have HFD := Lib.hid (HI7.out.rd.feed E hsz); clear hO7 hB7 HEN)
      | (go_at_call 15; refine HFD.out.mono ?_; rintro e w8 ⟨rfl, hs8, hb8⟩; have HI8 : Hid (BkJ w (some ⟨b, o, none⟩) l g (encs (l.take i) false false ++ E) false w8) := Lib.hid ⟨hs8, HI7.out.row.below (hb8.mono hgw), HI7.out.bel.trans (hb8.mono hgw)⟩; clear hs8 hb8 HFD))
    clear hst HI6 HV6 HB7 HI7 hsz
    go_wp2
    go_roundg (n - (i + 1))
    case measure => omega
    case rel =>
      refine ⟨i + 1, rfl, by omega, by go_num, ?_, ?_⟩
      · have h1 := HM.out
        rw [hM.out] at h1 ⊢
        intro j q hj hq
        by_cases hji : j = i
        · subst hji
          rw [List.getElem?_eq_getElem hil, hp.out] at hq
          obtain rfl := Option.some.inj hq
          exact hm.out
        · exact h1 j q (by omega) hq
      · rw [take_next l i hil, encs_snoc, hp.out, hE.out]
        exact HI8.out
theorem pduStops_any (A : Option Addr) (n cap : Nat) (l : List P) (hl : l.length = n) (hok : ∀ p ∈ l, p.Ok) (bad : UInt8) (rest : List UInt8) (w : World) (hr : PdR w.heap.size w A l) :
    Calls Try.prog 8 #[.slice A n cap, .int .u8 (bz bad), .string (strB rest)] w (TrueP w) := by
  rcases Nat.lt_or_ge 10 n with hn | hn
  · exact pduStops_long A n cap bad rest (.inl hn) w
  · rcases Nat.lt_or_ge 2000 rest.length with hs | hs
    · exact pduStops_long A n cap bad rest (.inr ⟨hn, hs⟩) w
    · exact pduStops_ok A n cap l hl hn hok bad rest hs w hr
end Go.Proofs.Ytakejggofghblaa
