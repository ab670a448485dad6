/-
  law 14: stands.
-/
import Derived.Test.YtakejggofghblaaPdRs
import Derived.Lib.SlBytesConst
set_option linter.unusedSimpArgs false
set_option linter.unusedVariables false
namespace Go.Proofs.Ytakejggofghblaa
open Go.RowKit Sh Cr Pd

def TrueP (w : World) (e : Ending) (w' : World) : Prop := e = .returned (.bool true) ∧ Below w.heap.size w w'
theorem builtS (v : Value) (hv : ∃ a b c, v = .slice a b c) : Try.prog.built 28 [(0, .int .i64 0), (6, .int .u32 5), (8, v)] = some (p0.cs (.slice none 0 0) v) := by
  obtain ⟨a, b, c, rfl⟩ := hv; kernel_rfl
theorem two_bytes (w : World) : Bytes (w.heap.size + 1) (w.alloc (.cells #[.int .u8 97, .int .u8 98] 5 (2, 3))) (some ⟨w.heap.size, 0, none⟩) 2 2 [97, 98] :=
  ⟨rfl, by omega, by unfold maxLen; omega, .inr ⟨w.heap.size, 0, rfl, by omega, fun j hj => by
    rw [cell_of_row _ w.heap.size _ _ _ _ (heap_alloc_new w _)]
    obtain rfl | rfl : j = 0 ∨ j = 1 := by omega
    · rfl
    · rfl⟩⟩
theorem addb {w w1 w2 : World} (h1 : Below w.heap.size w w1) (h2 : Below w1.heap.size w1 w2) : Below w.heap.size w w2 := h1.trans (h2.mono h1.size)
set_option maxRecDepth 100000 in
set_option maxHeartbeats 16000000 in
theorem stands_any (w : World) : Calls Try.prog 9 #[] w (TrueP w) := by
  have hbu := builtS (.slice (some ⟨w.heap.size, 0, none⟩) 2 2) ⟨_, _, _, rfl⟩
  obtain ⟨cs, hcs⟩ : ∃ cs, Hid (p0.cs (.slice none 0 0) (.slice (some ⟨w.heap.size, 0, none⟩) 2 2) = cs) := ⟨_, Lib.hid rfl⟩
  rw [hcs.out] at hbu
  have hcz : Hid (cs.size = 16) := Lib.hid (by rw [← hcs.out]; rfl)
  have hc1 : Hid (cs.all (·.oneCell') = true) := Lib.hid (by rw [← hcs.out]; exact P.cs_one _ _ _ _ _ _ _)
  have hba : Below w.heap.size w (w.alloc (.cells #[.int .u8 97, .int .u8 98] 5 (2, 3))) := (Below.refl _ _).alloc (Nat.le_refl _) _
  have hbb : Below (w.alloc (.cells #[.int .u8 97, .int .u8 98] 5 (2, 3))).heap.size (w.alloc (.cells #[.int .u8 97, .int .u8 98] 5 (2, 3))) ((w.alloc (.cells #[.int .u8 97, .int .u8 98] 5 (2, 3))).alloc (.cells cs 28)) := (Below.refl _ _).alloc (Nat.le_refl _) _
  have HV1 : Hid (PduV ((w.alloc (.cells #[.int .u8 97, .int .u8 98] 5 (2, 3))).alloc (.cells cs 28)) p0 cs) := Lib.hid ⟨none, 0, some ⟨w.heap.size, 0, none⟩, 2, hcs.out.symm, Bytes.nil _ _, by
    have := (two_bytes w).below (hbb.mono (by simp))
    exact this.mono (by simp)⟩
  have HX1 : Hid (((w.alloc (.cells #[.int .u8 97, .int .u8 98] 5 (2, 3))).alloc (.cells cs 28)).heap[w.heap.size + 1]? = some (.cells cs 28 (0, 0))) := Lib.hid (by
    have := heap_alloc_new (w.alloc (.cells #[.int .u8 97, .int .u8 98] 5 (2, 3))) (.cells cs 28)
    rw [World.size_alloc] at this; exact this)
  have HB1 := Lib.hid (addb hba hbb)
  have HSZ : Hid (((w.alloc (.cells #[.int .u8 97, .int .u8 98] 5 (2, 3))).alloc (.cells cs 28)).heap.size = w.heap.size + 2) := Lib.hid (by simp)
  clear hba hbb
  have hbR := builtR
  have kc := fun (w : World) (C : Array Value) (n c : Nat) => Lib.run_convert_bytes_const (P := Try.prog) w 23 5 C n c Try.underlying23 Try.underlying5
  go_enter Try.func9, Try.ntmps9
  go_upto_region 2 with (first
    | (refine wpList_buildP 28 _ rfl cs (Eq.trans (congrArg (Program.built _ _) (by simp [Act.eval, Act.put])) hbu) (by rfl) ?_)
    | (refine wpList_alloc_arr rfl 28 rfl _ allocPdu ?_)
    | (refine wpList_store_new rfl 28 _ _ rfl _ rfl cs rfl rfl 28 zP (by rw [hcz.out]; exact infoPdu) (by rw [hcz.out]; rfl) hc1.out ?_))
  simp only [World.size_alloc]
  generalize (w.alloc (.cells #[.int .u8 97, .int .u8 98] 5 (2, 3))).alloc (.cells cs 28) = w1 at HV1 HX1 HB1 HSZ ⊢
  clear hbu kc
  have HLD1 := Lib.hid (load_pdu HX1.out hcz)
  have HENC := Lib.hid (enc_any p0 p0_ok cs true true w1 HV1.out (by decide) (by decide))
  obtain ⟨E, hE⟩ : ∃ E, Hid (encB p0 true true = E) := ⟨_, Lib.hid rfl⟩
  have hE60 : Hid (E.length = 60) := Lib.hid (by rw [← hE.out]; exact p0_len)
  rw [hE.out] at HENC
  go_upto_region 5 with (first
    | (refine wpList_val (by rfl) (exec_load _ _ 28 _ rfl (w.heap.size + 1) 0 rfl cs HLD1.out) ?_; clear HLD1)
    | (go_at_call 11; refine HENC.out.mono ?_; rintro e w2 ⟨v2, rfl, hO2⟩; obtain ⟨bp, cap, rfl, hB2⟩ := hO2.bytes; have HB2 := Lib.hid hB2; have HO2 := Lib.hid hO2.below; rw [hE60.out] at HB2; rw [hE60.out]; clear hO2 hB2 HENC))
  have HV2 := Lib.hid (HV1.out.below HO2.out)
  have HX2 := Lib.hid ((HO2.out.block _ (Array.getElem?_eq_some_iff.1 HX1.out).1).trans HX1.out)
  have HA2 := Lib.hid (addb HB1.out HO2.out)
  clear HV1 HX1 HB1 HO2
  have HS3 := Lib.hid (RS.new w2)
  have hb3 : Below w2.heap.size w2 (w2.alloc (.cells #[.slice none 0 0, .bool false] 36)) := (Below.refl _ _).alloc (Nat.le_refl _) _
  have HB3 := Lib.hid (HB2.out.below hb3)
  have HV3 := Lib.hid (HV2.out.n.below hb3)
  have HX3 := Lib.hid ((hb3.block _ (Array.getElem?_eq_some_iff.1 HX2.out).1).trans HX2.out)
  have HA3 := Lib.hid (addb HA2.out hb3)
  have hlt : w.heap.size + 1 < w2.heap.size := (Array.getElem?_eq_some_iff.1 HX2.out).1
  have hcap : 60 ≤ cap := HB2.out.hroom
  go_upto_region 6 with (fail)
  clear hb3 HB2 HV2 HX2 HA2
  obtain ⟨W2, hW2⟩ : ∃ W2, Hid (w2 = W2) := ⟨_, Lib.hid rfl⟩
  generalize w2.alloc (.cells #[.slice none 0 0, .bool false] 36) = w3 at HS3 HB3 HV3 HX3 HA3 ⊢
  obtain ⟨g, hg⟩ : ∃ g, Hid (w2.heap.size = g) := ⟨_, Lib.hid rfl⟩
  rw [hg.out] at HS3 HB3 HV3 hlt ⊢
  clear hW2
  obtain ⟨bh, hbh⟩ : ∃ bh, Hid (cutAt bp cap 0 = bh) := ⟨_, Lib.hid rfl⟩
  obtain ⟨ch, hch⟩ : ∃ ch, Hid (cap - 0 = ch) := ⟨_, Lib.hid rfl⟩
  obtain ⟨bt, hbt⟩ : ∃ bh, Hid (cutAt bp cap 50 = bh) := ⟨_, Lib.hid rfl⟩
  obtain ⟨ct, hct⟩ : ∃ ch, Hid (cap - 50 = ch) := ⟨_, Lib.hid rfl⟩
  have s6 : ∀ w : World, (Instr.sliceAt 23 (.slice bp 60 cap) none (some (.int .i64 50)) none).run Try.prog w = .ok (.slice bh 50 ch) w := fun w => by
    rw [← hbh.out, ← hch.out]; exact run_slice_head (P := Try.prog) 23 5 Try.underlying23 (by kernel_rfl) bp 60 cap 50 (by omega) w
  have s8 : ∀ w : World, (Instr.sliceAt 23 (.slice bp 60 cap) (some (.int .i64 50)) none none).run Try.prog w = .ok (.slice bt 10 ct) w := fun w => by
    rw [← hbt.out, ← hct.out]; exact run_slice_tail (P := Try.prog) 23 5 Try.underlying23 (by kernel_rfl) bp 60 cap 50 (by omega) w
  have HC6 : Hid (∀ W, Below g w3 W → (convert 23 9 (.slice bh 50 ch)).run Try.prog W = .ok (.string (strB (E.take 50))) W) := Lib.hid (fun W hW => by
    have h := ((HB3.out.below hW).cut 0 50 (by omega) (by omega))
    rw [hbh.out, hch.out] at h
    exact h.str)
  have HC8 : Hid (∀ W, Below g w3 W → (convert 23 9 (.slice bt 10 ct)).run Try.prog W = .ok (.string (strB (E.drop 50))) W) := Lib.hid (fun W hW => by
    have h := ((HB3.out.below hW).cut 50 60 (by omega) (by omega))
    rw [hbt.out, hct.out, List.take_of_length_le (by rw [List.length_drop, hE60.out]; omega)] at h
    exact h.str)
  have c6 := HC6.out w3 (Below.refl _ _)
  have HF6 := Lib.hid (HS3.out.feed (E.take 50) (by rw [List.length_take, hE60.out]; simp))
  go_upto_region 7 with (go_at_call 15; refine HF6.out.mono ?_; rintro e w4 ⟨rfl, hs4, hb4⟩; have HS4 : Hid (RS g (E.take 50) false w4) := Lib.hid hs4; have HB4 := Lib.hid hb4; clear hs4 hb4)
  clear c6 s6 HC6 HF6
  have HN4 := Lib.hid (HS4.out.next true true)
  have e4 : nextB (E.take 50) false true true = (({}, 0), (E.take 50, false)) := by rw [← hE.out]; exact next_part p0_may true true 50 (by rw [p0_len]; omega)
  rw [e4] at HN4
  clear e4
  go_upto_region 8 with (first
    | (go_at_call 16; refine HN4.out.mono ?_; rintro e w5 ⟨cs5, rfl, ho5, hs5, hb5⟩; have HS5 : Hid (RS g (E.take 50) false w5) := Lib.hid hs5; have HB5 := Lib.hid (HB4.out.trans hb5); have hz5 := ho5.size; have h15 := ho5.one; clear hs5 hb5 ho5 HN4)
    | (refine wpList_alloc_arr rfl 28 rfl _ allocPdu ?_)
    | (refine wpList_store_new rfl 28 _ _ rfl _ rfl cs5 rfl rfl 28 zP (by rw [hz5.out]; exact infoPdu) (by rw [hz5.out]; rfl) h15.out ?_))
  have hb6 : Below w5.heap.size w5 (w5.alloc (.cells cs5 28)) := (Below.refl _ _).alloc (Nat.le_refl _) _
  have HS6 := Lib.hid (HS5.out.below hb6)
  have HB6 := Lib.hid (HB5.out.trans (hb6.mono (Nat.le_of_lt HS5.out.lt)))
  clear hb6 HS4 HB4 HS5 HB5
  generalize w5.alloc (.cells cs5 28) = w6 at HS6 HB6 ⊢
  have c8 := HC8.out w6 HB6.out
  have HF8 := Lib.hid (HS6.out.feed (E.drop 50) (by rw [List.length_take, List.length_drop, hE60.out]; simp))
  have e8 : feedB (E.take 50) false (E.drop 50) = E ++ [] := by rw [List.append_nil]; exact List.take_append_drop 50 E
  rw [e8] at HF8
  clear e8
  go_upto_region 9 with (go_at_call 15; refine HF8.out.mono ?_; rintro e w7 ⟨rfl, hs7, hb7⟩; have HS7 := Lib.hid hs7; have HB7 := Lib.hid (HB6.out.trans hb7); clear hs7 hb7)
  clear c8 s8 HC8 HF8 HS6 HB6
  have HN7 := Lib.hid (HS7.out.next true true)
  have e7 : nextB (E ++ []) false true true = ((p0, 1), ([], false)) := by rw [← hE.out]; exact next_back p0_may p0_ok true true []
  rw [e7] at HN7
  clear e7
  go_upto_region 10 with (first
    | (go_at_call 16; refine HN7.out.mono ?_; rintro e w8 ⟨cs8, rfl, ho8, hs8, hb8⟩; have HS8 : Hid (RS g [] false w8) := Lib.hid hs8; have HB8 := Lib.hid (HB7.out.trans hb8); have hz8 := ho8.size; have h18 := ho8.one; have HV8 : Hid (PduV w8 p0 cs8) := Lib.hid ho8.v; clear hs8 hb8 ho8 HN7)
    | (refine wpList_alloc_arr rfl 28 rfl _ allocPdu ?_)
    | (refine wpList_store_new rfl 28 _ _ rfl _ rfl cs8 rfl rfl 28 zP (by rw [hz8.out]; exact infoPdu) (by rw [hz8.out]; rfl) h18.out ?_))
  have hb9 : Below w8.heap.size w8 (w8.alloc (.cells cs8 28)) := (Below.refl _ _).alloc (Nat.le_refl _) _
  have HS9 := Lib.hid (HS8.out.below hb9)
  have HB9 := Lib.hid (HB8.out.trans (hb9.mono (Nat.le_of_lt HS8.out.lt)))
  have HV9 := Lib.hid (HV8.out.below hb9)
  have HX9 : Hid ((w8.alloc (.cells cs8 28)).heap[w8.heap.size]? = some (.cells cs8 28 (0, 0))) := Lib.hid (heap_alloc_new w8 _)
  clear hb9 HS7 HB7 HS8 HB8 HV8
  generalize w8.alloc (.cells cs8 28) = w9 at HS9 HB9 HV9 HX9 ⊢
  generalize w8.heap.size = g8 at HX9 ⊢
  have HLDa := load_pdu ((HB9.out.block _ hlt).trans HX3.out) hcz
  have HLDb := load_pdu HX9.out hz8
  have HSM := Lib.hid (same_any p0 cs cs8 w9 ((HV3.out.below HB9.out).v (Nat.le_of_lt HS9.out.lt)) HV9.out)
  go_wp2_with (first
    | (refine wpList_val (by rfl) (exec_load _ _ 28 _ rfl (w.heap.size + 1) 0 rfl cs HLDa) ?_; clear HLDa)
    | (refine wpList_val (by rfl) (exec_load _ _ 28 _ rfl g8 0 rfl cs8 HLDb) ?_; clear HLDb)
    | (go_at_call 18; refine HSM.out.mono ?_; rintro e wa ⟨rfl, hba⟩; have HBa := Lib.hid hba; have HLF := Lib.hid ((HS9.out.below hba).left); clear hba HSM)
    | (go_at_call 19; refine HLF.out.mono ?_; rintro e wb ⟨rfl, rfl⟩; clear HLF))
  go_ret
  exact ⟨rfl, (HA3.out.trans (HB9.out.mono (by omega))).trans (HBa.out.mono (by have := HS9.out.lt; omega))⟩
end Go.Proofs.Ytakejggofghblaa
