/-
  PduNone: the walk.
-/
import Derived.Test.YtakejggofghblaaPdSizes
import Derived.Lib.SlBytesConst
set_option linter.unusedSimpArgs false
set_option linter.unusedVariables false
namespace Go.Proofs.Ytakejggofghblaa
open Go.RowKit Sh Cr Pd

theorem strB_append (a b : List UInt8) : strB a ++ strB b = strB (a ++ b) := by
  apply ByteArray.ext
  simp [strB, ByteArray.data_append]
theorem made47 (w : World) : (Instr.makeSlice 23 (.int .i64 47) (.int .i64 47)).run Try.prog w = .ok (.slice (some ⟨w.heap.size, 0, none⟩) 47 47) (w.alloc (.cells ((List.replicate 47 (0 : UInt8)).map cu8).toArray 5)) := by
  kernel_rfl
def badB : List UInt8 := 128 :: List.replicate 47 0
theorem next_bad (h d : Bool) : nextB badB false h d = (({}, 3), ([], true)) := by
  cases h <;> cases d <;> decide
set_option maxRecDepth 100000 in
set_option maxHeartbeats 8000000 in
theorem pduNone_any (sl : List UInt8) (hsl : sl.length ≤ 140737488355328) (cs : Array Value) (w : World) :
    Calls Try.prog 6 #[.string (strB sl), .agg cs] w (TrueP w) := by
  have hb0 : Below w.heap.size w (w.alloc (.cells cs 28)) := (Below.refl _ w).alloc (Nat.le_refl _) _
  have HB0 := Lib.hid hb0
  clear hb0
  have HST := Lib.hid (stands_any (w.alloc (.cells cs 28)))
  have hbR := builtR
  go_enter Try.func6, Try.ntmps6
  go_upto_region 4 with (go_at_call 9; refine HST.out.mono ?_; rintro e w2 ⟨rfl, hb2⟩; have HA2 := Lib.hid (addb HB0.out hb2); clear hb2 HST)
  have HF := Lib.hid (feed_nil (strB sl) w2)
  go_upto_region 5 with (go_at_call 15; refine HF.out.mono ?_; rintro e w3 ⟨rfl, rfl⟩; clear HF)
  have HN := Lib.hid (next_nil (w := w2) (h := false) (d := false))
  go_upto_region 6 with (first
    | (go_at_call 16; refine HN.out.mono ?_; rintro e w3 ⟨rfl, hb3⟩; have HA3 := Lib.hid (addb HA2.out hb3); clear hb3 HN)
    | (refine wpList_alloc_arr rfl 28 rfl _ allocPdu ?_)
    | (refine wpList_store_new rfl 28 _ _ rfl _ rfl zP rfl rfl 28 zP infoPdu rfl zP_one ?_))
  have HA4 := Lib.hid (addb HA3.out ((Below.refl _ w3).alloc (Nat.le_refl _) (.cells zP 28)))
  generalize w3.alloc (.cells zP 28) = w4 at HA4 ⊢
  clear HA3 HA2 HB0
  have HS4 := Lib.hid (RS.new w4)
  have HA5 := Lib.hid (addb HA4.out ((Below.refl _ w4).alloc (Nat.le_refl _) (.cells #[.slice none 0 0, .bool false] 36)))
  go_upto_region 7 with (fail)
  obtain ⟨g, hg⟩ : ∃ g, Hid (w4.heap.size = g) := ⟨_, Lib.hid rfl⟩
  have hgw : w.heap.size ≤ g := by rw [← hg.out]; exact HA4.out.size
  rw [hg.out] at HS4 ⊢
  generalize w4.alloc (.cells #[.slice none 0 0, .bool false] 36) = w5 at HS4 HA5 ⊢
  clear HA4
  have hm5 := made47 w5
  have hb6 : Below w5.heap.size w5 (w5.alloc (.cells ((List.replicate 47 (0 : UInt8)).map cu8).toArray 5)) := (Below.refl _ w5).alloc (Nat.le_refl _) _
  have HS6 := Lib.hid (HS4.out.below hb6)
  have HA6 := Lib.hid (addb HA5.out hb6)
  have hby := (row_bytes (l := List.replicate 47 (0 : UInt8)) (t := 5) (heap_alloc_new w5 (.cells ((List.replicate 47 (0 : UInt8)).map cu8).toArray 5)) (by unfold maxLen; decide)).str
  clear hb6
  generalize w5.alloc (.cells ((List.replicate 47 (0 : UInt8)).map cu8).toArray 5) = w6 at HS6 HA6 hm5 hby ⊢
  have hby' : (convert 23 9 (.slice (some ⟨w5.heap.size, 0, none⟩) 47 47)).run Try.prog w6 = .ok (.string (strB (List.replicate 47 (0 : UInt8)))) w6 := hby
  clear hby
  have HF6 := Lib.hid (HS6.out.feed badB (by decide))
  have eb : strB badB = (⟨#[128]⟩ : ByteArray) ++ strB (List.replicate 47 (0 : UInt8)) := (strB_append [128] (List.replicate 47 0)).symm
  rw [eb] at HF6
  clear eb
  go_upto_region 8 with (go_at_call 15; refine HF6.out.mono ?_; rintro e w7 ⟨rfl, hs7, hb7⟩; have HS7 : Hid (RS g badB false w7) := Lib.hid hs7; have HA7 := Lib.hid (HA6.out.trans (hb7.mono hgw)); clear hs7 hb7)
  clear hm5 hby' HF6 HS6 HA6 HS4 HA5
  have HN7 := Lib.hid (HS7.out.next false false)
  rw [next_bad] at HN7
  go_upto_region 9 with (first
    | (go_at_call 16; refine HN7.out.mono ?_; rintro e w8 ⟨cs8, rfl, ho8, hs8, hb8⟩; have HS8 : Hid (RS g [] true w8) := Lib.hid hs8; have HA8 := Lib.hid (HA7.out.trans (hb8.mono hgw)); have hz8 := ho8.size; have h18 := ho8.one; clear hs8 hb8 ho8 HN7)
    | (refine wpList_alloc_arr rfl 28 rfl _ allocPdu ?_)
    | (refine wpList_store_new rfl 28 _ _ rfl _ rfl cs8 rfl rfl 28 zP (by rw [hz8.out]; exact infoPdu) (by rw [hz8.out]; rfl) h18.out ?_))
  have hb9 : Below w8.heap.size w8 (w8.alloc (.cells cs8 28)) := (Below.refl _ _).alloc (Nat.le_refl _) _
  have HS9 := Lib.hid (HS8.out.below hb9)
  have HA9 := Lib.hid (addb HA8.out hb9)
  clear hb9 HS7 HA7 HS8 HA8
  generalize w8.alloc (.cells cs8 28) = w9 at HS9 HA9 ⊢
  have HF9 := Lib.hid (HS9.out.feed sl (by rw [List.length_nil]; omega))
  go_upto_region 10 with (go_at_call 15; refine HF9.out.mono ?_; rintro e w10 ⟨rfl, hs10, hb10⟩; have HS10 : Hid (RS g [] true w10) := Lib.hid hs10; have HA10 := Lib.hid (HA9.out.trans (hb10.mono hgw)); clear hs10 hb10 HF9)
  clear HS9 HA9
  have HN10 := Lib.hid (HS10.out.next true true)
  go_upto_region 11 with (first
    | (go_at_call 16; refine HN10.out.mono ?_; rintro e w11 ⟨cs11, rfl, ho11, hs11, hb11⟩; have HS11 : Hid (RS g [] true w11) := Lib.hid hs11; have HA11 := Lib.hid (HA10.out.trans (hb11.mono hgw)); have hz11 := ho11.size; have h111 := ho11.one; clear hs11 hb11 ho11 HN10)
    | (refine wpList_alloc_arr rfl 28 rfl _ allocPdu ?_)
    | (refine wpList_store_new rfl 28 _ _ rfl _ rfl cs11 rfl rfl 28 zP (by rw [hz11.out]; exact infoPdu) (by rw [hz11.out]; rfl) h111.out ?_))
  have hb12 : Below w11.heap.size w11 (w11.alloc (.cells cs11 28)) := (Below.refl _ _).alloc (Nat.le_refl _) _
  have HS12 := Lib.hid (HS11.out.below hb12)
  have HA12 := Lib.hid (addb HA11.out hb12)
  clear hb12 HS10 HA10 HS11 HA11
  generalize w11.alloc (.cells cs11 28) = w12 at HS12 HA12 ⊢
  have HL0 := Lib.hid (left_nil w12)
  have HL1 := Lib.hid (HS12.out.left)
  go_wp2_with (first
    | (go_at_call 19; refine HL0.out.mono ?_; rintro e wb ⟨rfl, rfl⟩; clear HL0)
    | (go_at_call 19; refine HL1.out.mono ?_; rintro e wb ⟨rfl, rfl⟩; clear HL1))
  go_ret
  exact ⟨rfl, HA12.out⟩
end Go.Proofs.Ytakejggofghblaa
