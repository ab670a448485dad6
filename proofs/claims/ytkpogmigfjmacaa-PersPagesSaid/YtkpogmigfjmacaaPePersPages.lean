/-
  The law PersPages walked.
-/
import Derived.Test.YtkpogmigfjmacaaPeStands
import Derived.Test.YtkpogmigfjmacaaPePgC
set_option linter.unusedSimpArgs false
set_option linter.unusedVariables false
namespace Go.Proofs.Ytkpogmigfjmacaa
open Go.RowKit Sh

set_option maxRecDepth 100000 in
set_option maxHeartbeats 16000000 in
theorem persPages_any (T : Tb) (A : Option Addr) (len cap : Nat) {w : World} (hS : SlR w A len cap T.l) (hm : len ≤ 9223372036854775807) (hk64 : ∀ q ∈ T.l, I64 q.1 ∧ U64 q.2) (hg : U32 T.g) (bp : Option Addr) (blen bcap : Nat) (bs : List UInt8) (hBy : Bytes w.heap.size w bp blen bcap bs) (W : World) (hW : w = W) :
    Calls Try.prog 6 #[.agg #[.int .u32 T.g, .slice A len cap, .int .i64 T.h, .int .i64 T.t, .bool T.p], .slice bp blen bcap] W (Ret (.bool true) W) := by
  subst hW
  obtain ⟨g, l, h, t, p⟩ := T
  simp only at hS hk64 hg ⊢
  have HBy := Lib.hid hBy
  clear hBy
  have Kst : Hid (∀ W, Calls Try.prog 10 #[] W (Ret (.bool true) W)) := Lib.hid stands_any
  have Kn : Hid (∀ W, Calls Try.prog 22 #[] W (Ret (.agg #[.int .u32 0, .slice none 0 0, .int .i64 (-1), .int .i64 0, .bool false]) W)) := Lib.hid fun W => none_any W
  have Krs : Hid (∀ W, Below w.heap.size w W → Calls Try.prog 12 #[.agg #[.int .u32 g, .slice A len cap, .int .i64 h, .int .i64 t, .bool p]] W (Ret (.bool (soundB l h t)) W)) := Lib.hid fun W hb => rsound_any g h t p A len cap l W (hS.below hb) hm
  have Kpg : Hid (∀ W, Below w.heap.size w W → Calls Try.prog 24 #[.agg #[.int .u32 g, .slice A len cap, .int .i64 h, .int .i64 t, .bool p]] W (Ret (.agg ((pageL ⟨g, l, h, t, p⟩).map cu8).toArray) W)) := Lib.hid fun W hb => page_any ⟨g, l, h, t, p⟩ A len cap W (hS.below hb) hm (fun q hq => (hk64 q hq).2) hg
  have Hrp : Hid (soundB l h t = true → readL (pageL ⟨g, l, h, t, p⟩) = ⟨g, l, h, t, true⟩) := Lib.hid fun hs => read_page (T := ⟨g, l, h, t, p⟩) hs (fun q hq => (hk64 q hq).2) hg
  have HS := Lib.hid hS
  obtain ⟨sb, Hsb⟩ : ∃ x, Hid (soundB l h t = x) := ⟨_, Lib.hid rfl⟩
  rw [Hsb.out] at Krs
  obtain ⟨za, Hza⟩ : ∃ za : Array Value, Hid (za = (zero64.map cu8).toArray) := ⟨_, Lib.hid rfl⟩
  have hal : ∀ w : World, (Instr.alloc 51 true (.tuple #[])).run Try.prog w = .ok (.pointer (some ⟨w.heap.size, 0, none⟩)) (w.alloc (.cells za 51)) := by rw [Hza.out]; exact alloc64
  have Hps : Hid ((Try.prog.info? 51).map (·.size) = some za.size) := Lib.hid (by rw [Hza.out]; simpa [zero64] using info64)
  have Kz : Hid (∀ W, Calls Try.prog 23 #[.agg za] W (ToldP ⟨0, [], -1, 0, false⟩ W)) := Lib.hid fun W => by rw [Hza.out, ← read_zero]; exact read_any zero64 rfl W
  obtain ⟨cp, Hcp⟩ : ∃ x, Hid (((cpB zero64 bs).map cu8).toArray = x) := ⟨_, Lib.hid rfl⟩
  have hcl : (cpB zero64 bs).length = 64 := cpB_len rfl
  have Hpc : Hid ((Try.prog.info? 51).map (·.size) = some cp.size) := Lib.hid (by rw [← Hcp.out, List.size_toArray, List.length_map, hcl]; exact info64)
  have Kx0 : ∀ W, Calls Try.prog 23 #[.agg cp] W (ToldP (readL (cpB zero64 bs)) W) := fun W => by rw [← Hcp.out]; exact read_any _ hcl W
  have hrs := read_sound (p := cpB zero64 bs)
  generalize readL (cpB zero64 bs) = X at Kx0 hrs
  obtain ⟨g8, l8, h8, t8, p8⟩ := X
  simp only at hrs
  have Kx : Hid (∀ W, Calls Try.prog 23 #[.agg cp] W (fun e w' => ∃ v, e = .returned (.agg #[.int .u32 g8, v, .int .i64 h8, .int .i64 t8, .bool p8]) ∧ OwnR W.heap.size w' v l8 ∧ Below W.heap.size W w')) := Lib.hid Kx0
  have Kz : Hid (∀ W, Calls Try.prog 23 #[.agg za] W (fun e w' => ∃ v, e = .returned (.agg #[.int .u32 0, v, .int .i64 (-1), .int .i64 0, .bool false]) ∧ OwnR W.heap.size w' v [] ∧ Below W.heap.size W w')) := Lib.hid fun W => Kz.out W
  have Hrs := Lib.hid hrs
  clear hrs Kx0 hcl hS hk64 hg
  have HX0 := Lib.hid (heap_alloc_new w (.cells #[.int .u32 g, .slice A len cap, .int .i64 h, .int .i64 t, .bool p] 25))
  cases sb with
  | false =>
    go_enter Try.func6, Try.ntmps6
    go_upto_region 8 with (first | (go_at_call 10; refine (Kst.out _).mono ?_; rintro e w2 ⟨rfl, hb2⟩; have hx2 := (hb2.block w.heap.size (by simp)).trans HX0.out; have HB2 := Lib.hid (stepB (bel1 w _) hb2); clear hb2; have HX2 := Lib.hid hx2; clear hx2; obtain ⟨xl2, x0_2, x1_2, x2_2, x3_2, x4_2, xf2⟩ := box5 HX2.out) | (go_at_call 12; refine (Krs.out _ HB2.out).mono ?_; rintro e w3 ⟨rfl, hb3⟩; have HX3 := Lib.hid ((hb3.block w.heap.size xl2).trans HX2.out); have HB3 := Lib.hid (stepB HB2.out hb3); clear hb3; obtain ⟨xl3, x0_3, x1_3, x2_3, x3_3, x4_3, xf3⟩ := box5 HX3.out))
    have HB8 := HB3
    generalize hw8 : w3 = w8 at *
    clear hw8 HX3 HB3 HX2 HB2 Krs Kpg Hrp HX0 xl2 x0_2 x1_2 x2_2 x3_2 x4_2 xf2 xl3 x0_3 x1_3 x2_3 x3_3 x4_3 xf3
    go_upto_region 9 with (refine wpList_alloc_arr rfl 51 rfl _ hal ?_)
    have hp9 := heap_alloc_new w8 (.cells za 51)
    have hb89 := bel1 w8 (.cells za 51)
    have hb9 := stepB HB8.out hb89
    obtain ⟨pb, Hpb⟩ : ∃ q, Hid (w8.heap.size = q) := ⟨_, Lib.hid rfl⟩
    have hwp : w.heap.size ≤ pb := by rw [← Hpb.out]; exact HB8.out.size
    rw [Hpb.out] at hp9
    generalize w8.alloc (.cells za 51) = w9 at hp9 hb89 hb9 ⊢
    rw [Hpb.out]
    have HP9 := Lib.hid hp9; have HB9 := Lib.hid hb9
    clear hp9 hb89 hb9 hal HB8 Hpb
    have hp9 := HP9.out
    have pl9 : pb < w9.heap.size := (Array.getElem?_eq_some_iff.1 hp9).1
    go_upto_region 10 with (first
      | (refine wpList_load_row rfl 51 _ rfl pb rfl 51 za (0, 0) _ hp9 Try.underlying51 rfl Hps.out ?_)
      | (go_at_call 23; refine (Kz.out _).mono ?_; rintro e w10 ⟨v7, rfl, ho7, hb10⟩; obtain ⟨A7, c7, rfl, hs7⟩ := ho7.sl; clear hs7))
    have hq11 := heap_alloc_new w10 (.cells #[.int .u32 0, .slice A7 0 c7, .int .i64 (-1), .int .i64 0, .bool false] 25)
    have hba := bel1 w10 (.cells #[.int .u32 0, .slice A7 0 c7, .int .i64 (-1), .int .i64 0, .bool false] 25)
    have hb911 := stepB hb10 hba
    have hp11 := (hb911.block pb pl9).trans hp9
    have ho11 := ho7.below hba
    have hb11 := stepB HB9.out hb911
    obtain ⟨q7, Hq7⟩ : ∃ q, Hid (w10.heap.size = q) := ⟨_, Lib.hid rfl⟩
    have hpq : pb < q7 := by rw [← Hq7.out]; have := hb10.size; omega
    rw [Hq7.out] at hq11
    have hn7 : ([] : List (Int × Int)).length = 0 := rfl
    try simp only [List.length_nil] at hq11 hp11 ho11 hb11 ⊢
    generalize w10.alloc (.cells #[.int .u32 0, .slice A7 0 c7, .int .i64 (-1), .int .i64 0, .bool false] 25) = w11 at hq11 hp11 ho11 hb11 ⊢
    rw [Hq7.out]
    have HQ11 := Lib.hid hq11; have HP11 := Lib.hid hp11; have HO11 := Lib.hid ho11; have HB11 := Lib.hid hb11
    clear hq11 hp11 ho11 hb11 hba hb911 hb10 ho7 hp9 pl9 HP9 HB9 Hq7 hn7
    have hpz : w11.heap[pb]? = some (.cells (zero64.map cu8).toArray 51 (0, 0)) := by rw [HP11.out, Hza.out]
    have hBy := (HBy.out.below HB11.out)
    go_upto_region 11 with (refine wpList_plain rfl fun K hK => ?_; refine wp_copy_bytes rfl (.tmp 23) (.tmp 24) rfl pb w.heap.size rfl bp blen bcap bs rfl hBy zero64 rfl 51 hpz ?_; intro n12 w12 hz12 hg12; refine hK _ _ ?_; clear hK)
    have ql11 : q7 < w11.heap.size := (Array.getElem?_eq_some_iff.1 HQ11.out).1
    have hq12 := (hg12.block q7 ql11 (by simp; omega)).trans HQ11.out
    have ho12 : OwnR 0 w12 (.slice A7 0 c7) [] := by
      have h1 := HO11.out
      have hne := own_other h1 HP11.out (by decide)
      exact World.ownsRow.mono (World.ownsRow.kept h1 hg12 (.inr (fun e => hne e.symm))) (Nat.zero_le _)
    have hb12 := grown_below HB11.out hg12 HB11.out.size hwp
    rw [Hcp.out] at hz12
    have HQ12 := Lib.hid hq12; have HO12 := Lib.hid ho12; have HB12 := Lib.hid hb12
    have pl12 : pb < w12.heap.size := (Array.getElem?_eq_some_iff.1 hz12).1
    have ql12 : q7 < w12.heap.size := (Array.getElem?_eq_some_iff.1 hq12).1
    clear hq12 ho12 hb12 hg12 hpz hBy ql11 HQ11 HP11 HO11 HB11
    go_upto_region 12 with (first
      | (refine wpList_load_row rfl 51 _ rfl pb rfl 51 cp (0, 0) _ hz12 Try.underlying51 rfl Hpc.out ?_)
      | (go_at_call 23; refine (Kx.out _).mono ?_; rintro e w14 ⟨v8, rfl, ho8, hb14⟩; obtain ⟨A8, c8, rfl, hs8⟩ := ho8.sl; clear hs8))
    obtain ⟨n8, Hn8⟩ : ∃ n, Hid (l8.length = n) := ⟨_, Lib.hid rfl⟩
    rw [Hn8.out] at ho8 ⊢
    have hq15 := heap_alloc_new w14 (.cells #[.int .u32 g8, .slice A8 n8 c8, .int .i64 h8, .int .i64 t8, .bool p8] 25)
    have hba := bel1 w14 (.cells #[.int .u32 g8, .slice A8 n8 c8, .int .i64 h8, .int .i64 t8, .bool p8] 25)
    have hb1215 := stepB hb14 hba
    have hn15 := (hb1215.block q7 ql12).trans HQ12.out
    have hon := HO12.out.below hb1215
    have hox := ho8.below hba
    have hb15 := stepB HB12.out hb1215
    obtain ⟨q8, Hq8⟩ : ∃ q, Hid (w14.heap.size = q) := ⟨_, Lib.hid rfl⟩
    rw [Hq8.out] at hq15
    generalize w14.alloc (.cells #[.int .u32 g8, .slice A8 n8 c8, .int .i64 h8, .int .i64 t8, .bool p8] 25) = w15 at hq15 hn15 hon hox hb15 ⊢
    rw [Hq8.out]
    have HQ8 := Lib.hid hq15; have HQ7 := Lib.hid hn15; have HSn := Lib.hid (OwnR.sl2 hon); have HSx := Lib.hid (OwnR.sl2 hox); have HB15 := Lib.hid hb15
    clear hq15 hn15 hon hox hb15 hba hb1215 hb14 ho8 hz12 pl12 ql12 HQ12 HO12 HB12 Hq8
    obtain ⟨q8l, z0, z1, z2, z3, z4, zf⟩ := box5 HQ8.out
    have q7l : q7 < w15.heap.size := (Array.getElem?_eq_some_iff.1 HQ7.out).1
    have Ksd : Hid (∀ W, Below w15.heap.size w15 W → Calls Try.prog 11 #[.agg #[.int .u32 g8, .slice A8 n8 c8, .int .i64 h8, .int .i64 t8, .bool p8]] W (Ret (.bool true) W)) := Lib.hid fun W hb => by
      rw [← Hrs.out.1]
      have h1 := HSx.out.1
      exact sound_any g8 h8 t8 p8 A8 n8 c8 l8 W h1 (by have h2 := (sound_iff.1 Hrs.out.1).1; omega) (HSx.out.below hb).2.2.2
    have Ksn : Hid (∀ W, Below w15.heap.size w15 W → Calls Try.prog 16 #[.agg #[.int .u32 0, .slice A7 0 c7, .int .i64 (-1), .int .i64 0, .bool false], .agg #[.int .u32 0, .slice none 0 0, .int .i64 (-1), .int .i64 0, .bool false]] W (Ret (.bool true) W)) := Lib.hid fun W hb =>
      same_any ⟨0, [], -1, 0, false⟩ A7 none 0 0 c7 0 W (by simp) (HSn.out.below hb) ⟨rfl, Nat.le_refl _, fun _ => rfl, .inl rfl⟩
    cases p8 with
    | true =>
      refine held_start (w0 := w15) (Below.refl _ _) (by kernel_rfl) (fun wd hS => ?_)
      refine wpAnyH_take (i := 0) (v := .agg #[.int .u32 g8, .slice A8 n8 c8, .int .i64 h8, .int .i64 t8, .bool true]) rfl (by kernel_rfl) (by kernel_rfl) (by kernel_rfl) (fun _ _ _ h => h) (Or.inl ⟨by rfl, ?_⟩) hS ?_
      · intro W hW; exact exec_load5 rfl rfl (load5 ((hW.block _ q8l).trans HQ8.out) Try.underlying25 infoTb)
      try simp only [List.getElem_toArray, List.getElem_cons_succ, List.getElem_cons_zero, Act.put, List.setIfInBounds_toArray, List.set]
      refine wpAnyH_one 1 _ rfl (by kernel_rfl) (by rfl) (fun K hK => ?_)
      go_simp
      refine (Ksd.out _ hS).mono ?_
      rintro e y1 ⟨rfl, hy1⟩
      have hS1 : Below w15.heap.size w15 y1 := stepB hS hy1
      refine hK _ _ hS1 ?_
      clear hK K
      try simp only [List.getElem_toArray, List.getElem_cons_succ, List.getElem_cons_zero, Act.put, List.setIfInBounds_toArray, List.set]
      refine wpAnyH_take (i := 2) (v := .bool true) rfl (by kernel_rfl) (by kernel_rfl) (by kernel_rfl) (fun _ _ _ h => h) (Or.inl ⟨by rfl, ?_⟩) hS1 ?_
      · intro W hW; go_simp
      try simp only [List.getElem_toArray, List.getElem_cons_succ, List.getElem_cons_zero, Act.put, List.setIfInBounds_toArray, List.set]
      refine wpAnyH_take (i := 3) (v := .agg #[.int .u32 0, .slice A7 0 c7, .int .i64 (-1), .int .i64 0, .bool false]) rfl (by kernel_rfl) (by kernel_rfl) (by kernel_rfl) (fun _ _ _ h => h) (Or.inl ⟨by rfl, ?_⟩) hS1 ?_
      · intro W hW; exact exec_load5 rfl rfl (load5 ((hW.block _ q7l).trans HQ7.out) Try.underlying25 infoTb)
      try simp only [List.getElem_toArray, List.getElem_cons_succ, List.getElem_cons_zero, Act.put, List.setIfInBounds_toArray, List.set]
      refine wpAnyH_one 4 _ rfl (by kernel_rfl) (by rfl) (fun K hK => ?_)
      go_simp
      refine (Kn.out _).mono ?_
      rintro e y2 ⟨rfl, hy2⟩
      have hS2 : Below w15.heap.size w15 y2 := stepB hS1 hy2
      refine hK _ _ hS2 ?_
      clear hK K
      try simp only [List.getElem_toArray, List.getElem_cons_succ, List.getElem_cons_zero, Act.put, List.setIfInBounds_toArray, List.set]
      refine wpAnyH_one 5 _ rfl (by kernel_rfl) (by rfl) (fun K hK => ?_)
      go_simp
      refine (Ksn.out _ hS2).mono ?_
      rintro e y3 ⟨rfl, hy3⟩
      have hS3 : Below w15.heap.size w15 y3 := stepB hS2 hy3
      refine hK _ _ hS3 ?_
      clear hK K
      try simp only [List.getElem_toArray, List.getElem_cons_succ, List.getElem_cons_zero, Act.put, List.setIfInBounds_toArray, List.set]
      refine wpAnyH_take (i := 6) (v := .bool true) rfl (by kernel_rfl) (by kernel_rfl) (by kernel_rfl) (fun _ _ _ h => h) (Or.inl ⟨by rfl, ?_⟩) hS3 ?_
      · intro W hW; go_simp
      try simp only [List.getElem_toArray, List.getElem_cons_succ, List.getElem_cons_zero, Act.put, List.setIfInBounds_toArray, List.set]
      refine wpAnyH_take (i := 7) (v := .bool true) rfl (by kernel_rfl) (by kernel_rfl) (by kernel_rfl) (fun _ _ _ h => h) (Or.inl ⟨by rfl, ?_⟩) hS3 ?_
      · intro W hW; go_simp
      try simp only [List.getElem_toArray, List.getElem_cons_succ, List.getElem_cons_zero, Act.put, List.setIfInBounds_toArray, List.set]
      refine wpAnyH_take (i := 8) (v := .pointer (some ⟨q8, 4, none⟩)) rfl (by kernel_rfl) (by kernel_rfl) (by kernel_rfl) (fun _ _ _ h => h) (Or.inl ⟨by rfl, ?_⟩) hS3 ?_
      · intro W hW; go_simp
      try simp only [List.getElem_toArray, List.getElem_cons_succ, List.getElem_cons_zero, Act.put, List.setIfInBounds_toArray, List.set]
      refine wpAnyH_take (i := 9) (v := .bool true) rfl (by kernel_rfl) (by kernel_rfl) (by kernel_rfl) (fun _ _ _ h => h) (Or.inl ⟨by rfl, ?_⟩) hS3 ?_
      · intro W hW; have e1 := (hW.cell (p := ⟨q8, 4, none⟩) q8l).trans z4; go_simp
      try simp only [List.getElem_toArray, List.getElem_cons_succ, List.getElem_cons_zero, Act.put, List.setIfInBounds_toArray, List.set]
      refine wpAnyH_take (i := 10) (v := .bool true) rfl (by kernel_rfl) (by kernel_rfl) (by kernel_rfl) (fun _ _ _ h => h) (Or.inl ⟨by rfl, ?_⟩) hS3 ?_
      · intro W hW; go_simp
      try simp only [List.getElem_toArray, List.getElem_cons_succ, List.getElem_cons_zero, Act.put, List.setIfInBounds_toArray, List.set]
      refine wpAnyH_take (i := 11) (v := undef) rfl (by kernel_rfl) (by kernel_rfl) (by kernel_rfl) (fun _ _ _ h => h) (Or.inr ⟨by rfl, rfl⟩) hS3 ?_
      try simp only [List.getElem_toArray, List.getElem_cons_succ, List.getElem_cons_zero, Act.put, List.setIfInBounds_toArray, List.set]
      refine wpAnyH_take (i := 12) (v := undef) rfl (by kernel_rfl) (by kernel_rfl) (by kernel_rfl) (fun _ _ _ h => h) (Or.inr ⟨by rfl, rfl⟩) hS3 ?_
      try simp only [List.getElem_toArray, List.getElem_cons_succ, List.getElem_cons_zero, Act.put, List.setIfInBounds_toArray, List.set]
      refine wpAnyH_take (i := 13) (v := undef) rfl (by kernel_rfl) (by kernel_rfl) (by kernel_rfl) (fun _ _ _ h => h) (Or.inr ⟨by rfl, rfl⟩) hS3 ?_
      try simp only [List.getElem_toArray, List.getElem_cons_succ, List.getElem_cons_zero, Act.put, List.setIfInBounds_toArray, List.set]
      refine wpAnyH_take (i := 14) (v := .bool true) rfl (by kernel_rfl) (by kernel_rfl) (by kernel_rfl) (fun _ _ _ h => h) (Or.inl ⟨by rfl, ?_⟩) hS3 ?_
      · intro W hW; go_simp
      try simp only [List.getElem_toArray, List.getElem_cons_succ, List.getElem_cons_zero, Act.put, List.setIfInBounds_toArray, List.set]
      refine wpAnyH_take (i := 15) (v := .bool true) rfl (by kernel_rfl) (by kernel_rfl) (by kernel_rfl) (fun _ _ _ h => h) (Or.inl ⟨by rfl, ?_⟩) hS3 ?_
      · intro W hW; go_simp
      try simp only [List.getElem_toArray, List.getElem_cons_succ, List.getElem_cons_zero, Act.put, List.setIfInBounds_toArray, List.set]
      refine wpAnyH_take (i := 16) (v := .bool true) rfl (by kernel_rfl) (by kernel_rfl) (by kernel_rfl) (fun _ _ _ h => h) (Or.inl ⟨by rfl, ?_⟩) hS3 ?_
      · intro W hW; go_simp
      try simp only [List.getElem_toArray, List.getElem_cons_succ, List.getElem_cons_zero, Act.put, List.setIfInBounds_toArray, List.set]
      refine wpAnyH_done (by kernel_rfl) ?_ _
      go_wp2
      go_ret
      exact ⟨rfl, stepB HB15.out hS3⟩
    | false =>
      have e8 := Hrs.out.2 rfl
      simp only [Tb.mk.injEq] at e8
      have He8 := Lib.hid e8
      clear e8
      have Ksx : Hid (∀ W, Below w15.heap.size w15 W → Calls Try.prog 16 #[.agg #[.int .u32 g8, .slice A8 n8 c8, .int .i64 h8, .int .i64 t8, .bool false], .agg #[.int .u32 0, .slice none 0 0, .int .i64 (-1), .int .i64 0, .bool false]] W (Ret (.bool true) W)) := Lib.hid fun W hb => by
        obtain ⟨r1, r2, r3, r4, _⟩ := He8.out
        have h1 := HSx.out.below hb
        rw [r2] at h1
        rw [r1, r3, r4]
        exact same_any ⟨0, [], -1, 0, false⟩ A8 none n8 0 c8 0 W (by simp) h1 ⟨rfl, Nat.le_refl _, fun _ => rfl, .inl rfl⟩
      refine held_start (w0 := w15) (Below.refl _ _) (by kernel_rfl) (fun wd hS => ?_)
      refine wpAnyH_take (i := 0) (v := .agg #[.int .u32 g8, .slice A8 n8 c8, .int .i64 h8, .int .i64 t8, .bool false]) rfl (by kernel_rfl) (by kernel_rfl) (by kernel_rfl) (fun _ _ _ h => h) (Or.inl ⟨by rfl, ?_⟩) hS ?_
      · intro W hW; exact exec_load5 rfl rfl (load5 ((hW.block _ q8l).trans HQ8.out) Try.underlying25 infoTb)
      try simp only [List.getElem_toArray, List.getElem_cons_succ, List.getElem_cons_zero, Act.put, List.setIfInBounds_toArray, List.set]
      refine wpAnyH_one 1 _ rfl (by kernel_rfl) (by rfl) (fun K hK => ?_)
      go_simp
      refine (Ksd.out _ hS).mono ?_
      rintro e y1 ⟨rfl, hy1⟩
      have hS1 : Below w15.heap.size w15 y1 := stepB hS hy1
      refine hK _ _ hS1 ?_
      clear hK K
      try simp only [List.getElem_toArray, List.getElem_cons_succ, List.getElem_cons_zero, Act.put, List.setIfInBounds_toArray, List.set]
      refine wpAnyH_take (i := 2) (v := .bool true) rfl (by kernel_rfl) (by kernel_rfl) (by kernel_rfl) (fun _ _ _ h => h) (Or.inl ⟨by rfl, ?_⟩) hS1 ?_
      · intro W hW; go_simp
      try simp only [List.getElem_toArray, List.getElem_cons_succ, List.getElem_cons_zero, Act.put, List.setIfInBounds_toArray, List.set]
      refine wpAnyH_take (i := 3) (v := .agg #[.int .u32 0, .slice A7 0 c7, .int .i64 (-1), .int .i64 0, .bool false]) rfl (by kernel_rfl) (by kernel_rfl) (by kernel_rfl) (fun _ _ _ h => h) (Or.inl ⟨by rfl, ?_⟩) hS1 ?_
      · intro W hW; exact exec_load5 rfl rfl (load5 ((hW.block _ q7l).trans HQ7.out) Try.underlying25 infoTb)
      try simp only [List.getElem_toArray, List.getElem_cons_succ, List.getElem_cons_zero, Act.put, List.setIfInBounds_toArray, List.set]
      refine wpAnyH_one 4 _ rfl (by kernel_rfl) (by rfl) (fun K hK => ?_)
      go_simp
      refine (Kn.out _).mono ?_
      rintro e y2 ⟨rfl, hy2⟩
      have hS2 : Below w15.heap.size w15 y2 := stepB hS1 hy2
      refine hK _ _ hS2 ?_
      clear hK K
      try simp only [List.getElem_toArray, List.getElem_cons_succ, List.getElem_cons_zero, Act.put, List.setIfInBounds_toArray, List.set]
      refine wpAnyH_one 5 _ rfl (by kernel_rfl) (by rfl) (fun K hK => ?_)
      go_simp
      refine (Ksn.out _ hS2).mono ?_
      rintro e y3 ⟨rfl, hy3⟩
      have hS3 : Below w15.heap.size w15 y3 := stepB hS2 hy3
      refine hK _ _ hS3 ?_
      clear hK K
      try simp only [List.getElem_toArray, List.getElem_cons_succ, List.getElem_cons_zero, Act.put, List.setIfInBounds_toArray, List.set]
      refine wpAnyH_take (i := 6) (v := .bool true) rfl (by kernel_rfl) (by kernel_rfl) (by kernel_rfl) (fun _ _ _ h => h) (Or.inl ⟨by rfl, ?_⟩) hS3 ?_
      · intro W hW; go_simp
      try simp only [List.getElem_toArray, List.getElem_cons_succ, List.getElem_cons_zero, Act.put, List.setIfInBounds_toArray, List.set]
      refine wpAnyH_take (i := 7) (v := .bool true) rfl (by kernel_rfl) (by kernel_rfl) (by kernel_rfl) (fun _ _ _ h => h) (Or.inl ⟨by rfl, ?_⟩) hS3 ?_
      · intro W hW; go_simp
      try simp only [List.getElem_toArray, List.getElem_cons_succ, List.getElem_cons_zero, Act.put, List.setIfInBounds_toArray, List.set]
      refine wpAnyH_take (i := 8) (v := .pointer (some ⟨q8, 4, none⟩)) rfl (by kernel_rfl) (by kernel_rfl) (by kernel_rfl) (fun _ _ _ h => h) (Or.inl ⟨by rfl, ?_⟩) hS3 ?_
      · intro W hW; go_simp
      try simp only [List.getElem_toArray, List.getElem_cons_succ, List.getElem_cons_zero, Act.put, List.setIfInBounds_toArray, List.set]
      refine wpAnyH_take (i := 9) (v := .bool false) rfl (by kernel_rfl) (by kernel_rfl) (by kernel_rfl) (fun _ _ _ h => h) (Or.inl ⟨by rfl, ?_⟩) hS3 ?_
      · intro W hW; have e1 := (hW.cell (p := ⟨q8, 4, none⟩) q8l).trans z4; go_simp
      try simp only [List.getElem_toArray, List.getElem_cons_succ, List.getElem_cons_zero, Act.put, List.setIfInBounds_toArray, List.set]
      refine wpAnyH_take (i := 10) (v := .bool false) rfl (by kernel_rfl) (by kernel_rfl) (by kernel_rfl) (fun _ _ _ h => h) (Or.inl ⟨by rfl, ?_⟩) hS3 ?_
      · intro W hW; go_simp
      try simp only [List.getElem_toArray, List.getElem_cons_succ, List.getElem_cons_zero, Act.put, List.setIfInBounds_toArray, List.set]
      refine wpAnyH_take (i := 11) (v := .agg #[.int .u32 g8, .slice A8 n8 c8, .int .i64 h8, .int .i64 t8, .bool false]) rfl (by kernel_rfl) (by kernel_rfl) (by kernel_rfl) (fun _ _ _ h => h) (Or.inl ⟨by rfl, ?_⟩) hS3 ?_
      · intro W hW; exact exec_load5 rfl rfl (load5 ((hW.block _ q8l).trans HQ8.out) Try.underlying25 infoTb)
      try simp only [List.getElem_toArray, List.getElem_cons_succ, List.getElem_cons_zero, Act.put, List.setIfInBounds_toArray, List.set]
      refine wpAnyH_one 12 _ rfl (by kernel_rfl) (by rfl) (fun K hK => ?_)
      go_simp
      refine (Kn.out _).mono ?_
      rintro e y4 ⟨rfl, hy4⟩
      have hS4 : Below w15.heap.size w15 y4 := stepB hS3 hy4
      refine hK _ _ hS4 ?_
      clear hK K
      try simp only [List.getElem_toArray, List.getElem_cons_succ, List.getElem_cons_zero, Act.put, List.setIfInBounds_toArray, List.set]
      refine wpAnyH_one 13 _ rfl (by kernel_rfl) (by rfl) (fun K hK => ?_)
      go_simp
      refine (Ksx.out _ hS4).mono ?_
      rintro e y5 ⟨rfl, hy5⟩
      have hS5 : Below w15.heap.size w15 y5 := stepB hS4 hy5
      refine hK _ _ hS5 ?_
      clear hK K
      try simp only [List.getElem_toArray, List.getElem_cons_succ, List.getElem_cons_zero, Act.put, List.setIfInBounds_toArray, List.set]
      refine wpAnyH_take (i := 14) (v := .bool true) rfl (by kernel_rfl) (by kernel_rfl) (by kernel_rfl) (fun _ _ _ h => h) (Or.inl ⟨by rfl, ?_⟩) hS5 ?_
      · intro W hW; go_simp
      try simp only [List.getElem_toArray, List.getElem_cons_succ, List.getElem_cons_zero, Act.put, List.setIfInBounds_toArray, List.set]
      refine wpAnyH_take (i := 15) (v := .bool true) rfl (by kernel_rfl) (by kernel_rfl) (by kernel_rfl) (fun _ _ _ h => h) (Or.inl ⟨by rfl, ?_⟩) hS5 ?_
      · intro W hW; go_simp
      try simp only [List.getElem_toArray, List.getElem_cons_succ, List.getElem_cons_zero, Act.put, List.setIfInBounds_toArray, List.set]
      refine wpAnyH_take (i := 16) (v := .bool true) rfl (by kernel_rfl) (by kernel_rfl) (by kernel_rfl) (fun _ _ _ h => h) (Or.inl ⟨by rfl, ?_⟩) hS5 ?_
      · intro W hW; go_simp
      try simp only [List.getElem_toArray, List.getElem_cons_succ, List.getElem_cons_zero, Act.put, List.setIfInBounds_toArray, List.set]
      refine wpAnyH_done (by kernel_rfl) ?_ _
      go_wp2
      go_ret
      exact ⟨rfl, stepB HB15.out hS5⟩
  | true =>
    have Hl6 := Lib.hid (sound_iff.1 Hsb.out).1
    obtain ⟨pv, Hpv⟩ : ∃ x, Hid (((pageL ⟨g, l, h, t, p⟩).map cu8).toArray = x) := ⟨_, Lib.hid rfl⟩
    have Krd : Hid (∀ W, Calls Try.prog 23 #[.agg pv] W (fun e w' => ∃ v, e = .returned (.agg #[.int .u32 g, v, .int .i64 h, .int .i64 t, .bool true]) ∧ OwnR W.heap.size w' v l ∧ Below W.heap.size W w')) := Lib.hid fun W => by
      have := read_any (pageL ⟨g, l, h, t, p⟩) (pageL_len _) W
      rw [Hrp.out Hsb.out, Hpv.out] at this
      exact this
    rw [Hpv.out] at Kpg
    go_enter Try.func6, Try.ntmps6
    go_upto_region 4 with (first | (go_at_call 10; refine (Kst.out _).mono ?_; rintro e w2 ⟨rfl, hb2⟩; have hx2 := (hb2.block w.heap.size (by simp)).trans HX0.out; have HB2 := Lib.hid (stepB (bel1 w _) hb2); clear hb2; have HX2 := Lib.hid hx2; clear hx2; obtain ⟨xl2, x0_2, x1_2, x2_2, x3_2, x4_2, xf2⟩ := box5 HX2.out) | (go_at_call 12; refine (Krs.out _ HB2.out).mono ?_; rintro e w3 ⟨rfl, hb3⟩; have HX3 := Lib.hid ((hb3.block w.heap.size xl2).trans HX2.out); have HB3 := Lib.hid (stepB HB2.out hb3); clear hb3; obtain ⟨xl3, x0_3, x1_3, x2_3, x3_3, x4_3, xf3⟩ := box5 HX3.out))
    go_upto_region 5 with (fail)
    have hu4 := heap_alloc_new w3 (.cells #[.int .u32 g, .slice A len cap, .int .i64 h, .int .i64 t, .bool p] 25)
    have hb34 := bel1 w3 (.cells #[.int .u32 g, .slice A len cap, .int .i64 h, .int .i64 t, .bool p] 25)
    have hx4 := (hb34.block w.heap.size xl3).trans HX3.out
    have hb4 := stepB HB3.out hb34
    obtain ⟨u, Hu⟩ : ∃ u, Hid (w3.heap.size = u) := ⟨_, Lib.hid rfl⟩
    have hwu : w.heap.size < u := by rw [← Hu.out]; exact xl3
    rw [Hu.out] at hu4
    generalize w3.alloc (.cells #[.int .u32 g, .slice A len cap, .int .i64 h, .int .i64 t, .bool p] 25) = w4 at hu4 hx4 hb4 hb34 ⊢
    rw [Hu.out]
    clear hb34 HX3 HB3 HX2 HB2 Hu HX0 xl2 x0_2 x1_2 x2_2 x3_2 x4_2 xf2 xl3 x0_3 x1_3 x2_3 x3_3 x4_3 xf3
    obtain ⟨ul, u0, u1, u2, u3, u4, uf⟩ := box5 hu4
    go_upto_region 6 with (fail)
    have hu5 : (w4.setCell ⟨u, 4, none⟩ (.bool true)).heap[u]? = some (.cells #[.int .u32 g, .slice A len cap, .int .i64 h, .int .i64 t, .bool true] 25 (0, 0)) := (heap_setCell_same w4 u 4 _ 25 (.bool true) hu4).trans rfl
    have hx5 := (Below.heap_setCell w4 ⟨u, 4, none⟩ (.bool true) w.heap.size (by show w.heap.size ≠ u; omega)).trans hx4
    have hb5 := hb4.setCell (p := ⟨u, 4, none⟩) (show w.heap.size ≤ u by omega) (.bool true)
    generalize w4.setCell ⟨u, 4, none⟩ (.bool true) = w5 at hu5 hx5 hb5 ⊢
    have HU5 := Lib.hid hu5; have HX5 := Lib.hid hx5; have HB5 := Lib.hid hb5
    have xl5 : w.heap.size < w5.heap.size := (Array.getElem?_eq_some_iff.1 hx5).1
    have ul5 : u < w5.heap.size := (Array.getElem?_eq_some_iff.1 hu5).1
    clear hu4 hx4 hb4 hu5 hx5 hb5 ul u0 u1 u2 u3 u4 uf
    refine held_start (w0 := w5) (Below.refl _ _) (by kernel_rfl) (fun wd hS => ?_)
    refine wpAnyH_take (i := 0) (v := .agg #[.int .u32 g, .slice A len cap, .int .i64 h, .int .i64 t, .bool p]) rfl (by kernel_rfl) (by kernel_rfl) (by kernel_rfl) (fun _ _ _ h => h) (Or.inl ⟨by rfl, ?_⟩) hS ?_
    · intro W hW; exact exec_load5 rfl rfl (load5 ((hW.block _ xl5).trans HX5.out) Try.underlying25 infoTb)
    try simp only [List.getElem_toArray, List.getElem_cons_succ, List.getElem_cons_zero, Act.put, List.setIfInBounds_toArray, List.set]
    refine wpAnyH_take (i := 3) (v := .agg #[.int .u32 g, .slice A len cap, .int .i64 h, .int .i64 t, .bool true]) rfl (by kernel_rfl) (by kernel_rfl) (by kernel_rfl) (fun _ _ _ h => h) (Or.inl ⟨by rfl, ?_⟩) hS ?_
    · intro W hW; exact exec_load5 rfl rfl (load5 ((hW.block _ ul5).trans HU5.out) Try.underlying25 infoTb)
    try simp only [List.getElem_toArray, List.getElem_cons_succ, List.getElem_cons_zero, Act.put, List.setIfInBounds_toArray, List.set]
    refine wpAnyH_one 1 _ rfl (by kernel_rfl) (by rfl) (fun K hK => ?_)
    go_simp
    refine (Kpg.out _ (stepB HB5.out hS)).mono ?_
    rintro e w6 ⟨rfl, hb6⟩
    have hS6 : Below w5.heap.size w5 w6 := stepB hS hb6
    refine hK _ _ hS6 ?_
    clear hK K
    try simp only [List.getElem_toArray, List.getElem_cons_succ, List.getElem_cons_zero, Act.put, List.setIfInBounds_toArray, List.set]
    refine wpAnyH_one 2 _ rfl (by kernel_rfl) (by rfl) (fun K hK => ?_)
    go_simp
    refine (Krd.out _).mono ?_
    rintro e w7 ⟨v7, rfl, ho7, hb7⟩
    have hS7 : Below w5.heap.size w5 w7 := stepB hS6 hb7
    obtain ⟨A7, c7, rfl, hs7⟩ := ho7.sl
    have hsm := same_any ⟨g, l, h, t, true⟩ A7 A l.length len c7 cap w7 Hl6.out hs7 (HS.out.below (stepB HB5.out hS7))
    refine hK _ _ hS7 ?_
    clear hK K
    try simp only [List.getElem_toArray, List.getElem_cons_succ, List.getElem_cons_zero, Act.put, List.setIfInBounds_toArray, List.set]
    refine wpAnyH_one 4 _ rfl (by kernel_rfl) (by rfl) (fun K hK => ?_)
    go_simp
    refine hsm.mono ?_
    rintro e w8 ⟨rfl, hb8⟩
    have hS8 : Below w5.heap.size w5 w8 := stepB hS7 hb8
    refine hK _ _ hS8 ?_
    clear hK K
    try simp only [List.getElem_toArray, List.getElem_cons_succ, List.getElem_cons_zero, Act.put, List.setIfInBounds_toArray, List.set]
    refine wpAnyH_take (i := 5) (v := .bool false) rfl (by kernel_rfl) (by kernel_rfl) (by kernel_rfl) (fun _ _ _ h => h) (Or.inl ⟨by rfl, ?_⟩) hS8 ?_
    · intro W hW; go_simp
    try simp only [List.getElem_toArray, List.getElem_cons_succ, List.getElem_cons_zero, Act.put, List.setIfInBounds_toArray, List.set]
    refine wpAnyH_done (by kernel_rfl) ?_ _
    have HB8 := Lib.hid (stepB HB5.out hS8)
    clear hS hS6 hS7 hS8 hsm hb6 hb7 hb8 ho7 hs7 HU5 HX5 HB5 xl5 ul5 Kpg Krd Krs Hrp hwu
    go_upto_region 8 with (fail)
    go_upto_region 9 with (refine wpList_alloc_arr rfl 51 rfl _ hal ?_)
    have hp9 := heap_alloc_new w8 (.cells za 51)
    have hb89 := bel1 w8 (.cells za 51)
    have hb9 := stepB HB8.out hb89
    obtain ⟨pb, Hpb⟩ : ∃ q, Hid (w8.heap.size = q) := ⟨_, Lib.hid rfl⟩
    have hwp : w.heap.size ≤ pb := by rw [← Hpb.out]; exact HB8.out.size
    rw [Hpb.out] at hp9
    generalize w8.alloc (.cells za 51) = w9 at hp9 hb89 hb9 ⊢
    rw [Hpb.out]
    have HP9 := Lib.hid hp9; have HB9 := Lib.hid hb9
    clear hp9 hb89 hb9 hal HB8 Hpb
    have hp9 := HP9.out
    have pl9 : pb < w9.heap.size := (Array.getElem?_eq_some_iff.1 hp9).1
    go_upto_region 10 with (first
      | (refine wpList_load_row rfl 51 _ rfl pb rfl 51 za (0, 0) _ hp9 Try.underlying51 rfl Hps.out ?_)
      | (go_at_call 23; refine (Kz.out _).mono ?_; rintro e w10 ⟨v7, rfl, ho7, hb10⟩; obtain ⟨A7, c7, rfl, hs7⟩ := ho7.sl; clear hs7))
    have hq11 := heap_alloc_new w10 (.cells #[.int .u32 0, .slice A7 0 c7, .int .i64 (-1), .int .i64 0, .bool false] 25)
    have hba := bel1 w10 (.cells #[.int .u32 0, .slice A7 0 c7, .int .i64 (-1), .int .i64 0, .bool false] 25)
    have hb911 := stepB hb10 hba
    have hp11 := (hb911.block pb pl9).trans hp9
    have ho11 := ho7.below hba
    have hb11 := stepB HB9.out hb911
    obtain ⟨q7, Hq7⟩ : ∃ q, Hid (w10.heap.size = q) := ⟨_, Lib.hid rfl⟩
    have hpq : pb < q7 := by rw [← Hq7.out]; have := hb10.size; omega
    rw [Hq7.out] at hq11
    have hn7 : ([] : List (Int × Int)).length = 0 := rfl
    try simp only [List.length_nil] at hq11 hp11 ho11 hb11 ⊢
    generalize w10.alloc (.cells #[.int .u32 0, .slice A7 0 c7, .int .i64 (-1), .int .i64 0, .bool false] 25) = w11 at hq11 hp11 ho11 hb11 ⊢
    rw [Hq7.out]
    have HQ11 := Lib.hid hq11; have HP11 := Lib.hid hp11; have HO11 := Lib.hid ho11; have HB11 := Lib.hid hb11
    clear hq11 hp11 ho11 hb11 hba hb911 hb10 ho7 hp9 pl9 HP9 HB9 Hq7 hn7
    have hpz : w11.heap[pb]? = some (.cells (zero64.map cu8).toArray 51 (0, 0)) := by rw [HP11.out, Hza.out]
    have hBy := (HBy.out.below HB11.out)
    go_upto_region 11 with (refine wpList_plain rfl fun K hK => ?_; refine wp_copy_bytes rfl (.tmp 23) (.tmp 24) rfl pb w.heap.size rfl bp blen bcap bs rfl hBy zero64 rfl 51 hpz ?_; intro n12 w12 hz12 hg12; refine hK _ _ ?_; clear hK)
    have ql11 : q7 < w11.heap.size := (Array.getElem?_eq_some_iff.1 HQ11.out).1
    have hq12 := (hg12.block q7 ql11 (by simp; omega)).trans HQ11.out
    have ho12 : OwnR 0 w12 (.slice A7 0 c7) [] := by
      have h1 := HO11.out
      have hne := own_other h1 HP11.out (by decide)
      exact World.ownsRow.mono (World.ownsRow.kept h1 hg12 (.inr (fun e => hne e.symm))) (Nat.zero_le _)
    have hb12 := grown_below HB11.out hg12 HB11.out.size hwp
    rw [Hcp.out] at hz12
    have HQ12 := Lib.hid hq12; have HO12 := Lib.hid ho12; have HB12 := Lib.hid hb12
    have pl12 : pb < w12.heap.size := (Array.getElem?_eq_some_iff.1 hz12).1
    have ql12 : q7 < w12.heap.size := (Array.getElem?_eq_some_iff.1 hq12).1
    clear hq12 ho12 hb12 hg12 hpz hBy ql11 HQ11 HP11 HO11 HB11
    go_upto_region 12 with (first
      | (refine wpList_load_row rfl 51 _ rfl pb rfl 51 cp (0, 0) _ hz12 Try.underlying51 rfl Hpc.out ?_)
      | (go_at_call 23; refine (Kx.out _).mono ?_; rintro e w14 ⟨v8, rfl, ho8, hb14⟩; obtain ⟨A8, c8, rfl, hs8⟩ := ho8.sl; clear hs8))
    obtain ⟨n8, Hn8⟩ : ∃ n, Hid (l8.length = n) := ⟨_, Lib.hid rfl⟩
    rw [Hn8.out] at ho8 ⊢
    have hq15 := heap_alloc_new w14 (.cells #[.int .u32 g8, .slice A8 n8 c8, .int .i64 h8, .int .i64 t8, .bool p8] 25)
    have hba := bel1 w14 (.cells #[.int .u32 g8, .slice A8 n8 c8, .int .i64 h8, .int .i64 t8, .bool p8] 25)
    have hb1215 := stepB hb14 hba
    have hn15 := (hb1215.block q7 ql12).trans HQ12.out
    have hon := HO12.out.below hb1215
    have hox := ho8.below hba
    have hb15 := stepB HB12.out hb1215
    obtain ⟨q8, Hq8⟩ : ∃ q, Hid (w14.heap.size = q) := ⟨_, Lib.hid rfl⟩
    rw [Hq8.out] at hq15
    generalize w14.alloc (.cells #[.int .u32 g8, .slice A8 n8 c8, .int .i64 h8, .int .i64 t8, .bool p8] 25) = w15 at hq15 hn15 hon hox hb15 ⊢
    rw [Hq8.out]
    have HQ8 := Lib.hid hq15; have HQ7 := Lib.hid hn15; have HSn := Lib.hid (OwnR.sl2 hon); have HSx := Lib.hid (OwnR.sl2 hox); have HB15 := Lib.hid hb15
    clear hq15 hn15 hon hox hb15 hba hb1215 hb14 ho8 hz12 pl12 ql12 HQ12 HO12 HB12 Hq8
    obtain ⟨q8l, z0, z1, z2, z3, z4, zf⟩ := box5 HQ8.out
    have q7l : q7 < w15.heap.size := (Array.getElem?_eq_some_iff.1 HQ7.out).1
    have Ksd : Hid (∀ W, Below w15.heap.size w15 W → Calls Try.prog 11 #[.agg #[.int .u32 g8, .slice A8 n8 c8, .int .i64 h8, .int .i64 t8, .bool p8]] W (Ret (.bool true) W)) := Lib.hid fun W hb => by
      rw [← Hrs.out.1]
      have h1 := HSx.out.1
      exact sound_any g8 h8 t8 p8 A8 n8 c8 l8 W h1 (by have h2 := (sound_iff.1 Hrs.out.1).1; omega) (HSx.out.below hb).2.2.2
    have Ksn : Hid (∀ W, Below w15.heap.size w15 W → Calls Try.prog 16 #[.agg #[.int .u32 0, .slice A7 0 c7, .int .i64 (-1), .int .i64 0, .bool false], .agg #[.int .u32 0, .slice none 0 0, .int .i64 (-1), .int .i64 0, .bool false]] W (Ret (.bool true) W)) := Lib.hid fun W hb =>
      same_any ⟨0, [], -1, 0, false⟩ A7 none 0 0 c7 0 W (by simp) (HSn.out.below hb) ⟨rfl, Nat.le_refl _, fun _ => rfl, .inl rfl⟩
    cases p8 with
    | true =>
      refine held_start (w0 := w15) (Below.refl _ _) (by kernel_rfl) (fun wd hS => ?_)
      refine wpAnyH_take (i := 0) (v := .agg #[.int .u32 g8, .slice A8 n8 c8, .int .i64 h8, .int .i64 t8, .bool true]) rfl (by kernel_rfl) (by kernel_rfl) (by kernel_rfl) (fun _ _ _ h => h) (Or.inl ⟨by rfl, ?_⟩) hS ?_
      · intro W hW; exact exec_load5 rfl rfl (load5 ((hW.block _ q8l).trans HQ8.out) Try.underlying25 infoTb)
      try simp only [List.getElem_toArray, List.getElem_cons_succ, List.getElem_cons_zero, Act.put, List.setIfInBounds_toArray, List.set]
      refine wpAnyH_one 1 _ rfl (by kernel_rfl) (by rfl) (fun K hK => ?_)
      go_simp
      refine (Ksd.out _ hS).mono ?_
      rintro e y1 ⟨rfl, hy1⟩
      have hS1 : Below w15.heap.size w15 y1 := stepB hS hy1
      refine hK _ _ hS1 ?_
      clear hK K
      try simp only [List.getElem_toArray, List.getElem_cons_succ, List.getElem_cons_zero, Act.put, List.setIfInBounds_toArray, List.set]
      refine wpAnyH_take (i := 2) (v := .bool true) rfl (by kernel_rfl) (by kernel_rfl) (by kernel_rfl) (fun _ _ _ h => h) (Or.inl ⟨by rfl, ?_⟩) hS1 ?_
      · intro W hW; go_simp
      try simp only [List.getElem_toArray, List.getElem_cons_succ, List.getElem_cons_zero, Act.put, List.setIfInBounds_toArray, List.set]
      refine wpAnyH_take (i := 3) (v := .agg #[.int .u32 0, .slice A7 0 c7, .int .i64 (-1), .int .i64 0, .bool false]) rfl (by kernel_rfl) (by kernel_rfl) (by kernel_rfl) (fun _ _ _ h => h) (Or.inl ⟨by rfl, ?_⟩) hS1 ?_
      · intro W hW; exact exec_load5 rfl rfl (load5 ((hW.block _ q7l).trans HQ7.out) Try.underlying25 infoTb)
      try simp only [List.getElem_toArray, List.getElem_cons_succ, List.getElem_cons_zero, Act.put, List.setIfInBounds_toArray, List.set]
      refine wpAnyH_one 4 _ rfl (by kernel_rfl) (by rfl) (fun K hK => ?_)
      go_simp
      refine (Kn.out _).mono ?_
      rintro e y2 ⟨rfl, hy2⟩
      have hS2 : Below w15.heap.size w15 y2 := stepB hS1 hy2
      refine hK _ _ hS2 ?_
      clear hK K
      try simp only [List.getElem_toArray, List.getElem_cons_succ, List.getElem_cons_zero, Act.put, List.setIfInBounds_toArray, List.set]
      refine wpAnyH_one 5 _ rfl (by kernel_rfl) (by rfl) (fun K hK => ?_)
      go_simp
      refine (Ksn.out _ hS2).mono ?_
      rintro e y3 ⟨rfl, hy3⟩
      have hS3 : Below w15.heap.size w15 y3 := stepB hS2 hy3
      refine hK _ _ hS3 ?_
      clear hK K
      try simp only [List.getElem_toArray, List.getElem_cons_succ, List.getElem_cons_zero, Act.put, List.setIfInBounds_toArray, List.set]
      refine wpAnyH_take (i := 6) (v := .bool true) rfl (by kernel_rfl) (by kernel_rfl) (by kernel_rfl) (fun _ _ _ h => h) (Or.inl ⟨by rfl, ?_⟩) hS3 ?_
      · intro W hW; go_simp
      try simp only [List.getElem_toArray, List.getElem_cons_succ, List.getElem_cons_zero, Act.put, List.setIfInBounds_toArray, List.set]
      refine wpAnyH_take (i := 7) (v := .bool true) rfl (by kernel_rfl) (by kernel_rfl) (by kernel_rfl) (fun _ _ _ h => h) (Or.inl ⟨by rfl, ?_⟩) hS3 ?_
      · intro W hW; go_simp
      try simp only [List.getElem_toArray, List.getElem_cons_succ, List.getElem_cons_zero, Act.put, List.setIfInBounds_toArray, List.set]
      refine wpAnyH_take (i := 8) (v := .pointer (some ⟨q8, 4, none⟩)) rfl (by kernel_rfl) (by kernel_rfl) (by kernel_rfl) (fun _ _ _ h => h) (Or.inl ⟨by rfl, ?_⟩) hS3 ?_
      · intro W hW; go_simp
      try simp only [List.getElem_toArray, List.getElem_cons_succ, List.getElem_cons_zero, Act.put, List.setIfInBounds_toArray, List.set]
      refine wpAnyH_take (i := 9) (v := .bool true) rfl (by kernel_rfl) (by kernel_rfl) (by kernel_rfl) (fun _ _ _ h => h) (Or.inl ⟨by rfl, ?_⟩) hS3 ?_
      · intro W hW; have e1 := (hW.cell (p := ⟨q8, 4, none⟩) q8l).trans z4; go_simp
      try simp only [List.getElem_toArray, List.getElem_cons_succ, List.getElem_cons_zero, Act.put, List.setIfInBounds_toArray, List.set]
      refine wpAnyH_take (i := 10) (v := .bool true) rfl (by kernel_rfl) (by kernel_rfl) (by kernel_rfl) (fun _ _ _ h => h) (Or.inl ⟨by rfl, ?_⟩) hS3 ?_
      · intro W hW; go_simp
      try simp only [List.getElem_toArray, List.getElem_cons_succ, List.getElem_cons_zero, Act.put, List.setIfInBounds_toArray, List.set]
      refine wpAnyH_take (i := 11) (v := undef) rfl (by kernel_rfl) (by kernel_rfl) (by kernel_rfl) (fun _ _ _ h => h) (Or.inr ⟨by rfl, rfl⟩) hS3 ?_
      try simp only [List.getElem_toArray, List.getElem_cons_succ, List.getElem_cons_zero, Act.put, List.setIfInBounds_toArray, List.set]
      refine wpAnyH_take (i := 12) (v := undef) rfl (by kernel_rfl) (by kernel_rfl) (by kernel_rfl) (fun _ _ _ h => h) (Or.inr ⟨by rfl, rfl⟩) hS3 ?_
      try simp only [List.getElem_toArray, List.getElem_cons_succ, List.getElem_cons_zero, Act.put, List.setIfInBounds_toArray, List.set]
      refine wpAnyH_take (i := 13) (v := undef) rfl (by kernel_rfl) (by kernel_rfl) (by kernel_rfl) (fun _ _ _ h => h) (Or.inr ⟨by rfl, rfl⟩) hS3 ?_
      try simp only [List.getElem_toArray, List.getElem_cons_succ, List.getElem_cons_zero, Act.put, List.setIfInBounds_toArray, List.set]
      refine wpAnyH_take (i := 14) (v := .bool true) rfl (by kernel_rfl) (by kernel_rfl) (by kernel_rfl) (fun _ _ _ h => h) (Or.inl ⟨by rfl, ?_⟩) hS3 ?_
      · intro W hW; go_simp
      try simp only [List.getElem_toArray, List.getElem_cons_succ, List.getElem_cons_zero, Act.put, List.setIfInBounds_toArray, List.set]
      refine wpAnyH_take (i := 15) (v := .bool true) rfl (by kernel_rfl) (by kernel_rfl) (by kernel_rfl) (fun _ _ _ h => h) (Or.inl ⟨by rfl, ?_⟩) hS3 ?_
      · intro W hW; go_simp
      try simp only [List.getElem_toArray, List.getElem_cons_succ, List.getElem_cons_zero, Act.put, List.setIfInBounds_toArray, List.set]
      refine wpAnyH_take (i := 16) (v := .bool true) rfl (by kernel_rfl) (by kernel_rfl) (by kernel_rfl) (fun _ _ _ h => h) (Or.inl ⟨by rfl, ?_⟩) hS3 ?_
      · intro W hW; go_simp
      try simp only [List.getElem_toArray, List.getElem_cons_succ, List.getElem_cons_zero, Act.put, List.setIfInBounds_toArray, List.set]
      refine wpAnyH_done (by kernel_rfl) ?_ _
      go_wp2
      go_ret
      exact ⟨rfl, stepB HB15.out hS3⟩
    | false =>
      have e8 := Hrs.out.2 rfl
      simp only [Tb.mk.injEq] at e8
      have He8 := Lib.hid e8
      clear e8
      have Ksx : Hid (∀ W, Below w15.heap.size w15 W → Calls Try.prog 16 #[.agg #[.int .u32 g8, .slice A8 n8 c8, .int .i64 h8, .int .i64 t8, .bool false], .agg #[.int .u32 0, .slice none 0 0, .int .i64 (-1), .int .i64 0, .bool false]] W (Ret (.bool true) W)) := Lib.hid fun W hb => by
        obtain ⟨r1, r2, r3, r4, _⟩ := He8.out
        have h1 := HSx.out.below hb
        rw [r2] at h1
        rw [r1, r3, r4]
        exact same_any ⟨0, [], -1, 0, false⟩ A8 none n8 0 c8 0 W (by simp) h1 ⟨rfl, Nat.le_refl _, fun _ => rfl, .inl rfl⟩
      refine held_start (w0 := w15) (Below.refl _ _) (by kernel_rfl) (fun wd hS => ?_)
      refine wpAnyH_take (i := 0) (v := .agg #[.int .u32 g8, .slice A8 n8 c8, .int .i64 h8, .int .i64 t8, .bool false]) rfl (by kernel_rfl) (by kernel_rfl) (by kernel_rfl) (fun _ _ _ h => h) (Or.inl ⟨by rfl, ?_⟩) hS ?_
      · intro W hW; exact exec_load5 rfl rfl (load5 ((hW.block _ q8l).trans HQ8.out) Try.underlying25 infoTb)
      try simp only [List.getElem_toArray, List.getElem_cons_succ, List.getElem_cons_zero, Act.put, List.setIfInBounds_toArray, List.set]
      refine wpAnyH_one 1 _ rfl (by kernel_rfl) (by rfl) (fun K hK => ?_)
      go_simp
      refine (Ksd.out _ hS).mono ?_
      rintro e y1 ⟨rfl, hy1⟩
      have hS1 : Below w15.heap.size w15 y1 := stepB hS hy1
      refine hK _ _ hS1 ?_
      clear hK K
      try simp only [List.getElem_toArray, List.getElem_cons_succ, List.getElem_cons_zero, Act.put, List.setIfInBounds_toArray, List.set]
      refine wpAnyH_take (i := 2) (v := .bool true) rfl (by kernel_rfl) (by kernel_rfl) (by kernel_rfl) (fun _ _ _ h => h) (Or.inl ⟨by rfl, ?_⟩) hS1 ?_
      · intro W hW; go_simp
      try simp only [List.getElem_toArray, List.getElem_cons_succ, List.getElem_cons_zero, Act.put, List.setIfInBounds_toArray, List.set]
      refine wpAnyH_take (i := 3) (v := .agg #[.int .u32 0, .slice A7 0 c7, .int .i64 (-1), .int .i64 0, .bool false]) rfl (by kernel_rfl) (by kernel_rfl) (by kernel_rfl) (fun _ _ _ h => h) (Or.inl ⟨by rfl, ?_⟩) hS1 ?_
      · intro W hW; exact exec_load5 rfl rfl (load5 ((hW.block _ q7l).trans HQ7.out) Try.underlying25 infoTb)
      try simp only [List.getElem_toArray, List.getElem_cons_succ, List.getElem_cons_zero, Act.put, List.setIfInBounds_toArray, List.set]
      refine wpAnyH_one 4 _ rfl (by kernel_rfl) (by rfl) (fun K hK => ?_)
      go_simp
      refine (Kn.out _).mono ?_
      rintro e y2 ⟨rfl, hy2⟩
      have hS2 : Below w15.heap.size w15 y2 := stepB hS1 hy2
      refine hK _ _ hS2 ?_
      clear hK K
      try simp only [List.getElem_toArray, List.getElem_cons_succ, List.getElem_cons_zero, Act.put, List.setIfInBounds_toArray, List.set]
      refine wpAnyH_one 5 _ rfl (by kernel_rfl) (by rfl) (fun K hK => ?_)
      go_simp
      refine (Ksn.out _ hS2).mono ?_
      rintro e y3 ⟨rfl, hy3⟩
      have hS3 : Below w15.heap.size w15 y3 := stepB hS2 hy3
      refine hK _ _ hS3 ?_
      clear hK K
      try simp only [List.getElem_toArray, List.getElem_cons_succ, List.getElem_cons_zero, Act.put, List.setIfInBounds_toArray, List.set]
      refine wpAnyH_take (i := 6) (v := .bool true) rfl (by kernel_rfl) (by kernel_rfl) (by kernel_rfl) (fun _ _ _ h => h) (Or.inl ⟨by rfl, ?_⟩) hS3 ?_
      · intro W hW; go_simp
      try simp only [List.getElem_toArray, List.getElem_cons_succ, List.getElem_cons_zero, Act.put, List.setIfInBounds_toArray, List.set]
      refine wpAnyH_take (i := 7) (v := .bool true) rfl (by kernel_rfl) (by kernel_rfl) (by kernel_rfl) (fun _ _ _ h => h) (Or.inl ⟨by rfl, ?_⟩) hS3 ?_
      · intro W hW; go_simp
      try simp only [List.getElem_toArray, List.getElem_cons_succ, List.getElem_cons_zero, Act.put, List.setIfInBounds_toArray, List.set]
      refine wpAnyH_take (i := 8) (v := .pointer (some ⟨q8, 4, none⟩)) rfl (by kernel_rfl) (by kernel_rfl) (by kernel_rfl) (fun _ _ _ h => h) (Or.inl ⟨by rfl, ?_⟩) hS3 ?_
      · intro W hW; go_simp
      try simp only [List.getElem_toArray, List.getElem_cons_succ, List.getElem_cons_zero, Act.put, List.setIfInBounds_toArray, List.set]
      refine wpAnyH_take (i := 9) (v := .bool false) rfl (by kernel_rfl) (by kernel_rfl) (by kernel_rfl) (fun _ _ _ h => h) (Or.inl ⟨by rfl, ?_⟩) hS3 ?_
      · intro W hW; have e1 := (hW.cell (p := ⟨q8, 4, none⟩) q8l).trans z4; go_simp
      try simp only [List.getElem_toArray, List.getElem_cons_succ, List.getElem_cons_zero, Act.put, List.setIfInBounds_toArray, List.set]
      refine wpAnyH_take (i := 10) (v := .bool false) rfl (by kernel_rfl) (by kernel_rfl) (by kernel_rfl) (fun _ _ _ h => h) (Or.inl ⟨by rfl, ?_⟩) hS3 ?_
      · intro W hW; go_simp
      try simp only [List.getElem_toArray, List.getElem_cons_succ, List.getElem_cons_zero, Act.put, List.setIfInBounds_toArray, List.set]
      refine wpAnyH_take (i := 11) (v := .agg #[.int .u32 g8, .slice A8 n8 c8, .int .i64 h8, .int .i64 t8, .bool false]) rfl (by kernel_rfl) (by kernel_rfl) (by kernel_rfl) (fun _ _ _ h => h) (Or.inl ⟨by rfl, ?_⟩) hS3 ?_
      · intro W hW; exact exec_load5 rfl rfl (load5 ((hW.block _ q8l).trans HQ8.out) Try.underlying25 infoTb)
      try simp only [List.getElem_toArray, List.getElem_cons_succ, List.getElem_cons_zero, Act.put, List.setIfInBounds_toArray, List.set]
      refine wpAnyH_one 12 _ rfl (by kernel_rfl) (by rfl) (fun K hK => ?_)
      go_simp
      refine (Kn.out _).mono ?_
      rintro e y4 ⟨rfl, hy4⟩
      have hS4 : Below w15.heap.size w15 y4 := stepB hS3 hy4
      refine hK _ _ hS4 ?_
      clear hK K
      try simp only [List.getElem_toArray, List.getElem_cons_succ, List.getElem_cons_zero, Act.put, List.setIfInBounds_toArray, List.set]
      refine wpAnyH_one 13 _ rfl (by kernel_rfl) (by rfl) (fun K hK => ?_)
      go_simp
      refine (Ksx.out _ hS4).mono ?_
      rintro e y5 ⟨rfl, hy5⟩
      have hS5 : Below w15.heap.size w15 y5 := stepB hS4 hy5
      refine hK _ _ hS5 ?_
      clear hK K
      try simp only [List.getElem_toArray, List.getElem_cons_succ, List.getElem_cons_zero, Act.put, List.setIfInBounds_toArray, List.set]
      refine wpAnyH_take (i := 14) (v := .bool true) rfl (by kernel_rfl) (by kernel_rfl) (by kernel_rfl) (fun _ _ _ h => h) (Or.inl ⟨by rfl, ?_⟩) hS5 ?_
      · intro W hW; go_simp
      try simp only [List.getElem_toArray, List.getElem_cons_succ, List.getElem_cons_zero, Act.put, List.setIfInBounds_toArray, List.set]
      refine wpAnyH_take (i := 15) (v := .bool true) rfl (by kernel_rfl) (by kernel_rfl) (by kernel_rfl) (fun _ _ _ h => h) (Or.inl ⟨by rfl, ?_⟩) hS5 ?_
      · intro W hW; go_simp
      try simp only [List.getElem_toArray, List.getElem_cons_succ, List.getElem_cons_zero, Act.put, List.setIfInBounds_toArray, List.set]
      refine wpAnyH_take (i := 16) (v := .bool true) rfl (by kernel_rfl) (by kernel_rfl) (by kernel_rfl) (fun _ _ _ h => h) (Or.inl ⟨by rfl, ?_⟩) hS5 ?_
      · intro W hW; go_simp
      try simp only [List.getElem_toArray, List.getElem_cons_succ, List.getElem_cons_zero, Act.put, List.setIfInBounds_toArray, List.set]
      refine wpAnyH_done (by kernel_rfl) ?_ _
      go_wp2
      go_ret
      exact ⟨rfl, stepB HB15.out hS5⟩
end Go.Proofs.Ytkpogmigfjmacaa
