/-
  The law's own: same.
-/
import Derived.Test.YtegdlpllljccgaaDoorLwTold
set_option linter.unusedSimpArgs false
set_option linter.unusedVariables false
namespace Go.Proofs.YtegdlpllljccgaaDoor
open Go.RowKit Sh Go.Extern.Stop Go.Stop Go.Extern

/-- Records in a row of slices. -/
structure RecsV (N : Nat) (w : World) (vp : Option Addr) (rs : List (List Chg)) : Prop where
  what : ∀ l ∈ rs, ∀ c ∈ l, c.what.length = 64
  len : ∀ l ∈ rs, l.length ≤ 4096
  lies : rs = [] ∨ ∃ g, vp = some ⟨g, 0, none⟩ ∧ g < N ∧ ∀ i l, rs[i]? = some l → ∃ bp cap, w.cell? ⟨g, i, none⟩ = some (Value.slice bp l.length cap) ∧ Chgs N w bp l
theorem RecsV.below {N : Nat} {w w' : World} {vp : Option Addr} {rs : List (List Chg)} (h : RecsV N w vp rs) (hb : Below N w w') : RecsV N w' vp rs :=
  ⟨h.what, h.len, h.lies.imp id fun ⟨g, e, hN, hr⟩ => ⟨g, e, hN, fun i l hi => by obtain ⟨bp, cap, h1, h2⟩ := hr i l hi; exact ⟨bp, cap, (hb.cell (p := ⟨g, i, none⟩) hN).trans h1, h2.below hb⟩⟩⟩
theorem RecsV.mono {N M : Nat} {w : World} {vp : Option Addr} {rs : List (List Chg)} (h : RecsV N w vp rs) (hM : N ≤ M) : RecsV M w vp rs :=
  ⟨h.what, h.len, h.lies.imp id fun ⟨g, e, hN, hr⟩ => ⟨g, e, Nat.lt_of_lt_of_le hN hM, fun i l hi => by obtain ⟨bp, cap, h1, h2⟩ := hr i l hi; exact ⟨bp, cap, h1, h2.mono hM⟩⟩⟩
theorem RecsV.nil (N : Nat) (w : World) (vp : Option Addr) : RecsV N w vp [] := ⟨fun l h => by simp at h, fun l h => by simp at h, .inl rfl⟩
/-- What find found. -/
theorem recsV_of {w : World} {B C : Nat} {ap : Option Addr} {cp : Nat} {vs : List Value} {rs : List (List Chg)} (hw : ∀ l ∈ rs, ∀ c ∈ l, c.what.length = 64) (hl : ∀ l ∈ rs, l.length ≤ 4096)
    (ho : w.ownsRow B 50 1 (.slice ap rs.length cp) rs.length vs) (hr : RecsOk C w vs rs) : RecsV w.heap.size w ap rs := by
  refine ⟨hw, hl, ?_⟩
  rcases ho.2 with ⟨hv, h0⟩ | ⟨g, cap, cur, hv, _, hg, _⟩
  · left; exact List.length_eq_zero_iff.1 h0
  · simp only [Value.slice.injEq] at hv
    obtain ⟨rfl, _, rfl⟩ := hv
    refine .inr ⟨g, rfl, (Array.getElem?_eq_some_iff.1 hg).1, fun i l hi => ?_⟩
    obtain ⟨b, _, hvi, hb⟩ := hr.2 i l hi
    have hin : i < rs.length := (List.getElem?_eq_some_iff.1 hi).1
    refine ⟨some ⟨b, 0, none⟩, l.length, ?_, chgs_of_row (hw l (List.mem_of_getElem? hi)) hb⟩
    rw [ho.cellAt i (by omega), hvi]
def SayB (b : Bool) (w : World) (e : Ending) (w' : World) : Prop := e = .returned (.bool b) ∧ Below w.heap.size w w'
theorem take_eq_next {α : Type} {a b : List α} {k : Nat} (h : a.take k = b.take k) {x y : α} (hx : a[k]? = some x) (hy : b[k]? = some y) (e : x = y) : a.take (k + 1) = b.take (k + 1) := by
  rw [List.take_add_one, List.take_add_one, h, hx, hy, e]
set_option maxRecDepth 100000 in
set_option maxHeartbeats 8000000 in
/-- same. -/
theorem same_any (a b : List (List Chg)) (vp up : Option Addr) (ca cb : Nat) (w : World) (ha : RecsV w.heap.size w vp a) (hb : RecsV w.heap.size w up b) (hn : a.length ≤ 100000 ∧ b.length ≤ 100000) :
    Calls Tryd.prog 18 #[.slice vp a.length ca, .slice up b.length cb] w (SayB (decide (a = b)) w) := by
  obtain ⟨bb, hbb⟩ : ∃ bb, decide (a = b) = bb := ⟨_, rfl⟩
  rw [hbb]
  have Hbb := Lib.hid hbb
  clear hbb
  by_cases hne : a.length = b.length
  case neg =>
    have hf : bb = false := by rw [← Hbb.out]; exact decide_eq_false (fun e => hne (by rw [e]))
    subst hf
    have hd : ¬ ((a.length : Int) = (b.length : Int)) := by omega
    generalize a.length = A at hd hn ⊢
    generalize b.length = B at hd hn ⊢
    clear hne ha hb Hbb
    go_enter Tryd.func18, Tryd.ntmps18
    go_wp2
    go_ret
    exact ⟨rfl, Below.refl _ _⟩
  obtain ⟨n, hnb⟩ : ∃ n, b.length = n := ⟨_, rfl⟩
  rw [hnb] at hne
  rw [hne, hnb]
  rw [hnb] at hn
  have Hna := Lib.hid hne; have Hnb := Lib.hid hnb
  clear hne hnb
  go_enter Tryd.func18, Tryd.ntmps18
  go_wp2
  go_loopg [15] n (fun gg i wr => ∃ k, k ≤ n ∧ gg = n - k ∧ i = .int .i64 (k : Nat) ∧ Hid (a.take k = b.take k) ∧ Below w.heap.size w wr)
  case atStart => exact ⟨0, by omega, rfl, rfl, rfl, Below.refl _ _⟩
  case round =>
    obtain ⟨k, hk, rfl, rfl, Htk, hbel⟩ := hrel
    by_cases hlt : k < n
    · have hlt' : (k : Int) < n := by omega
      obtain ⟨la, hla⟩ : ∃ la, a[k]? = some la := ⟨_, List.getElem?_eq_getElem (by rw [Hna.out]; exact hlt)⟩
      obtain ⟨lb, hlb⟩ : ∃ lb, b[k]? = some lb := ⟨_, List.getElem?_eq_getElem (by rw [Hnb.out]; exact hlt)⟩
      have hra := ha.below hbel
      have hrb := hb.below hbel
      have hwa := hra.what la (List.mem_of_getElem? hla)
      have hwb := hrb.what lb (List.mem_of_getElem? hlb)
      have hl4a := hra.len la (List.mem_of_getElem? hla)
      have hl4b := hrb.len lb (List.mem_of_getElem? hlb)
      obtain ⟨ga, rfl, hgaN, hca⟩ := hra.lies.resolve_left (fun e => by rw [e] at hla; simp at hla)
      obtain ⟨gb, rfl, hgbN, hcb⟩ := hrb.lies.resolve_left (fun e => by rw [e] at hlb; simp at hlb)
      obtain ⟨bpa, capa, cella, hCa⟩ := hca k la hla
      obtain ⟨bpb, capb, cellb, hCb⟩ := hcb k lb hlb
      have htd := told_any la bpa capa hwa hl4a wr (hCa.mono hbel.size)
      obtain ⟨La, hLa⟩ : ∃ La, la.length = La := ⟨_, rfl⟩
      obtain ⟨Lb, hLb⟩ : ∃ Lb, lb.length = Lb := ⟨_, rfl⟩
      rw [hLa] at cella htd hl4a
      rw [hLb] at cellb hl4b
      unfold OwnP at htd
      rw [hLa] at htd
      have HLa := Lib.hid hLa; have HLb := Lib.hid hLb
      clear hLa hLb hca hcb
      go_wp2_with (go_at_call 24; refine htd.mono ?_)
      rintro e w2 ⟨ap, cp, rfl, hown, hb2⟩
      have hbel2 := hbel.trans (hb2.mono hbel.size)
      have cb2 : w2.cell? ⟨gb, k, none⟩ = some (.slice bpb Lb capb) := (hb2.cell (p := ⟨gb, k, none⟩) (show gb < wr.heap.size by have := hbel.size; omega)).trans cellb
      have hCx := chgs_of_own hwa HLa.out hown
      have hCb2 := (hCb.below (hb2.mono hbel.size)).mono hbel2.size
      clear htd cella cellb hown hCa hCb hra hrb
      by_cases hLL : La = Lb
      case neg =>
        have hf : bb = false := by
          rw [← Hbb.out]; exact decide_eq_false (fun e => by
            rw [e, hlb] at hla
            have : lb = la := Option.some.inj hla
            exact hLL (by rw [← HLa.out, ← HLb.out, this]))
        subst hf
        have hd : ¬ ((La : Int) = (Lb : Int)) := by omega
        clear hLL hla hlb hCx hCb2 Hbb
        go_wp2
        go_ret
        exact ⟨rfl, hbel2⟩
      subst hLL
      go_wp2
      go_loopg [33] La (fun gg i wr => ∃ j, j ≤ La ∧ gg = La - j ∧ i = .int .i64 (j : Nat) ∧ Hid (la.take j = lb.take j) ∧ Below w2.heap.size w2 wr)
      case atStart => exact ⟨0, by omega, rfl, rfl, rfl, Below.refl _ _⟩
      case round =>
        obtain ⟨j, hj, rfl, rfl, Htj, hbj⟩ := hrel
        by_cases hjl : j < La
        · have hjl' : (j : Int) < La := by omega
          obtain ⟨c1, hc1⟩ : ∃ c1, la[j]? = some c1 := ⟨_, List.getElem?_eq_getElem (by rw [HLa.out]; exact hjl)⟩
          obtain ⟨c2, hc2⟩ : ∃ c2, lb[j]? = some c2 := ⟨_, List.getElem?_eq_getElem (by rw [HLb.out]; exact hjl)⟩
          have h641 := hwa c1 (List.mem_of_getElem? hc1)
          have h642 := hwb c2 (List.mem_of_getElem? hc2)
          obtain ⟨xg, rfl, hxN, hxr⟩ := hCx.resolve_left (fun e => by rw [e] at hc1; simp at hc1)
          obtain ⟨yg, rfl, hyN, hyr⟩ := hCb2.resolve_left (fun e => by rw [e] at hc2; simp at hc2)
          have r1 := hxr j c1 hc1
          have r2 := hyr j c2 hc2
          obtain ⟨v1, Hv1⟩ : ∃ v1 : List Value, Hid (v1 = chgC c1) := ⟨_, rfl⟩
          obtain ⟨v2, Hv2⟩ : ∃ v2 : List Value, Hid (v2 = chgC c2) := ⟨_, rfl⟩
          rw [← Hv1.out] at r1
          rw [← Hv2.out] at r2
          have hl1 : Hid ((Tryd.prog.info? 106).map (·.size) = some v1.length) := by rw [Hv1.out, chgC_len h641]; exact infoRChg65
          have hl2 : Hid ((Tryd.prog.info? 106).map (·.size) = some v2.length) := by rw [Hv2.out, chgC_len h642]; exact infoRChg65
          obtain ⟨q, hq⟩ : ∃ q : Bool, decide (c1 = c2) = q := ⟨_, rfl⟩
          have heq : ∀ W : World, (Op.equalIn 10000 106 (.agg v1.toArray) (.agg v2.toArray)).run Tryd.prog W = .ok q W := fun W => by
            rw [Hv1.out, Hv2.out, ← hq]; exact eqChg_ref h641 h642 W
          have Hq := Lib.hid hq
          have hbj2 := hbj
          have HL1 := Lib.hid (fun W (hW : Below wr.heap.size wr W) => run_loadAt_mid (P := Tryd.prog) W xg (j * 65) 106 v1 _ (fun i v hi => ((hbj2.trans (hW.mono hbj2.size)).cell (p := ⟨xg, j * 65 + i, none⟩) hxN).trans (r1 i v hi)) Tryd.underlying106 rfl hl1.out)
          have HL2 := Lib.hid (fun W (hW : Below wr.heap.size wr W) => run_loadAt_mid (P := Tryd.prog) W yg (j * 65) 106 v2 _ (fun i v hi => ((hbj2.trans (hW.mono hbj2.size)).cell (p := ⟨yg, j * 65 + i, none⟩) hyN).trans (r2 i v hi)) Tryd.underlying106 rfl hl2.out)
          have HC := Lib.hid (fun W (hW : Below wr.heap.size wr W) => ((hbj2.trans (hW.mono hbj2.size)).cell (p := ⟨gb, k, none⟩) (show gb < w2.heap.size by have := hbel2.size; omega)).trans cb2)
          clear hq hxr hyr r1 r2
          go_upto_region 12 with (fail)
          refine wp_region_held (S := fun w' => Below wr.heap.size wr w') (by kernel_rfl) ?_
          have hb5 : Below wr.heap.size wr { wr with drawn := wr.drawn + 1 } := ⟨rfl, rfl, rfl, Nat.le_refl _, fun _ _ => rfl⟩
          obtain ⟨wd, hdr⟩ : ∃ wd : World, ({ wr with drawn := wr.drawn + 1 } : World) = wd := ⟨_, rfl⟩
          rw [hdr] at hb5 ⊢
          clear hdr
          refine wpAnyH_take (i := 0) (v := .slice (some ⟨xg, 0, none⟩) La cp) rfl (by kernel_rfl) (by kernel_rfl) (by kernel_rfl) (fun _ _ _ h => h) (Or.inl ⟨by rfl, ?_⟩) hb5 ?_
          · intro w' _; go_simp
          try simp only [List.getElem_toArray, List.getElem_cons_succ, List.getElem_cons_zero, Act.put, List.setIfInBounds_toArray, List.set]
          refine wpAnyH_take (i := 1) (v := .int .i64 j) rfl (by kernel_rfl) (by kernel_rfl) (by kernel_rfl) (fun _ _ _ h => h) (Or.inl ⟨by rfl, ?_⟩) hb5 ?_
          · intro w' _; go_simp
          try simp only [List.getElem_toArray, List.getElem_cons_succ, List.getElem_cons_zero, Act.put, List.setIfInBounds_toArray, List.set]
          refine wpAnyH_take (i := 2) (v := .pointer (some ⟨xg, j * 65, none⟩)) rfl (by kernel_rfl) (by kernel_rfl) (by kernel_rfl) (fun _ _ _ h => h) (Or.inl ⟨by rfl, ?_⟩) hb5 ?_
          · intro w' _; go_simp
          try simp only [List.getElem_toArray, List.getElem_cons_succ, List.getElem_cons_zero, Act.put, List.setIfInBounds_toArray, List.set]
          refine wpAnyH_take (i := 3) (v := .agg v1.toArray) rfl (by kernel_rfl) (by kernel_rfl) (by kernel_rfl) (fun _ _ _ h => h) (Or.inl ⟨by rfl, ?_⟩) hb5 ?_
          · intro w' hS'; exact exec_load _ _ 106 _ rfl xg (j * 65) rfl _ (HL1.out w' hS')
          try simp only [List.getElem_toArray, List.getElem_cons_succ, List.getElem_cons_zero, Act.put, List.setIfInBounds_toArray, List.set]
          refine wpAnyH_take (i := 4) (v := .slice (some ⟨gb, 0, none⟩) n cb) rfl (by kernel_rfl) (by kernel_rfl) (by kernel_rfl) (fun _ _ _ h => h) (Or.inl ⟨by rfl, ?_⟩) hb5 ?_
          · intro w' _; go_simp
          try simp only [List.getElem_toArray, List.getElem_cons_succ, List.getElem_cons_zero, Act.put, List.setIfInBounds_toArray, List.set]
          refine wpAnyH_take (i := 5) (v := .int .i64 k) rfl (by kernel_rfl) (by kernel_rfl) (by kernel_rfl) (fun _ _ _ h => h) (Or.inl ⟨by rfl, ?_⟩) hb5 ?_
          · intro w' _; go_simp
          try simp only [List.getElem_toArray, List.getElem_cons_succ, List.getElem_cons_zero, Act.put, List.setIfInBounds_toArray, List.set]
          refine wpAnyH_take (i := 6) (v := .pointer (some ⟨gb, k, none⟩)) rfl (by kernel_rfl) (by kernel_rfl) (by kernel_rfl) (fun _ _ _ h => h) (Or.inl ⟨by rfl, ?_⟩) hb5 ?_
          · intro w' _; go_simp
          try simp only [List.getElem_toArray, List.getElem_cons_succ, List.getElem_cons_zero, Act.put, List.setIfInBounds_toArray, List.set]
          refine wpAnyH_take (i := 7) (v := .slice (some ⟨yg, 0, none⟩) La capb) rfl (by kernel_rfl) (by kernel_rfl) (by kernel_rfl) (fun _ _ _ h => h) (Or.inl ⟨by rfl, ?_⟩) hb5 ?_
          · intro w' hS'
            have hcc := HC.out w' hS'
            clear hS'
            go_simp
          try simp only [List.getElem_toArray, List.getElem_cons_succ, List.getElem_cons_zero, Act.put, List.setIfInBounds_toArray, List.set]
          refine wpAnyH_take (i := 8) (v := .int .i64 j) rfl (by kernel_rfl) (by kernel_rfl) (by kernel_rfl) (fun _ _ _ h => h) (Or.inl ⟨by rfl, ?_⟩) hb5 ?_
          · intro w' _; go_simp
          try simp only [List.getElem_toArray, List.getElem_cons_succ, List.getElem_cons_zero, Act.put, List.setIfInBounds_toArray, List.set]
          refine wpAnyH_take (i := 9) (v := .pointer (some ⟨yg, j * 65, none⟩)) rfl (by kernel_rfl) (by kernel_rfl) (by kernel_rfl) (fun _ _ _ h => h) (Or.inl ⟨by rfl, ?_⟩) hb5 ?_
          · intro w' _; go_simp
          try simp only [List.getElem_toArray, List.getElem_cons_succ, List.getElem_cons_zero, Act.put, List.setIfInBounds_toArray, List.set]
          refine wpAnyH_take (i := 10) (v := .agg v2.toArray) rfl (by kernel_rfl) (by kernel_rfl) (by kernel_rfl) (fun _ _ _ h => h) (Or.inl ⟨by rfl, ?_⟩) hb5 ?_
          · intro w' hS'; exact exec_load _ _ 106 _ rfl yg (j * 65) rfl _ (HL2.out w' hS')
          try simp only [List.getElem_toArray, List.getElem_cons_succ, List.getElem_cons_zero, Act.put, List.setIfInBounds_toArray, List.set]
          refine wpAnyH_take (i := 11) (v := .bool (!q)) rfl (by kernel_rfl) (by kernel_rfl) (by kernel_rfl) (fun _ _ _ h => h) (Or.inl ⟨by rfl, ?_⟩) hb5 ?_
          · intro w' _; go_simp
          try simp only [List.getElem_toArray, List.getElem_cons_succ, List.getElem_cons_zero, Act.put, List.setIfInBounds_toArray, List.set]
          refine wpAnyH_done (by kernel_rfl) ?_ _
          have hbj5 := hbj.trans (hb5.mono hbj.size)
          clear heq HL1 HL2 HC hb5
          cases q with
          | false =>
            have hf : bb = false := by
              rw [← Hbb.out]; exact decide_eq_false (fun e => by
                rw [e, hlb] at hla
                obtain rfl : lb = la := Option.some.inj hla
                rw [hc2] at hc1
                have := Hq.out
                rw [decide_eq_true (Option.some.inj hc1).symm] at this
                cases this)
            subst hf
            clear Hbb
            go_wp2
            go_ret
            exact ⟨rfl, hbel2.trans (hbj5.mono hbel2.size)⟩
          | true =>
            have Htj' := Lib.hid (take_eq_next Htj.out hc1 hc2 (of_decide_eq_true Hq.out))
            go_wp2
            go_roundg (La - (j + 1))
            case measure => omega
            case rel => exact ⟨j + 1, by omega, rfl, by go_num, Htj', hbj5⟩
        · obtain rfl : j = La := by omega
          have hll : la = lb := by
            have := Htj.out
            rwa [List.take_of_length_le (by rw [HLa.out]; exact Nat.le_refl _), List.take_of_length_le (by rw [HLb.out]; exact Nat.le_refl _)] at this
          have Htk' := Lib.hid (take_eq_next Htk.out hla hlb hll)
          have hbel5 := hbel2.trans (hbj.mono hbel2.size)
          clear hll
          go_wp2
          go_roundg (n - (k + 1))
          case measure => omega
          case rel => exact ⟨k + 1, by omega, rfl, by go_num, Htk', hbel5⟩
    · obtain rfl : k = n := by omega
      have ht : bb = true := by
        rw [← Hbb.out]
        have := Htk.out
        rw [List.take_of_length_le (by rw [Hna.out]; exact Nat.le_refl _), List.take_of_length_le (by rw [Hnb.out]; exact Nat.le_refl _)] at this
        exact decide_eq_true this
      subst ht
      clear Hbb
      go_wp2
      go_ret
      exact ⟨rfl, hbel⟩
end Go.Proofs.YtegdlpllljccgaaDoor
