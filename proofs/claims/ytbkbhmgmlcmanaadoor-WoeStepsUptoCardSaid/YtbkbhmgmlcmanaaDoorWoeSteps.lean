/-
  'WoeSteps': its walk.
-/
import Derived.Test.YtbkbhmgmlcmanaaDoorWoeNothing
import Derived.RegionTactic
import Derived.Deep.RegionHeld
namespace Go.Proofs.YtbkbhmgmlcmanaaDoor
open Go.RowKit Go.Extern.Stop Go.Stop Go.Extern

theorem wpAnyH_mono {P : Program} {md : Region.Mode} {ops : Array Oper} {Q : Exit → Act → World → Prop} {S T : World → Prop} (hST : ∀ w, S w → T w) : ∀ {fuel : Nat} {listed : Array Bool} {a : Act} {w : World}, wpAnyH P md ops Q S fuel listed a w → wpAnyH P md ops Q T fuel listed a w
  | 0, _, _, _, h => h
  | _ + 1, _, _, _, h => ⟨h.1, fun i hi => wpOp_mono (fun _ _ h' => ⟨hST _ h'.1, wpAnyH_mono hST h'.2⟩) (h.2 i hi)⟩
theorem wpAnyH_one {P : Program} {md : Region.Mode} {ops : Array Oper} {Q : Exit → Act → World → Prop} {S : World → Prop} {fuel : Nat} {listed : Array Bool} {a : Act} {w : World} (i : Nat) (o : Oper) (hi : ops[i]? = some o) (hr : Region.ready md ops listed = [i])
    (hw : Region.wanted o (yielded ops a.tmps) = true) (h : ∀ K : Act → World → Prop, (∀ a' w', S w' → wpAnyH P md ops Q S fuel (listed.setIfInBounds i true) a' w' → K a' w') → Oper.wp P o a w K Q) : wpAnyH P md ops Q S (fuel + 1) listed a w := by
  refine wpAnyH_all hr (by simp) (fun j hj => ?_)
  obtain rfl : j = i := by simpa using hj
  unfold wpOp
  simp only [hi, hw, if_true]
  exact .inl (h _ fun _ _ h1 h2 => ⟨h1, h2⟩)

set_option maxRecDepth 100000 in
set_option maxHeartbeats 4000000 in
theorem woeSteps_any (n : Int) (bp : Option Addr) (ss : List ByteArray) (cap : Nat) (w : World) (hL : Laid w) (hT : Texts w.heap.size w bp ss) (hl : ss.length ≤ 1048576) :
    Calls Tryd.prog 7 #[.int .i64 n, .slice bp ss.length cap] w (TruePost w) := by
  obtain ⟨L, hLL⟩ : ∃ L, ss.length = L := ⟨_, rfl⟩
  have hpos := hL.pos
  have hnot : ∀ (x : Bool) (w : World), (Op.unary .not (.bool x)).run Tryd.prog w = .ok (.bool (!x)) w := fun _ _ => rfl
  rw [hLL] at hl ⊢
  go_enter Tryd.func7, Tryd.ntmps7
  go_wp2_with (first
    | (go_at_call 8; refine (stands_any w hL).mono ?_; rintro e w1 ⟨rfl, hb1⟩)
    | (go_at_call 9; rw [← hLL]; refine (few_any bp ss cap w1 ((hT.below hb1).mono hb1.size) (by omega)).mono ?_; rintro e w2 ⟨b, rfl, hb2⟩; rw [hLL]))
  · go_ret
    exact ⟨rfl, hb1.trans (hb2.mono hb1.size)⟩
  obtain rfl : b = true := by simpa using ‹(!b) = false›
  simp only [Bool.not_true]
  have hb02 := hb1.trans (hb2.mono hb1.size)
  have hT2 := hT.below hb02
  have hLd2 := hL.below hpos hb02
  clear hT hb1 hb2 hL
  go_wp2_with (first
    | (go_at_call 10; rw [← hLL]; refine (made_any n bp ss cap w2 (hT2.mono hb02.size) (by omega)).mono ?_; rintro e w3 ⟨v, rfl, hC3, hb3⟩; rw [hLL]
       have hb03 := hb02.trans (hb3.mono hb02.size)
       have hLd3 := hLd2.below hLd2.pos hb3
       have hT3 := hT2.below (hb3.mono hb02.size)
       clear hb3 hLd2 hT2 hb02))
  go_loopg [5, 20] L (fun g v i wr => ∃ (k : Nat) (x : Value), g = L - k ∧ k ≤ L ∧ i = .int .i64 k ∧ x = v ∧ Chain wr.heap.size wr n (ss.drop k) x ∧ Below w.heap.size w wr ∧ Texts w.heap.size wr bp ss ∧ Laid wr)
  case atStart => exact ⟨0, v, rfl, by omega, rfl, rfl, hC3, hb03, hT3, hLd3⟩
  case round =>
    clear hC3 hb03 hT3 hLd3
    obtain ⟨k, x, rfl, hk, rfl, rfl, hC, hb, hT, hLd⟩ := hrel
    by_cases hlt : k < L
    · have hlt' : (k : Int) < (L : Int) := by omega
      have hkl : k < ss.length := by omega
      have hne : ss ≠ [] := by intro h0; rw [h0] at hkl; simp at hkl
      obtain ⟨b0, o0, rfl, hlt0, hc⟩ := hT.resolve_left hne
      have c0 := hc k ss[k] (List.getElem?_eq_getElem hkl)
      have hlen : (ss.drop k).length = L - k := by rw [List.length_drop, hLL]
      have hd : ss.drop k = ss[k] :: ss.drop (k + 1) := List.drop_eq_getElem_cons hkl
      rw [hd] at hC hlen
      obtain ⟨r, hrr⟩ : ∃ r, ss.drop (k + 1) = r := ⟨_, rfl⟩
      generalize ss[k] = s at c0 hC hlen
      rw [hrr] at hC hlen
      have Hrr := Lib.hid hrr
      obtain ⟨m, hm⟩ : ∃ m, Hid ((s :: r).length = m) := ⟨_, rfl⟩
      have hmk : m = L - k := by rw [← hm.out]; exact hlen
      have hml : (s :: r).length < 2147483646 := by omega
      clear hc hne hd hrr hlen
      have hsub : IntKind.i64.wrap (m : Int) = (m : Int) := IntWalk.i64_in _ (by omega)
      have hsub2 : (L : Int) - (k : Int) = (m : Int) := by omega
      clear hmk
      have hC' := hC
      obtain ⟨b1, y, rfl, hlt1, hs1, hx1, hCr⟩ := hC'
      have hb3 := (Below.refl wr.heap.size wr).alloc (Nat.le_refl _) (.cells #[.pointer none] 33)
      have hp3 : (wr.alloc (.cells #[.pointer none] 33)).cell? ⟨wr.heap.size, 0, none⟩ = some (.pointer none) := by simp
      have hf3 : (wr.alloc (.cells #[.pointer none] 33)).frozen? ⟨wr.heap.size, 0, none⟩ = false := by simp
      have hz3 : wr.heap.size < (wr.alloc (.cells #[.pointer none] 33)).heap.size := by simp
      have hz0 := hb.size
      go_wp2_with fail
      generalize wr.alloc (.cells #[.pointer none] 33) = w3 at hb3 hp3 hf3 hz3 ⊢
      refine wp_region_held (S := fun _ => True) (by kernel_rfl) ?_
      change wpAnyH _ _ _ _ _ _ _ _ (World.drew _)
      have hb4 : Below wr.heap.size wr w3.drew := hb3.drew
      have hp4 : w3.drew.cell? ⟨wr.heap.size, 0, none⟩ = some (.pointer none) := hp3
      have hf4 : w3.drew.frozen? ⟨wr.heap.size, 0, none⟩ = false := hf3
      have hz4 : wr.heap.size < w3.drew.heap.size := hz3
      clear hb3 hp3 hf3 hz3
      generalize w3.drew = w4 at hb4 hp4 hf4 hz4 ⊢
      have hLd4 := hLd.below hLd.pos hb4
      refine wpAnyH_take (i := 0) (v := .iface 33 (.pointer (some ⟨b1, 0, none⟩))) rfl (by kernel_rfl) (by kernel_rfl) (by kernel_rfl) (fun _ _ _ h => h) (Or.inl ⟨by rfl, ?_⟩) trivial ?_
      · intro w' hw'; go_simp
      try simp only [List.getElem_toArray, List.getElem_cons_zero, Act.put, List.setIfInBounds_toArray, List.set]
      refine wpAnyH_take (i := 1) (v := .iface 37 (.pointer (some ⟨wr.heap.size, 0, none⟩))) rfl (by kernel_rfl) (by kernel_rfl) (by kernel_rfl) (fun _ _ _ h => h) (Or.inl ⟨by rfl, ?_⟩) trivial ?_
      · intro w' hw'; go_simp
      try simp only [List.getElem_toArray, List.getElem_cons_succ, List.getElem_cons_zero, Act.put, List.setIfInBounds_toArray, List.set]
      refine wpAnyH_one 2 _ rfl (by kernel_rfl) (by rfl) (fun K hK => ?_)
      go_simp
      refine (as_outer b1 (.pointer none) ⟨wr.heap.size, 0, none⟩ w4 hLd4 hp4 hf4).mono ?_
      rintro e w5 ⟨rfl, hS5⟩
      refine hK _ _ trivial ?_
      clear hK K
      try simp only [List.getElem_toArray, List.getElem_cons_succ, List.getElem_cons_zero, Act.put, List.setIfInBounds_toArray, List.set]
      have hb5 := hb4.trans (hS5.below (B := wr.heap.size) (by omega) (by simp))
      have hr5 := hS5.cell
      have hl5 : wr.heap.size < w5.heap.size := Nat.lt_of_lt_of_le hz4 hS5.grown.size
      have c1 : w5.cell? ⟨b1, 0, none⟩ = some (.string s) := (hb5.cell (p := ⟨b1, 0, none⟩) hlt1).trans hs1
      have c0 : w5.cell? ⟨b0, o0 + k, none⟩ = some (.string s) := (hb5.cell (p := ⟨b0, o0 + k, none⟩) (by simp only; omega)).trans c0
      have hlt1 : b1 < w5.heap.size := by omega
      have hlt0 : b0 < w5.heap.size := by omega
      have hC5 := (hC.below hb5).mono hb5.size
      have hLd5 := hLd.below hLd.pos hb5
      clear hs1 hb4 hS5 hp4 hf4 hz4 hLd4
      refine wpAnyH_mono (S := fun w' => Below w5.heap.size w5 w') (fun _ _ => trivial) ?_
      have hR := Below.refl w5.heap.size w5
      refine wpAnyH_take (i := 3) (v := .bool false) rfl (by kernel_rfl) (by kernel_rfl) (by kernel_rfl) (fun _ _ _ h => h) (Or.inl ⟨by rfl, ?_⟩) hR ?_
      · intro w' hw'; go_simp
      try simp only [List.getElem_toArray, List.getElem_cons_succ, List.getElem_cons_zero, Act.put, List.setIfInBounds_toArray, List.set]
      refine wpAnyH_take (i := 4) (v := .bool false) rfl (by kernel_rfl) (by kernel_rfl) (by kernel_rfl) (fun _ _ _ h => h) (Or.inl ⟨by rfl, ?_⟩) hR ?_
      · intro w' hw'; go_simp
      try simp only [List.getElem_toArray, List.getElem_cons_succ, List.getElem_cons_zero, Act.put, List.setIfInBounds_toArray, List.set]
      refine wpAnyH_take (i := 5) (v := .pointer (some ⟨b1, 0, none⟩)) rfl (by kernel_rfl) (by kernel_rfl) (by kernel_rfl) (fun _ _ _ h => h) (Or.inl ⟨by rfl, ?_⟩) hR ?_
      · intro w' hw'; have cc := (hw'.cell (p := ⟨wr.heap.size, 0, none⟩) hl5).trans hr5; go_simp
      try simp only [List.getElem_toArray, List.getElem_cons_succ, List.getElem_cons_zero, Act.put, List.setIfInBounds_toArray, List.set]
      refine wpAnyH_take (i := 6) (v := .pointer (some ⟨b1, 0, none⟩)) rfl (by kernel_rfl) (by kernel_rfl) (by kernel_rfl) (fun _ _ _ h => h) (Or.inl ⟨by rfl, ?_⟩) hR ?_
      · intro w' hw'; go_simp
      try simp only [List.getElem_toArray, List.getElem_cons_succ, List.getElem_cons_zero, Act.put, List.setIfInBounds_toArray, List.set]
      refine wpAnyH_take (i := 7) (v := .pointer (some ⟨b1, 0, none⟩)) rfl (by kernel_rfl) (by kernel_rfl) (by kernel_rfl) (fun _ _ _ h => h) (Or.inl ⟨by rfl, ?_⟩) hR ?_
      · intro w' hw'; go_simp
      try simp only [List.getElem_toArray, List.getElem_cons_succ, List.getElem_cons_zero, Act.put, List.setIfInBounds_toArray, List.set]
      refine wpAnyH_take (i := 8) (v := .string s) rfl (by kernel_rfl) (by kernel_rfl) (by kernel_rfl) (fun _ _ _ h => h) (Or.inl ⟨by rfl, ?_⟩) hR ?_
      · intro w' hw'; have cc := (hw'.cell (p := ⟨b1, 0, none⟩) hlt1).trans c1; go_simp
      try simp only [List.getElem_toArray, List.getElem_cons_succ, List.getElem_cons_zero, Act.put, List.setIfInBounds_toArray, List.set]
      refine wpAnyH_take (i := 9) (v := .slice (some ⟨b0, o0, none⟩) L cap) rfl (by kernel_rfl) (by kernel_rfl) (by kernel_rfl) (fun _ _ _ h => h) (Or.inl ⟨by rfl, ?_⟩) hR ?_
      · intro w' hw'; go_simp
      try simp only [List.getElem_toArray, List.getElem_cons_succ, List.getElem_cons_zero, Act.put, List.setIfInBounds_toArray, List.set]
      refine wpAnyH_take (i := 10) (v := .int .i64 (k : Int)) rfl (by kernel_rfl) (by kernel_rfl) (by kernel_rfl) (fun _ _ _ h => h) (Or.inl ⟨by rfl, ?_⟩) hR ?_
      · intro w' hw'; go_simp
      try simp only [List.getElem_toArray, List.getElem_cons_succ, List.getElem_cons_zero, Act.put, List.setIfInBounds_toArray, List.set]
      refine wpAnyH_take (i := 11) (v := .pointer (some ⟨b0, o0 + k, none⟩)) rfl (by kernel_rfl) (by kernel_rfl) (by kernel_rfl) (fun _ _ _ h => h) (Or.inl ⟨by rfl, ?_⟩) hR ?_
      · intro w' hw'; go_simp
      try simp only [List.getElem_toArray, List.getElem_cons_succ, List.getElem_cons_zero, Act.put, List.setIfInBounds_toArray, List.set]
      refine wpAnyH_take (i := 12) (v := .string s) rfl (by kernel_rfl) (by kernel_rfl) (by kernel_rfl) (fun _ _ _ h => h) (Or.inl ⟨by rfl, ?_⟩) hR ?_
      · intro w' hw'; have cc := (hw'.cell (p := ⟨b0, o0 + k, none⟩) hlt0).trans c0; go_simp
      try simp only [List.getElem_toArray, List.getElem_cons_succ, List.getElem_cons_zero, Act.put, List.setIfInBounds_toArray, List.set]
      refine wpAnyH_take (i := 13) (v := .bool false) rfl (by kernel_rfl) (by kernel_rfl) (by kernel_rfl) (fun _ _ _ h => h) (Or.inl ⟨by rfl, ?_⟩) hR ?_
      · intro w' hw'; go_simp
      try simp only [List.getElem_toArray, List.getElem_cons_succ, List.getElem_cons_zero, Act.put, List.setIfInBounds_toArray, List.set]
      refine wpAnyH_take (i := 14) (v := .bool false) rfl (by kernel_rfl) (by kernel_rfl) (by kernel_rfl) (fun _ _ _ h => h) (Or.inl ⟨by rfl, ?_⟩) hR ?_
      · intro w' hw'; go_simp
      try simp only [List.getElem_toArray, List.getElem_cons_succ, List.getElem_cons_zero, Act.put, List.setIfInBounds_toArray, List.set]
      refine wpAnyH_take (i := 15) (v := .bool false) rfl (by kernel_rfl) (by kernel_rfl) (by kernel_rfl) (fun _ _ _ h => h) (Or.inl ⟨by rfl, ?_⟩) hR ?_
      · intro w' hw'; go_simp
      try simp only [List.getElem_toArray, List.getElem_cons_succ, List.getElem_cons_zero, Act.put, List.setIfInBounds_toArray, List.set]
      refine wpAnyH_take (i := 16) (v := .iface 33 (.pointer (some ⟨b1, 0, none⟩))) rfl (by kernel_rfl) (by kernel_rfl) (by kernel_rfl) (fun _ _ _ h => h) (Or.inl ⟨by rfl, ?_⟩) hR ?_
      · intro w' hw'; go_simp
      try simp only [List.getElem_toArray, List.getElem_cons_succ, List.getElem_cons_zero, Act.put, List.setIfInBounds_toArray, List.set]
      refine wpAnyH_take (i := 19) (v := .slice (some ⟨b0, o0, none⟩) L cap) rfl (by kernel_rfl) (by kernel_rfl) (by kernel_rfl) (fun _ _ _ h => h) (Or.inl ⟨by rfl, ?_⟩) hR ?_
      · intro w' hw'; go_simp
      try simp only [List.getElem_toArray, List.getElem_cons_succ, List.getElem_cons_zero, Act.put, List.setIfInBounds_toArray, List.set]
      refine wpAnyH_take (i := 20) (v := .int .i64 (L : Int)) rfl (by kernel_rfl) (by kernel_rfl) (by kernel_rfl) (fun _ _ _ h => h) (Or.inl ⟨by rfl, ?_⟩) hR ?_
      · intro w' hw'; go_simp
      try simp only [List.getElem_toArray, List.getElem_cons_succ, List.getElem_cons_zero, Act.put, List.setIfInBounds_toArray, List.set]
      refine wpAnyH_take (i := 21) (v := .int .i64 (k : Int)) rfl (by kernel_rfl) (by kernel_rfl) (by kernel_rfl) (fun _ _ _ h => h) (Or.inl ⟨by rfl, ?_⟩) hR ?_
      · intro w' hw'; go_simp
      try simp only [List.getElem_toArray, List.getElem_cons_succ, List.getElem_cons_zero, Act.put, List.setIfInBounds_toArray, List.set]
      refine wpAnyH_take (i := 22) (v := .int .i64 (m : Int)) rfl (by kernel_rfl) (by kernel_rfl) (by kernel_rfl) (fun _ _ _ h => h) (Or.inl ⟨by rfl, ?_⟩) hR ?_
      · intro w' hw'; go_simp
      try simp only [List.getElem_toArray, List.getElem_cons_succ, List.getElem_cons_zero, Act.put, List.setIfInBounds_toArray, List.set]
      refine wpAnyH_one 17 _ rfl (by kernel_rfl) (by rfl) (fun K hK => ?_)
      go_simp
      refine (way_any n (s :: r) _ w5 hLd5 hC5 (by omega)).mono ?_
      rintro e w6 ⟨bp6, cap6, rfl, hb6, _⟩
      rw [hm.out]
      refine hK _ _ hb6 ?_
      clear hK K
      try simp only [List.getElem_toArray, List.getElem_cons_succ, List.getElem_cons_zero, Act.put, List.setIfInBounds_toArray, List.set]
      refine wpAnyH_take (i := 18) (v := .int .i64 (m : Int)) rfl (by kernel_rfl) (by kernel_rfl) (by kernel_rfl) (fun _ _ _ h => h) (Or.inl ⟨by rfl, ?_⟩) hb6 ?_
      · intro w' hw'; go_simp
      try simp only [List.getElem_toArray, List.getElem_cons_succ, List.getElem_cons_zero, Act.put, List.setIfInBounds_toArray, List.set]
      refine wpAnyH_take (i := 23) (v := .bool false) rfl (by kernel_rfl) (by kernel_rfl) (by kernel_rfl) (fun _ _ _ h => h) (Or.inl ⟨by rfl, ?_⟩) hb6 ?_
      · intro w' hw'; go_simp
      try simp only [List.getElem_toArray, List.getElem_cons_succ, List.getElem_cons_zero, Act.put, List.setIfInBounds_toArray, List.set]
      refine wpAnyH_take (i := 24) (v := .bool false) rfl (by kernel_rfl) (by kernel_rfl) (by kernel_rfl) (fun _ _ _ h => h) (Or.inl ⟨by rfl, ?_⟩) hb6 ?_
      · intro w' hw'; go_simp
      try simp only [List.getElem_toArray, List.getElem_cons_succ, List.getElem_cons_zero, Act.put, List.setIfInBounds_toArray, List.set]
      refine wpAnyH_done (by kernel_rfl) ?_ _
      have hb06 := hb5.trans (hb6.mono hb5.size)
      have hr6 := (hb6.cell (p := ⟨wr.heap.size, 0, none⟩) hl5).trans hr5
      have hx6 := (hb06.cell (p := ⟨b1, 1, none⟩) (by simp only; omega)).trans hx1
      have hC6 := (hCr.below hb06).mono hb06.size
      have hLd6 := hLd.below hLd.pos hb06
      have hT6 := hT.below (hb06.mono hb.size)
      have hbw6 := hb.trans (hb06.mono hb.size)
      clear c0 c1 hr5 hC5 hLd5 hb5 hb6 hR hsub hsub2 hm
      go_wp2_with (go_at_call 18; refine (unwrap_at b1 y _ hx6).mono ?_; rintro e w' ⟨rfl, rfl⟩)
      go_roundg (L - (k + 1))
      case measure => omega
      case rel => exact ⟨k + 1, y, rfl, by omega, by go_num, rfl, by rw [Hrr.out]; exact hC6, hbw6, hT6, hLd6⟩
    · obtain rfl : k = L := by omega
      have hge : ¬ ((k : Int) < (k : Int)) := by omega
      have hC1 : x = .iface 22 (.int .i64 n) := by
        have : ss.drop k = [] := by rw [← hLL, List.drop_length]
        rw [this] at hC
        exact hC
      subst hC1
      clear hT hC
      have hb4 := ((Below.refl wr.heap.size wr).alloc (Nat.le_refl _) (.cells #[.pointer none] 33)).alloc (by simp) (.cells #[.int .i64 0] 22)
      obtain ⟨w4, hw4⟩ : ∃ w4, w4 = (wr.alloc (.cells #[.pointer none] 33)).alloc (.cells #[.int .i64 0] 22) := ⟨_, rfl⟩
      have hp4 : w4.cell? ⟨wr.heap.size, 0, none⟩ = some (.pointer none) := by rw [hw4, World.cell?_alloc_lt _ _ ⟨wr.heap.size, 0, none⟩ (by simp)]; simp
      have hg4 : w4.frozen? ⟨wr.heap.size, 0, none⟩ = false := by rw [hw4]; simp [World.frozen?_alloc_old]
      have hn4 : w4.cell? ⟨wr.heap.size + 1, 0, none⟩ = some (.int .i64 0) := by rw [hw4]; simp
      have hf4 : w4.frozen? ⟨wr.heap.size + 1, 0, none⟩ = false := by rw [hw4]; simp
      have hz4 : w4.heap.size = wr.heap.size + 2 := by rw [hw4]; simp
      rw [← hw4] at hb4
      have hC : ∀ W : World, Chain W.heap.size W n [] (.iface 22 (.int .i64 n)) := fun _ => rfl
      have hLd4 := hLd.below hLd.pos hb4
      have HW4 := Lib.hid hw4.symm
      clear hw4
      go_wp2_with (first
        | (rw [HW4.out]; go_at_call 14; have H := as_none n (.pointer none) ⟨wr.heap.size, 0, none⟩ w4 hLd4 hp4 hg4; (with_reducible refine H.mono ?_); clear H; rintro e w5 ⟨rfl, hb5⟩
           have hn5 := (hb5.cell (p := ⟨wr.heap.size + 1, 0, none⟩) (by simp only; omega)).trans hn4
           have hf5 := (hb5.frozen (p := ⟨wr.heap.size + 1, 0, none⟩) (by simp only; omega)).trans hf4
           have hLd5 := hLd4.below hLd4.pos hb5
           have hb05 := hb4.trans (hb5.mono hb4.size)
           have hz5 := hb5.size
           clear HW4 hp4 hg4 hn4 hf4 hLd4)
        | (go_at_call 14; have H := as_number n [] _ (.int .i64 0) ⟨wr.heap.size + 1, 0, none⟩ w5 hLd5 (hC w5) hn5 hf5; (with_reducible refine H.mono ?_); clear H; rintro e w6 ⟨rfl, hS6⟩
           have hr6 := hS6.cell
           have hb06 := hb05.trans (hS6.below (B := wr.heap.size) (by omega) (by simp))
           have hLd6 := hLd.below hLd.pos hb06
           clear hn5 hf5 hLd5)
        | (go_at_call 11; refine (way_any n [] _ w6 hLd6 (hC w6) (by simp)).mono ?_; rintro e w7 ⟨bp7, cap7, rfl, hb7, _⟩
           have hb07 := hb06.trans (hb7.mono hb06.size)))
      go_ret
      exact ⟨rfl, hb.trans (hb07.mono hb.size)⟩
end Go.Proofs.YtbkbhmgmlcmanaaDoor
